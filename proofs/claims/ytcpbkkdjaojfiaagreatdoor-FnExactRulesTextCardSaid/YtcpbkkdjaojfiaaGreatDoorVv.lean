/- spec.RexText; the kinds' words; the words of the parts make the text -/
import Derived.Test.YtcpbkkdjaojfiaaGreatDoorVu
import Derived.Test.YtcpbkkdjaojfiaaGreatDoorTn
import Derived.Test.YtcpbkkdjaojfiaaGreatDoorTl
namespace Go.Proofs.YtcpbkkdjaojfiaaGreatDoor
open Go.RowKit Go.Shelf
set_option linter.unusedVariables false
set_option linter.unusedSimpArgs false

def textR (S : Sh) : List UInt8 := if okR S then textS S else []
theorem okR_form8 {S : Sh} (h : okR S = true) : formB 8 S = true := by simp only [okR, Bool.and_eq_true] at h; exact h.1

set_option maxRecDepth 100000 in
set_option maxHeartbeats 2000000 in
theorem specRexText_any (S : Sh) (M : Mx) (w : World) (h : In AnyB w S M) (hcnt : cnt S ≤ 1048576) :
    Calls Tryz.prog 11 #[vx S M] w fun e w' => e = .returned (.string ⟨(textR S).toArray⟩) ∧ Below w.heap.size w w' := by
  have H1 : Hid (∀ w1, Below w.heap.size w w1 → Calls Tryz.prog 20 #[vx S M] w1 fun e w' => e = .returned (.bool (okR S)) ∧ Below w1.heap.size w1 w') := fun w1 hb => specRexOk_any S M w1 (h.below hb) hcnt
  have H2 : Hid (okR S = true → ∀ w1, Below w.heap.size w w1 → Calls Tryz.prog 21 #[vx S M] w1 fun e w' => ∃ s, e = .returned (.string s) ∧ tx s = textS S ∧ Below w1.heap.size w1 w') := fun ho w1 hb => l2Text_any S M w1 8 (h.below hb) (okR_form8 ho) hcnt
  obtain ⟨a, n, c, a', m, c', hv⟩ := h.value
  rw [hv] at H1 H2 ⊢
  clear hv
  have hB0 : Below w.heap.size w (w.alloc (.cells #[.int .i64 S.kind, .slice a n c, .slice a' m c'] 40)) := (Below.refl _ _).alloc (Nat.le_refl _) _
  by_cases hf : okR S = true
  · have H3 : Hid _ := H2.out hf
    rw [hf] at H1
    have HR : Hid (textR S = textS S) := by simp [Hid, textR, hf]
    clear hf H2
    go_enter Tryz.func11, Tryz.ntmps11
    go_wp2_with fail
    refine (H1.out _ hB0).mono ?_
    rintro e w1 ⟨rfl, hb1⟩
    obtain ⟨hc1, hf1⟩ := bcell hb1
    have r0 : w1.cell? ⟨w.heap.size, 0, none⟩ = some (.int .i64 S.kind) := by rw [hc1 _ _ (by simp)]; simp [go_sem]
    have r1 : w1.cell? ⟨w.heap.size, 1, none⟩ = some (.slice a n c) := by rw [hc1 _ _ (by simp)]; simp [go_sem]
    have r2 : w1.cell? ⟨w.heap.size, 2, none⟩ = some (.slice a' m c') := by rw [hc1 _ _ (by simp)]; simp [go_sem]
    clear hc1 hf1
    have hB1 := hB0.trans (hb1.mono hB0.size)
    go_wp2_with fail
    refine (H3.out _ hB1).mono ?_
    rintro e w2 ⟨s, rfl, hs, hb2⟩
    go_wp2_with fail
    go_ret
    refine ⟨?_, hB1.trans (hb2.mono hB1.size)⟩
    rw [HR.out, ← hs]; simp [tx]
  · have hf' : okR S = false := Bool.eq_false_iff.2 hf
    rw [hf'] at H1
    have HR : Hid (textR S = []) := by simp [Hid, textR, hf']
    clear hf hf' H2
    go_enter Tryz.func11, Tryz.ntmps11
    go_wp2_with fail
    refine (H1.out _ hB0).mono ?_
    rintro e w1 ⟨rfl, hb1⟩
    go_wp2_with fail
    go_ret
    exact ⟨by rw [HR.out]; rfl, hB0.trans (hb1.mono hB0.size)⟩

def wordF (k : Int) : FuncId := 110 - 4 + 4 * k.toNat
theorem meth_word (k : Int) (h : kidsOf k ≠ -1) (nm : String) (hn : nm = (Tryz.f27.body.bind invCode).getD "") (w : World) : (method 297 (kindT k) (.agg #[]) nm).run Tryz.prog w = .ok (wordF k, .agg #[]) w := by
  subst hn
  rcases kind_cases h with rfl | rfl | rfl | rfl | rfl | rfl | rfl
  all_goals kernel_rfl
theorem enter_word (k : Int) (h : kidsOf k ≠ -1) (args : Array Value) (w : World) : (callFunc (wordF k) args).run Tryz.prog w = .ok (.enter (wordF k) args) w := by
  rcases kind_cases h with rfl | rfl | rfl | rfl | rfl | rfl | rfl
  · exact enters_of Tryz.func110 (by kernel_rfl) rfl args w
  · exact enters_of Tryz.func114 (by kernel_rfl) rfl args w
  · exact enters_of Tryz.func118 (by kernel_rfl) rfl args w
  · exact enters_of Tryz.func122 (by kernel_rfl) rfl args w
  · exact enters_of Tryz.func126 (by kernel_rfl) rfl args w
  · exact enters_of Tryz.func130 (by kernel_rfl) rfl args w
  · exact enters_of Tryz.func134 (by kernel_rfl) rfl args w
theorem word_1 (w : World) : Calls Tryz.prog 110 #[.agg #[]] w fun e w' => e = .returned (.string (wordS 1)) ∧ Below w.heap.size w w' := by
  go_enter Tryz.func110, Tryz.ntmps110
  go_wp2
  go_ret
  exact ⟨rfl, (Below.refl _ _).alloc (Nat.le_refl _) _⟩
theorem word_2 (w : World) : Calls Tryz.prog 114 #[.agg #[]] w fun e w' => e = .returned (.string (wordS 2)) ∧ Below w.heap.size w w' := by
  go_enter Tryz.func114, Tryz.ntmps114
  go_wp2
  go_ret
  exact ⟨rfl, (Below.refl _ _).alloc (Nat.le_refl _) _⟩
theorem word_3 (w : World) : Calls Tryz.prog 118 #[.agg #[]] w fun e w' => e = .returned (.string (wordS 3)) ∧ Below w.heap.size w w' := by
  go_enter Tryz.func118, Tryz.ntmps118
  go_wp2
  go_ret
  exact ⟨rfl, (Below.refl _ _).alloc (Nat.le_refl _) _⟩
theorem word_4 (w : World) : Calls Tryz.prog 122 #[.agg #[]] w fun e w' => e = .returned (.string (wordS 4)) ∧ Below w.heap.size w w' := by
  go_enter Tryz.func122, Tryz.ntmps122
  go_wp2
  go_ret
  exact ⟨rfl, (Below.refl _ _).alloc (Nat.le_refl _) _⟩
theorem word_5 (w : World) : Calls Tryz.prog 126 #[.agg #[]] w fun e w' => e = .returned (.string (wordS 5)) ∧ Below w.heap.size w w' := by
  go_enter Tryz.func126, Tryz.ntmps126
  go_wp2
  go_ret
  exact ⟨rfl, (Below.refl _ _).alloc (Nat.le_refl _) _⟩
theorem word_6 (w : World) : Calls Tryz.prog 130 #[.agg #[]] w fun e w' => e = .returned (.string (wordS 6)) ∧ Below w.heap.size w w' := by
  go_enter Tryz.func130, Tryz.ntmps130
  go_wp2
  go_ret
  exact ⟨rfl, (Below.refl _ _).alloc (Nat.le_refl _) _⟩
theorem word_7 (w : World) : Calls Tryz.prog 134 #[.agg #[]] w fun e w' => e = .returned (.string (wordS 7)) ∧ Below w.heap.size w w' := by
  go_enter Tryz.func134, Tryz.ntmps134
  go_wp2
  go_ret
  exact ⟨rfl, (Below.refl _ _).alloc (Nat.le_refl _) _⟩
theorem word_ok (k : Int) (h : kidsOf k ≠ -1) (w : World) : Calls Tryz.prog (wordF k) #[.agg #[]] w fun e w' => e = .returned (.string (wordS k.toNat)) ∧ Below w.heap.size w w' := by
  rcases kind_cases h with rfl | rfl | rfl | rfl | rfl | rfl | rfl
  · exact word_1 w
  · exact word_2 w
  · exact word_3 w
  · exact word_4 w
  · exact word_5 w
  · exact word_6 w
  · exact word_7 w

/-- the words of a part -/
def partW (x : Part) : List ByteArray := wordS x.2.1.kind.toNat :: if x.2.1.kind = 1 then [⟨(setT x.2.1.n x.2.1.L x.2.1.H).toArray⟩] else []
def wordsL (xs : List Part) : List ByteArray := xs.flatMap partW
theorem wordsL_snoc (xs : List Part) (x : Part) : wordsL (xs ++ [x]) = wordsL xs ++ partW x := by simp [wordsL]
theorem join_app (sep : List UInt8) (ys : List (List UInt8)) (hy : ys ≠ []) (xs : List (List UInt8)) (hx : xs ≠ []) : Lib.join (xs ++ ys) sep = Lib.join xs sep ++ sep ++ Lib.join ys sep := by
  cases xs with
  | nil => exact absurd rfl hx
  | cons x xs =>
    cases ys with
    | nil => exact absurd rfl hy
    | cons y ys =>
      rw [List.cons_append, Lib.join_cons, Lib.join_cons, Lib.join_cons]
      simp [Lib.joinTail]
theorem wordsL_ne {xs : List Part} (h : xs ≠ []) : wordsL xs ≠ [] := by
  cases xs with
  | nil => exact absurd rfl h
  | cons x xs => simp [wordsL, partW]
theorem partsL_ne (S : Sh) (d : Nat) (M : Mx) : partsL S d M ≠ [] := by
  obtain ⟨kind, n, L, H, m, K, rfl, _⟩ := Sh.cases S
  obtain ⟨sv, kv, Mk, rfl⟩ := Mx.cases M
  rw [partsL_mk]; simp
theorem wordsL_cat (x : List ByteArray) (hx : x ≠ []) (f : Nat → List Part) (g : Nat → List UInt8) : ∀ m : Nat, (∀ i, i < m → f i ≠ []) → (∀ i, i < m → Lib.join ((wordsL (f i)).map tx) [32] = g i) →
    Lib.join ((x ++ wordsL (catN f m)).map tx) [32] = Lib.join (x.map tx) [32] ++ catN (fun i => 32 :: g i) m
  | 0, _, _ => by simp [catN, wordsL]
  | m + 1, hn, hg => by
    have ih := wordsL_cat x hx f g m (fun i hi => hn i (by omega)) (fun i hi => hg i (by omega))
    have e1 : (x ++ wordsL (catN f (m + 1))).map tx = (x ++ wordsL (catN f m)).map tx ++ (wordsL (f m)).map tx := by simp [catN, wordsL]
    rw [e1, join_app [32] _ (by simp [wordsL_ne (hn m (by omega))]) _ (by simp [hx]), ih, hg m (by omega)]
    simp [catN, List.append_assoc]
theorem words_text {S : Sh} : ∀ {d d0 : Nat} {M : Mx}, formB d0 S = true → Lib.join ((wordsL (partsL S d M)).map tx) [32] = textS S := by
  induction S using Sh.ind with
  | h kind n L H m K ih =>
    intro d d0 M hf
    obtain ⟨sv, kv, M, rfl⟩ := Mx.cases M
    cases d0 with
    | zero => simp [formB] at hf
    | succ d0 =>
      obtain ⟨hg, hfk⟩ := form_kid hf
      obtain ⟨k, rfl, hk1, hk7⟩ := good_kind hg
      rw [partsL_mk]
      have e0 : wordsL ((d, Sh.mk (k : Int) n L H m K, Mx.mk sv kv M) :: catN (fun i => partsL (K i) (d + 1) (M i)) m) = partW (d, Sh.mk (k : Int) n L H m K, Mx.mk sv kv M) ++ wordsL (catN (fun i => partsL (K i) (d + 1) (M i)) m) := by simp [wordsL]
      rw [e0, wordsL_cat _ (by simp [partW]) _ (fun i => textS (K i)) m (fun i hi => partsL_ne _ _ _) (fun i hi => ih i hi (hfk i hi))]
      by_cases e1 : k = 1
      · subst e1
        have hm : m = 0 := by
          simp only [goodB, Bool.and_eq_true, beq_iff_eq] at hg
          have := hg.1.1
          simp [kidsOf] at this
          omega
        subst hm
        rw [show ((1 : Nat) : Int) = 1 from rfl, textS_one]
        simp [partW, catN, tx, Lib.join_cons, Lib.joinTail, wordS, Sh.mk]
      · rw [textS_mk k e1]
        congr 1
        have : ¬ (k : Int) = 1 := by omega
        simp [partW, this, Lib.join_one, tx_wordS, Sh.mk]
end Go.Proofs.YtcpbkkdjaojfiaaGreatDoor

