/- LexMeans: the model's side -/
import Derived.Test.YtplpdikkkbiacaaGreatDoorXs
import Derived.Test.YtplpdikkkbiacaaGreatDoorUe
namespace Go.Proofs.YtplpdikkkbiacaaGreatDoor
open Go.RowKit
set_option linter.unusedVariables false
set_option linter.unusedSimpArgs false

/-- what LexMeans tells -/
def MeansR (n : Nat) (N : Nat → ByteArray) (K : Nat → Sh) (t : ByteArray) (L : List Tk) (b : Nat) : Prop := (RulesGood n N K ∧ t.size ≤ 12 ∧ CutEnd (BestV n K t) t.size L b) ∨ ((¬ RulesGood n N K ∨ 12 < t.size) ∧ L = [] ∧ b = 0)
theorem MeansR.unique {n : Nat} {N : Nat → ByteArray} {K : Nat → Sh} {t : ByteArray} {L L' : List Tk} {b b' : Nat} (h : MeansR n N K t L b) (h' : MeansR n N K t L' b') : L = L' ∧ b = b' := by
  rcases h with ⟨a1, a2, a3⟩ | ⟨a1, a2, a3⟩ <;> rcases h' with ⟨b1, b2, b3⟩ | ⟨b1, b2, b3⟩
  · exact a3.unique (fun a _ r x r' x' h1 h2 => h1.unique h2) b3
  · rcases b1 with b1 | b1
    · exact absurd a1 b1
    · omega
  · rcases a1 with a1 | a1
    · exact absurd b1 a1
    · omega
  · exact ⟨a2.trans b2.symm, a3.trans b3.symm⟩

set_option maxRecDepth 100000 in
set_option maxHeartbeats 4000000 in
theorem specLexMeans_any (a : Option Addr) (b off n cap : Nat) (N : Nat → ByteArray) (K : Nat → Sh) (M : Nat → Mx) (t : ByteArray) (w : World) (hga : 0 < n → a = some ⟨b, off, none⟩) (hR : RulesIn AnyB w b off n N K M) (hn : n ≤ 1048576)
    (hN : ∀ i, i < n → (N i).size ≤ 1048576) (hc : ∀ i, i < n → cnt (K i) ≤ 1048576) (ht : t.size ≤ 4611686018427387904) :
    Calls Tryz.prog 5 #[.slice a n cap, .string t] w (TokRes (MeansR n N K t) w) := by
  obtain ⟨W0, hW0⟩ : ∃ W0, W0 = w.alloc (.cells #[] 46) := ⟨_, rfl⟩
  have hb0 : Below w.heap.size w W0 := by rw [hW0]; exact (Below.refl _ _).alloc (Nat.le_refl _) _
  have H1 : Hid (Calls Tryz.prog 14 #[.slice a n cap] W0 (RulesRes n N K W0)) := specRulesOk_any a b off n cap N K M W0 hga (hR.below hb0) hn hN hc
  have H3 : Hid (∀ V, Calls Tryz.prog 15 #[.string t] V fun e w' => e = .returned (.bool (decide ((t.size : Int) ≤ 12))) ∧ w' = V) := specWord_any t
  have H2 : Hid (∀ (V : World) (c : Nat), Below w.heap.size w V → n ≤ 5 → c ≤ t.size → t.size ≤ 12 → Calls Tryz.prog 16 #[.slice a n cap, .string t, .int .i64 c] V (IsTwo (BestV n K t c) V)) := fun V c hV h5 hct h12 => specBest_any a b off n cap N K M t c V hga (hR.below hV) h5 hc h12 hct
  have HB0 : Hid (Below w.heap.size w W0) := hb0
  have HO0 : Hid (W0.ownsRow w.heap.size 46 3 (.slice (some ⟨w.heap.size, 0, none⟩) ([] : List Tk).length 0) ([] : List Tk).length (cellsT [])) := by
    rw [hW0]
    exact World.ownsRow_lit (base := w.heap.size) (size := 3) (e := 46) w #[] 0 (by simp) (by unfold maxLen; omega) rfl
  obtain ⟨i0, hi, hz0, hz1, hz2⟩ := info_parts Tryz.infoTokA
  clear hR hN hc hga
  go_enter Tryz.func5, Tryz.ntmps5
  go_wp2_with fail
  rw [← hW0]
  have hs0 : w.heap.size < W0.heap.size := by rw [hW0]; simp
  clear hW0 hb0
  refine H1.out.mono ?_
  rintro e w1 ⟨ok, rfl, hok, hb1⟩
  have HOK : Hid (ok = true ↔ RulesGood n N K) := hok
  have HB1 : Hid (Below w.heap.size w w1) := HB0.out.trans (hb1.mono HB0.out.size)
  have HW1 : Hid (Below W0.heap.size W0 w1) := hb1
  have HO1 : Hid (w1.ownsRow w.heap.size 46 3 (.slice (some ⟨w.heap.size, 0, none⟩) ([] : List Tk).length 0) ([] : List Tk).length (cellsT [])) := own_belowT HO0.out hb1
  clear hok hb1
  cases ok
  · go_wp2_with fail
    refine bodyPost_ret (v := .tuple #[.slice (some ⟨w.heap.size, 0, none⟩) 0 0, .int .i64 0]) (by simp [results, Tryz.results5, go_sem]) rfl ?_
    exact ⟨_, [], 0, rfl, .inr ⟨.inl (fun h => by have := HOK.out.2 h; cases this), rfl, rfl⟩, HO1.out, HB1.out⟩
  have HD : Hid (RulesGood n N K) := HOK.out.1 rfl
  have h5 : n ≤ 5 := HD.out.2.1
  by_cases c1 : 12 < t.size
  · have c1z : decide ((t.size : Int) ≤ 12) = false := decide_eq_false (by omega)
    rw [c1z] at H3
    go_wp2_with fail
    refine (H3.out _).mono ?_
    rintro e w2 ⟨rfl, hw2⟩
    subst w2
    go_wp2_with fail
    refine bodyPost_ret (v := .tuple #[.slice (some ⟨w.heap.size, 0, none⟩) 0 0, .int .i64 0]) (by simp [results, Tryz.results5, go_sem]) rfl ?_
    exact ⟨_, [], 0, rfl, .inr ⟨.inr c1, rfl, rfl⟩, HO1.out, HB1.out⟩
  have c1z : decide ((t.size : Int) ≤ 12) = true := decide_eq_true (by omega)
  rw [c1z] at H3
  have hl12 : t.size ≤ 12 := by omega
  clear c1 c1z
  go_wp2_with fail
  refine (H3.out _).mono ?_
  rintro e w2 ⟨rfl, hw2⟩
  subst w2
  go_wp2_with fail
  go_loopw [6, 7] (fun o i wr => ∃ (L : List Tk) (c : Nat) (g k : Nat), c ≤ t.size ∧ i = .int .i64 c ∧ o = .slice (some ⟨g, 0, none⟩) L.length k ∧ L.length ≤ c ∧ Hid (CutFrom (BestV n K t) t.size 0 L c) ∧ Hid (wr.ownsRow w.heap.size 46 3 (.slice (some ⟨g, 0, none⟩) L.length k) L.length (cellsT L)) ∧ Hid (Below w.heap.size w wr) ∧ w.heap.size < wr.heap.size) (fun _ i _ => t.size - (intOf i).toNat)
  case atStart => exact ⟨[], 0, w.heap.size, 0, Nat.zero_le _, rfl, rfl, Nat.le_refl _, rfl, HO1.out, HB1.out, by have := HW1.out.size; omega⟩
  case round =>
    obtain ⟨L, c, g, k, hc, rfl, rfl, hLc, HC, HO, HB, hs2⟩ := hrel
    by_cases hlt : c < t.size
    · have hltz : (c : Int) < (t.size : Int) := by omega
      have H2' := H2.out wr c HB.out h5 hc hl12
      go_wp2_with fail
      refine H2'.mono ?_
      clear H2'
      rintro e w2 ⟨r, x, rfl, hv, hb2⟩
      obtain ⟨⟨v1, v2⟩, ⟨v3, v4⟩, v5, v6⟩ := bestV_finds h5 K t c hc r x hv
      have HV : Hid (BestV n K t c r x) := hv
      have HO2 : Hid (w2.ownsRow w.heap.size 46 3 (.slice (some ⟨g, 0, none⟩) L.length k) L.length (cellsT L)) := own_belowT HO.out hb2
      have HB2 : Hid (Below w.heap.size w w2) := HB.out.trans (hb2.mono (by omega))
      have hs3 : w.heap.size < w2.heap.size := by have := hb2.size; omega
      clear hv hb2 HO HB
      by_cases hr : r < 0
      · have e1 : r = -1 := by omega
        have HE : Hid (MeansR n N K t L c) := .inl ⟨HD.out, hl12, HC.out, .inr ⟨hlt, x, e1 ▸ HV.out⟩⟩
        clear e1
        go_wp2_with fail
        refine bodyPost_ret (v := .tuple #[.slice (some ⟨g, 0, none⟩) L.length k, .int .i64 c]) (by simp [results, Tryz.results5, go_sem]) rfl ?_
        exact ⟨_, L, c, rfl, HE.out, HO2.out, HB2.out⟩
      · have hr0 : 0 ≤ r := by omega
        have hcx := v6 hr0
        obtain ⟨y, rfl⟩ : ∃ y : Nat, x = (y : Int) := ⟨x.toNat, by omega⟩
        have HCN : Hid (CutFrom (BestV n K t) t.size 0 (L ++ [⟨r, (c : Int), (y : Int)⟩]) y) := HC.out.snoc hlt HV.out (by omega)
        clear v1 v2 v3 v5 v6
        go_wp2_with (at_builtin; refine wpList_append_own _ rfl _ _ 24 rfl w.heap.size 46 i0 _ 3 24 Tryz.underlying24 hi hz0 hz1 hz2 (by simp [Value.cells]) (by decide) _ _ _ rfl (HO2.out.alloc _) ⟨w2.heap.size, 0, none⟩ 1 1 [.int .i64 r, .int .i64 c, .int .i64 y] rfl rfl (cell_three_new _ _ _ _ _) (by simp [Value.oneCell']) (by unfold maxLen; omega) (by omega) (by rw [World.size_alloc]; omega) ?_; intro v' W4 hown4 hgr _; obtain ⟨g4, c4, rfl⟩ := ownsRow_succ hown4; have HO4 : Hid (W4.ownsRow w.heap.size 46 3 (.slice (some ⟨g4, 0, none⟩) (L ++ [(⟨r, (c : Int), (y : Int)⟩ : Tk)]).length c4) (L ++ [(⟨r, (c : Int), (y : Int)⟩ : Tk)]).length (cellsT (L ++ [⟨r, (c : Int), (y : Int)⟩]))) := (by rw [cellsT_snoc, List.length_append]; exact hown4); have HB4 : Hid (Below w.heap.size w W4) := (HB2.out.alloc (by omega) _).grown hgr (by rw [World.size_alloc]; omega) (fun j hj => (HO2.out.lt j hj).1); have hs4 : w.heap.size < W4.heap.size := (by have := hgr.size; rw [World.size_alloc] at this; omega); clear hown4 hgr)
        exact ⟨⟨L ++ [(⟨r, (c : Int), (y : Int)⟩ : Tk)], y, g4, c4, by omega, rfl, by rw [List.length_append]; rfl, by rw [List.length_append, List.length_singleton]; omega, HCN.out, HO4.out, HB4.out, hs4⟩, by simp [intOf]; omega⟩
    · have hltz : ¬ (c : Int) < (t.size : Int) := by omega
      have HE : Hid (MeansR n N K t L c) := .inl ⟨HD.out, hl12, HC.out, .inl (by omega)⟩
      go_wp2_with fail
      refine bodyPost_ret (v := .tuple #[.slice (some ⟨g, 0, none⟩) L.length k, .int .i64 c]) (by simp [results, Tryz.results5, go_sem]) rfl ?_
      exact ⟨_, L, c, rfl, HE.out, HO.out, HB.out⟩
end Go.Proofs.YtplpdikkkbiacaaGreatDoor

