/- the text of tokens; the walk of the model's LexText -/
import Derived.Test.YtndjblfenijjbaaDoorXb
import Derived.Test.YtndjblfenijjbaaDoorVs
import Derived.Lib.ItoaLen
import Derived.Deep.RegionHeld
import Derived.BigCall
import Derived.Shelf.Strings.OnBuilder
namespace Go.Proofs.YtndjblfenijjbaaDoor
open Go.RowKit
set_option linter.unusedVariables false
set_option linter.unusedSimpArgs false

/-- the text of a token -/
def tkT (k : Tk) : List UInt8 := Lib.itoa k.r ++ [58] ++ Lib.itoa k.f ++ [45] ++ Lib.itoa k.t
theorem tkT_len (k : Tk) (h : Tk64 k) : (tkT k).length ≤ 65 := by
  have h1 := itoa_len k.r h.1
  have h2 := itoa_len k.f h.2.1
  have h3 := itoa_len k.t h.2.2
  simp [tkT]; omega
def toksT (K : Nat → Tk) (k : Nat) : List (List UInt8) := (List.range k).map fun i => tkT (K i)
theorem toksT_succ (K : Nat → Tk) (k : Nat) : toksT K (k + 1) = toksT K k ++ [tkT (K k)] := by simp [toksT, List.range_succ]
/-- the texts of the first k tokens, a blank between them -/
def lexT (K : Nat → Tk) (k : Nat) : List UInt8 := Lib.join (toksT K k) [32]
theorem join_snoc' (xs : List (List UInt8)) (x sep : List UInt8) (h : xs ≠ []) : Lib.join (xs ++ [x]) sep = Lib.join xs sep ++ sep ++ x := by
  cases xs with
  | nil => exact absurd rfl h
  | cons y ys =>
    rw [List.cons_append, Lib.join_cons, Lib.join_cons]
    simp [Lib.joinTail]
theorem lexT_zero (K : Nat → Tk) : lexT K 0 = [] := rfl
theorem lexT_one (K : Nat → Tk) : lexT K 1 = tkT (K 0) := by
  unfold lexT
  rw [toksT_succ]
  exact Lib.join_one _ _
theorem lexT_succ (K : Nat → Tk) (k : Nat) (hk : 0 < k) : lexT K (k + 1) = lexT K k ++ [32] ++ tkT (K k) := by
  unfold lexT
  rw [toksT_succ]
  refine join_snoc' _ _ _ (fun e => ?_)
  have := congrArg List.length e
  simp [toksT] at this
  omega
theorem lexT_len (K : Nat → Tk) (k : Nat) (h : ∀ i, i < k → Tk64 (K i)) : (lexT K k).length ≤ 66 * k := by
  induction k with
  | zero => simp [lexT_zero]
  | succ k ih =>
    have i := ih (fun i hi => h i (by omega))
    have hs := tkT_len (K k) (h k (by omega))
    by_cases e : k = 0
    · subst e; rw [lexT_one]; omega
    · rw [lexT_succ K k (by omega)]; simp; omega
theorem lexT_put {K : Nat → Tk} {k : Nat} {s s1 s2 s3 : ByteArray} (hk : 0 < k) (h : tx s = lexT K k) (h1 : tx s1 = Lib.itoa (K k).r) (h2 : tx s2 = Lib.itoa (K k).f) (h3 : tx s3 = Lib.itoa (K k).t) :
    tx (s ++ ⟨#[32]⟩ ++ s1 ++ ⟨#[58]⟩ ++ s2 ++ ⟨#[45]⟩ ++ s3) = lexT K (k + 1) := by
  rw [lexT_succ K k hk]
  simp only [tx_append, h, h1, h2, h3, tkT]
  simp [tx]
theorem lexT_put0 {K : Nat → Tk} {k : Nat} {s s1 s2 s3 : ByteArray} (hk : k = 0) (h : tx s = lexT K k) (h1 : tx s1 = Lib.itoa (K k).r) (h2 : tx s2 = Lib.itoa (K k).f) (h3 : tx s3 = Lib.itoa (K k).t) :
    tx (s ++ s1 ++ ⟨#[58]⟩ ++ s2 ++ ⟨#[45]⟩ ++ s3) = lexT K (k + 1) := by
  subst hk
  rw [lexT_one K]
  simp only [tx_append, h, h1, h2, h3, tkT, lexT_zero]
  simp [tx]

set_option maxRecDepth 100000 in
set_option maxHeartbeats 4000000 in
theorem specLexText_any (a : Option Addr) (b off cap n : Nat) (K : Nat → Tk) (w : World) (hga : 0 < n → a = some ⟨b, off, none⟩) (hc : TkIn w b off n K) (h64 : ∀ i, i < n → Tk64 (K i)) (hn : n ≤ 1048576) :
    Calls Tryd.prog 5 #[.slice a n cap] w fun e w' => ∃ s, e = .returned (.string s) ∧ tx s = lexT K n ∧ Below w.heap.size w w' := by
  have H64 : Hid (∀ i, i < n → Tk64 (K i)) := h64
  have HC : Hid (TkIn w b off n K) := hc
  clear h64 hc
  go_enter Tryd.func5, Tryd.ntmps5
  go_wp2
  go_loopw [3, 4] (fun t i wr => ∃ (k : Nat) (s : ByteArray), k ≤ n ∧ i = .int .i64 k ∧ t = .string s ∧ Hid (tx s = lexT K k) ∧ s.size ≤ 66 * k ∧ Hid (Below w.heap.size w wr)) (fun _ i _ => n - (intOf i).toNat)
  case atStart => exact ⟨0, ⟨#[]⟩, Nat.zero_le _, rfl, rfl, rfl, by simp [ByteArray.size], Below.refl _ _⟩
  case round =>
    obtain ⟨k, s, hk, rfl, rfl, HS, hsz, HB⟩ := hrel
    by_cases hlt : k < n
    · obtain rfl := hga (by omega)
      have hltz : (k : Int) < (n : Int) := by omega
      have HCE : Hid (∀ V, Below wr.heap.size wr V → V.cell? ⟨b, off + k * 3, none⟩ = some (.int .i64 (K k).r) ∧ V.cell? ⟨b, off + k * 3 + 1, none⟩ = some (.int .i64 (K k).f) ∧ V.cell? ⟨b, off + k * 3 + 2, none⟩ = some (.int .i64 (K k).t)) := fun V hV => ((HC.out.below HB.out).below hV) k hlt
      obtain ⟨c0, c1, c2⟩ := HCE.out wr (Below.refl _ _)
      have H4 := H64.out k hlt
      have HD : Hid (∀ x V, (x = (K k).r ∨ x = (K k).f ∨ x = (K k).t) → Calls Tryd.prog 9 #[.int .i64 x] V fun e w' => ∃ s, e = .returned (.string s) ∧ tx s = Lib.itoa x ∧ s.size ≤ 21 ∧ Below V.heap.size V w') := fun x V hx => by
        have hx64 : In64 x := by
          rcases hx with rfl | rfl | rfl
          · exact H4.1
          · exact H4.2.1
          · exact H4.2.2
        exact (dec_any x hx64.1 hx64.2 V).mono fun e w' ⟨s, h1, h2, h3⟩ => ⟨s, h1, h2, size_of h2 (itoa_len x hx64), h3⟩
      clear H4
      by_cases hk0 : 0 < k
      · have hk0z : (0 : Int) < (k : Int) := by omega
        go_wp2_with fail
        have HBR : Hid (Below wr.heap.size wr wr.drew) := (Below.refl _ _).drew
        go_region_held (fun V => V.cell? ⟨b, off + k * 3, none⟩ = some (.int .i64 (K k).r) ∧ V.cell? ⟨b, off + k * 3 + 1, none⟩ = some (.int .i64 (K k).f) ∧ V.cell? ⟨b, off + k * 3 + 2, none⟩ = some (.int .i64 (K k).t)) (go_keep)
          (first
            | (go_at_call_of 9 (Value.int IntKind.i64 (K k).t); refine (HD.out _ w6 (.inr (.inr rfl))).mono ?_; rintro e w7 ⟨s3, rfl, hs3, hz3, hb7⟩; have HB7 : Hid (Below wr.heap.size wr w7) := HB6.out.trans (hb7.mono HB6.out.size); have HS3 : Hid (tx s3 = Lib.itoa (K k).t) := hs3; clear hs3; obtain ⟨x0, x1, x2⟩ := HCE.out w7 HB7.out)
            | (go_at_call_of 9 (Value.int IntKind.i64 (K k).f); refine (HD.out _ w5 (.inr (.inl rfl))).mono ?_; rintro e w6 ⟨s2, rfl, hs2, hz2, hb6⟩; have HB6 : Hid (Below wr.heap.size wr w6) := HB5.out.trans (hb6.mono HB5.out.size); have HS2 : Hid (tx s2 = Lib.itoa (K k).f) := hs2; clear hs2; obtain ⟨y0, y1, y2⟩ := HCE.out w6 HB6.out)
            | (go_at_call_of 9 (Value.int IntKind.i64 (K k).r); refine (HD.out _ wr.drew (.inl rfl)).mono ?_; rintro e w5 ⟨s1, rfl, hs1, hz1, hb5⟩; have HB5 : Hid (Below wr.heap.size wr w5) := HBR.out.trans hb5; have HS1 : Hid (tx s1 = Lib.itoa (K k).r) := hs1; clear hs1; obtain ⟨z0, z1, z2⟩ := HCE.out w5 HB5.out))
        all_goals go_wp2_with fail
        all_goals
          have HT := lexT_put hk0 HS.out HS1.out HS2.out HS3.out
          exact ⟨⟨k + 1, _, by omega, by go_num, rfl, HT, size_of HT (lexT_len K (k + 1) (fun i hi => H64.out i (by omega))), HB.out.trans (HB7.out.mono HB.out.size)⟩, by simp [intOf]; omega⟩
      · have H0 : Hid (k = 0) := by show k = 0; omega
        have hk0z : ¬ (0 : Int) < (k : Int) := by omega
        clear hk0
        go_wp2_with fail
        have HBR : Hid (Below wr.heap.size wr wr.drew) := (Below.refl _ _).drew
        go_region_held (fun V => V.cell? ⟨b, off + k * 3, none⟩ = some (.int .i64 (K k).r) ∧ V.cell? ⟨b, off + k * 3 + 1, none⟩ = some (.int .i64 (K k).f) ∧ V.cell? ⟨b, off + k * 3 + 2, none⟩ = some (.int .i64 (K k).t)) (go_keep)
          (first
            | (go_at_call_of 9 (Value.int IntKind.i64 (K k).t); refine (HD.out _ w6 (.inr (.inr rfl))).mono ?_; rintro e w7 ⟨s3, rfl, hs3, hz3, hb7⟩; have HB7 : Hid (Below wr.heap.size wr w7) := HB6.out.trans (hb7.mono HB6.out.size); have HS3 : Hid (tx s3 = Lib.itoa (K k).t) := hs3; clear hs3; obtain ⟨x0, x1, x2⟩ := HCE.out w7 HB7.out)
            | (go_at_call_of 9 (Value.int IntKind.i64 (K k).f); refine (HD.out _ w5 (.inr (.inl rfl))).mono ?_; rintro e w6 ⟨s2, rfl, hs2, hz2, hb6⟩; have HB6 : Hid (Below wr.heap.size wr w6) := HB5.out.trans (hb6.mono HB5.out.size); have HS2 : Hid (tx s2 = Lib.itoa (K k).f) := hs2; clear hs2; obtain ⟨y0, y1, y2⟩ := HCE.out w6 HB6.out)
            | (go_at_call_of 9 (Value.int IntKind.i64 (K k).r); refine (HD.out _ wr.drew (.inl rfl)).mono ?_; rintro e w5 ⟨s1, rfl, hs1, hz1, hb5⟩; have HB5 : Hid (Below wr.heap.size wr w5) := HBR.out.trans hb5; have HS1 : Hid (tx s1 = Lib.itoa (K k).r) := hs1; clear hs1; obtain ⟨z0, z1, z2⟩ := HCE.out w5 HB5.out))
        all_goals go_wp2_with fail
        all_goals
          have HT := lexT_put0 H0.out HS.out HS1.out HS2.out HS3.out
          exact ⟨⟨k + 1, _, by omega, by go_num, rfl, HT, size_of HT (lexT_len K (k + 1) (fun i hi => H64.out i (by omega))), HB.out.trans (HB7.out.mono HB.out.size)⟩, by simp [intOf]; omega⟩
    · go_wp2
      go_ret
      obtain rfl : k = n := by omega
      exact ⟨s, rfl, HS.out, HB.out⟩
end Go.Proofs.YtndjblfenijjbaaDoor

