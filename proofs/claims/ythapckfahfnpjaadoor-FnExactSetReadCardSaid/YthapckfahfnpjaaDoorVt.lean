/- the walks of the two SetText -/
import Derived.Test.YthapckfahfnpjaaDoorVs
import Derived.Lib.Join
namespace Go.Proofs.YthapckfahfnpjaaDoor
open Go.RowKit
set_option linter.unusedVariables false
set_option linter.unusedSimpArgs false

/-- the texts of the first k spans -/
def spansT (L H : Nat → Int) (k : Nat) : List (List UInt8) := (List.range k).map fun i => spanT (L i) (H i)
theorem spansT_succ (L H : Nat → Int) (k : Nat) : spansT L H (k + 1) = spansT L H k ++ [spanT (L k) (H k)] := by simp [spansT, List.range_succ]
/-- a comma between them -/
def joinT (L H : Nat → Int) (k : Nat) : List UInt8 := Lib.join (spansT L H k) [44]
theorem join_snoc (xs : List (List UInt8)) (x sep : List UInt8) (h : xs ≠ []) : Lib.join (xs ++ [x]) sep = Lib.join xs sep ++ sep ++ x := by
  cases xs with
  | nil => exact absurd rfl h
  | cons y ys =>
    rw [List.cons_append, Lib.join_cons, Lib.join_cons]
    simp [Lib.joinTail]
theorem joinT_zero (L H : Nat → Int) : joinT L H 0 = [] := rfl
theorem joinT_one (L H : Nat → Int) : joinT L H 1 = spanT (L 0) (H 0) := by
  unfold joinT
  rw [spansT_succ]
  exact Lib.join_one _ _
theorem joinT_succ (L H : Nat → Int) (k : Nat) (hk : 0 < k) : joinT L H (k + 1) = joinT L H k ++ [44] ++ spanT (L k) (H k) := by
  unfold joinT
  rw [spansT_succ]
  refine join_snoc _ _ _ (fun e => ?_)
  have := congrArg List.length e
  simp [spansT] at this
  omega
theorem joinT_len (L H : Nat → Int) (k : Nat) (h : ∀ i, i < k → In64 (L i) ∧ In64 (H i)) : (joinT L H k).length ≤ 44 * k := by
  induction k with
  | zero => simp [joinT_zero]
  | succ k ih =>
    have i := ih (fun i hi => h i (by omega))
    have hs := spanT_len (L k) (H k) (h k (by omega)).1 (h k (by omega)).2
    by_cases e : k = 0
    · subst e; rw [joinT_one]; omega
    · rw [joinT_succ L H k (by omega)]; simp; omega
theorem itoa_ne (n : Int) : Lib.itoa n ≠ [] := by
  unfold Lib.itoa
  split
  · simp
  · rw [Lib.decDigits]; split <;> simp
theorem spanT_ne (x y : Int) : spanT x y ≠ [] := by
  unfold spanT
  split
  · exact itoa_ne x
  · simp
theorem joinT_ne (L H : Nat → Int) (k : Nat) (hk : 0 < k) : joinT L H k ≠ [] := by
  cases k with
  | zero => omega
  | succ k =>
    by_cases e : k = 0
    · subst e; rw [joinT_one]; exact spanT_ne _ _
    · rw [joinT_succ L H k (by omega)]
      intro h
      exact spanT_ne _ _ (List.append_eq_nil_iff.1 h).2
/-- the text of a set -/
def setT (n : Nat) (L H : Nat → Int) : List UInt8 := if n = 0 then [110, 111] else joinT L H n

theorem joinT_step (L H : Nat → Int) (k : Nat) (s t : ByteArray) (h : tx s = joinT L H k) (ht : tx t = (if k = 0 then [] else [44]) ++ spanT (L k) (H k)) : tx (s ++ t) = joinT L H (k + 1) := by
  rw [tx_append, h, ht]
  by_cases e : k = 0
  · subst e; simp [joinT_one, joinT_zero]
  · rw [joinT_succ L H k (by omega), if_neg e, List.append_assoc]

theorem joinT_sz (L H : Nat → Int) (n k : Nat) (s : ByteArray) (h : tx s = joinT L H (k + 1)) (hin : ∀ i, i < n → In64 (L i) ∧ In64 (H i)) (hlt : k < n) (hn : n ≤ 4194304) : s.size ≤ 200000000 :=
  size_of h (Nat.le_trans (joinT_len L H (k + 1) (fun i hi => hin i (by omega))) (by omega))
theorem to_drewN {B : Nat} {a b : World} (k : Nat) (h : Below B a b) : Below B a (b.drewN k) := ⟨h.os, h.tape, h.output, h.size, h.block⟩
theorem un_drewN {B : Nat} {a b : World} (k : Nat) (h : Below B (a.drewN k) b) : Below B a b := ⟨h.os, h.tape, h.output, h.size, h.block⟩
theorem empty_tx (s : ByteArray) (h : tx s = []) : s.toList.isEmpty = true := by
  rw [ByteArray.toList_eq, show s.data.toList = [] from h]; rfl
theorem full_tx (s : ByteArray) (h : tx s ≠ []) : s.toList.isEmpty = false := by
  rw [ByteArray.toList_eq]
  cases hl : s.data.toList with
  | nil => exact absurd hl h
  | cons _ _ => rfl

set_option maxRecDepth 100000 in
set_option maxHeartbeats 2000000 in
theorem specSetText_any (a : Option Addr) (b off cap n : Nat) (L H : Nat → Int) (w : World) (hga : 0 < n → a = some ⟨b, off, none⟩) (hc : Sp w b off n L H) (hin : ∀ i, i < n → In64 (L i) ∧ In64 (H i)) (hn : n ≤ 4194304) :
    Calls Tryd.prog 13 #[.slice a n cap] w fun e w' => ∃ s, e = .returned (.string s) ∧ tx s = setT n L H ∧ Below w.heap.size w w' := by
  go_enter Tryd.func13, Tryd.ntmps13
  go_wp2
  go_loopw [3, 4] (fun t i wr => ∃ (k : Nat) (s : ByteArray), k ≤ n ∧ i = .int .i64 k ∧ t = .string s ∧ s.size ≤ 200000000 ∧ Hid (tx s = joinT L H k) ∧ Below w.heap.size w wr) (fun _ i _ => n - (intOf i).toNat)
  case atStart => exact ⟨0, ⟨#[]⟩, Nat.zero_le _, rfl, rfl, by simp [ByteArray.size], rfl, Below.refl _ _⟩
  case round =>
    obtain ⟨k, s, hk, rfl, rfl, hsz, HS, hB⟩ := hrel
    by_cases hlt : k < n
    · obtain rfl := hga (by omega)
      have hltz : (k : Int) < (n : Int) := by omega
      obtain ⟨c1, c2⟩ := (hc.below hB) k hlt
      obtain ⟨i1, i2⟩ := hin k hlt
      have hsB : s.size ≤ 200000000 := hsz
      by_cases h0 : k = 0
      · have h0z : ¬ ((0 : Int) < (k : Int)) := by omega
        have H0 : Hid (k = 0) := h0
        clear h0
        by_cases hxy : H k = L k
        · have hq : (H k != L k) = false := by simp [hxy]
          have HT : Hid (spanT (L k) (H k) = Lib.itoa (L k)) := by show spanT _ _ = _; rw [spanT, if_pos hxy]
          clear hxy
          go_wp2_with fail
          refine (dec_any (L k) i1.1 i1.2 _).mono ?_
          rintro e w1 ⟨s1, rfl, hs1, hb1⟩
          have hB1 : Below w.heap.size w w1 := hB.trans (Below.mono (by first | exact hb1 | exact un_drew hb1) hB.size)
          obtain ⟨d1, d2⟩ := (hc.below hB1) k hlt
          have hsz1 := size_of hs1 (itoa_len _ i1)
          have HS1 : Hid (tx s1 = Lib.itoa (L k)) := hs1
          clear hs1 hb1 c1 c2 hB
          go_wp2_with fail
          go_quiet (fail)
          go_wp2
          have hj : tx (s ++ s1) = joinT L H (k + 1) := joinT_step L H k s s1 HS.out (by rw [HS1.out, HT.out, if_pos H0.out, List.nil_append])
          go_roundw
          case rel => exact ⟨k + 1, _, by omega, by go_num, rfl, joinT_sz L H n k _ hj hin hlt hn, hj, to_drewN _ hB1⟩
          case measure => simp [intOf]; omega
        · have hq : (H k != L k) = true := by simp [hxy]
          have HT : Hid (spanT (L k) (H k) = Lib.itoa (L k) ++ [45] ++ Lib.itoa (H k)) := by show spanT _ _ = _; rw [spanT, if_neg hxy]
          clear hxy
          go_wp2_with fail
          refine (dec_any (L k) i1.1 i1.2 _).mono ?_
          rintro e w1 ⟨s1, rfl, hs1, hb1⟩
          have hB1 : Below w.heap.size w w1 := hB.trans (Below.mono (by first | exact hb1 | exact un_drew hb1) hB.size)
          obtain ⟨d1, d2⟩ := (hc.below hB1) k hlt
          have hsz1 := size_of hs1 (itoa_len _ i1)
          have HS1 : Hid (tx s1 = Lib.itoa (L k)) := hs1
          clear hs1 hb1 c1 c2 hB
          go_wp2_with fail
          go_quiet (fail)
          go_wp2_with fail
          refine (dec_any (H k) i2.1 i2.2 _).mono ?_
          rintro e w2 ⟨s2, rfl, hs2, hb2⟩
          have hB2 : Below w.heap.size w w2 := hB1.trans (Below.mono (un_drewN _ hb2) hB1.size)
          have hsz2 := size_of hs2 (itoa_len _ i2)
          have HS2 : Hid (tx s2 = Lib.itoa (H k)) := hs2
          clear hs2 hb2 hB1
          go_wp2
          have hj : tx (s ++ s1 ++ ⟨#[45]⟩ ++ s2) = joinT L H (k + 1) := by
            have h1 := joinT_step L H k s (s1 ++ ⟨#[45]⟩ ++ s2) HS.out (by rw [tx_append, tx_append, HS1.out, HS2.out, HT.out, if_pos H0.out, List.nil_append]; rfl)
            rw [← h1]
            simp only [tx_append, List.append_assoc]
          go_roundw
          case rel => exact ⟨k + 1, _, by omega, by go_num, rfl, joinT_sz L H n k _ hj hin hlt hn, hj, hB2⟩
          case measure => simp [intOf]; omega
      · have h0z : (0 : Int) < (k : Int) := by omega
        by_cases hxy : H k = L k
        · have hq : (H k != L k) = false := by simp [hxy]
          have HT : Hid (spanT (L k) (H k) = Lib.itoa (L k)) := by show spanT _ _ = _; rw [spanT, if_pos hxy]
          clear hxy
          go_wp2_with fail
          refine (dec_any (L k) i1.1 i1.2 _).mono ?_
          rintro e w1 ⟨s1, rfl, hs1, hb1⟩
          have hB1 : Below w.heap.size w w1 := hB.trans (Below.mono (by first | exact hb1 | exact un_drew hb1) hB.size)
          obtain ⟨d1, d2⟩ := (hc.below hB1) k hlt
          have hsz1 := size_of hs1 (itoa_len _ i1)
          have HS1 : Hid (tx s1 = Lib.itoa (L k)) := hs1
          clear hs1 hb1 c1 c2 hB
          go_wp2_with fail
          go_quiet (fail)
          go_wp2
          have hj : tx (s ++ ⟨#[44]⟩ ++ s1) = joinT L H (k + 1) := by
            rw [joinT_succ L H k (by omega), tx_append, tx_append, HS.out, HS1.out, HT.out]; rfl
          go_roundw
          case rel => exact ⟨k + 1, _, by omega, by go_num, rfl, joinT_sz L H n k _ hj hin hlt hn, hj, to_drewN _ hB1⟩
          case measure => simp [intOf]; omega
        · have hq : (H k != L k) = true := by simp [hxy]
          have HT : Hid (spanT (L k) (H k) = Lib.itoa (L k) ++ [45] ++ Lib.itoa (H k)) := by show spanT _ _ = _; rw [spanT, if_neg hxy]
          clear hxy
          go_wp2_with fail
          refine (dec_any (L k) i1.1 i1.2 _).mono ?_
          rintro e w1 ⟨s1, rfl, hs1, hb1⟩
          have hB1 : Below w.heap.size w w1 := hB.trans (Below.mono (by first | exact hb1 | exact un_drew hb1) hB.size)
          obtain ⟨d1, d2⟩ := (hc.below hB1) k hlt
          have hsz1 := size_of hs1 (itoa_len _ i1)
          have HS1 : Hid (tx s1 = Lib.itoa (L k)) := hs1
          clear hs1 hb1 c1 c2 hB
          go_wp2_with fail
          go_quiet (fail)
          go_wp2_with fail
          refine (dec_any (H k) i2.1 i2.2 _).mono ?_
          rintro e w2 ⟨s2, rfl, hs2, hb2⟩
          have hB2 : Below w.heap.size w w2 := hB1.trans (Below.mono (un_drewN _ hb2) hB1.size)
          have hsz2 := size_of hs2 (itoa_len _ i2)
          have HS2 : Hid (tx s2 = Lib.itoa (H k)) := hs2
          clear hs2 hb2 hB1
          go_wp2
          have hj : tx (s ++ ⟨#[44]⟩ ++ s1 ++ ⟨#[45]⟩ ++ s2) = joinT L H (k + 1) := by
            rw [joinT_succ L H k (by omega), tx_append, tx_append, tx_append, tx_append, HS.out, HS1.out, HS2.out, HT.out]
            simp only [List.append_assoc]; rfl
          go_roundw
          case rel => exact ⟨k + 1, _, by omega, by go_num, rfl, joinT_sz L H n k _ hj hin hlt hn, hj, hB2⟩
          case measure => simp [intOf]; omega
    · obtain rfl : k = n := by omega
      have hlz : ¬ ((k : Int) < (k : Int)) := by omega
      by_cases h0 : k = 0
      · have he : s.toList.isEmpty = true := by
          exact empty_tx s (by rw [HS.out, h0]; rfl)
        have H0 : Hid (k = 0) := h0
        clear h0
        go_wp2
        go_ret
        exact ⟨_, rfl, by rw [setT, if_pos H0.out]; rfl, hB⟩
      · have he : s.toList.isEmpty = false := full_tx s (by rw [HS.out]; exact joinT_ne L H k (by omega))
        have H0 : Hid (¬ k = 0) := h0
        clear h0
        go_wp2
        go_ret
        exact ⟨_, rfl, by rw [setT, if_neg H0.out]; exact HS.out, hB⟩
end Go.Proofs.YthapckfahfnpjaaDoor

