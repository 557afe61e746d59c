/- the model's l1Sort: the sets in the order of their first bytes -/
import Derived.Test.YtjpmdbaalhieoaaDoorBp
import Derived.Test.YtjpmdbaalhieoaaDoorBf
namespace Go.Proofs.YtjpmdbaalhieoaaDoor
open Go.RowKit
set_option linter.unusedVariables false
set_option linter.unusedSimpArgs false

/-- b is the first byte of B -/
def isFst (b : Nat) (B : Nat → Bool) : Bool := B b && (List.range b).all (fun y => !B y)
theorem isFst_iff {b : Nat} {B : Nat → Bool} : isFst b B = true ↔ B b = true ∧ ∀ y, y < b → B y = false := by
  simp [isFst, List.all_eq_true]
theorem first_is {B C : Nat → Bool} {r : Int} {b : Nat} (h : FirstB C r) (hb : b < 256) (he : ∀ x, x < 256 → C x = B x) : (r = (b : Int)) ↔ isFst b B = true := by
  rw [isFst_iff]
  rcases h with ⟨rfl, h⟩ | ⟨x, hx, rfl, h1, h2⟩
  · constructor
    · intro e; omega
    · rintro ⟨e, _⟩
      rw [← he b hb, h b hb] at e; cases e
  · constructor
    · intro e
      obtain rfl : x = b := by omega
      exact ⟨by rw [← he x hx]; exact h1, fun y hy => by rw [← he y (by omega)]; exact h2 y hy⟩
    · rintro ⟨e1, e2⟩
      rcases Nat.lt_trichotomy x b with g | g | g
      · have := e2 x g; rw [← he x hx, h1] at this; cases this
      · rw [g]
      · have := h2 b g; rw [he b hb, e1] at this; cases this
/-- the sets whose first byte lies below b, in the order of these -/
def sortL (P : List (Nat → Bool)) (b : Nat) : List (Nat → Bool) := (List.range b).flatMap fun b => P.filter (isFst b)
theorem sortL_snoc (P : List (Nat → Bool)) (b : Nat) : sortL P (b + 1) = sortL P b ++ P.filter (isFst b) := by simp [sortL, List.range_succ]
theorem sortL_len (P : List (Nat → Bool)) (b : Nat) : (sortL P b).length ≤ b * P.length := by
  induction b with
  | zero => simp [sortL]
  | succ b ih =>
    rw [sortL_snoc, List.length_append, Nat.succ_mul]
    have := List.length_filter_le (isFst b) P
    omega
theorem LR.down {W : World} {base base' : Nat} {v : Value} {P : List (Nat → Bool)} {X : List Value} (h : LR W base v P X) (hb : base' ≤ base) : LR W base' v P X :=
  ⟨h.len, ownsRow_down h.head hb, fun i x B h1 h2 => ownsRow_down (h.sets i x B h1 h2) hb⟩

set_option maxRecDepth 100000 in
set_option maxHeartbeats 4000000 in
theorem l1Sort_any (b cv base : Nat) (P : List (Nat → Bool)) (X : List Value) (w : World) (hin : LR w base (.slice (some ⟨b, 0, none⟩) P.length cv) P X) (hbase : base ≤ w.heap.size) (hP : P.length ≤ 256) :
    Calls Tryd.prog 14 #[.slice (some ⟨b, 0, none⟩) P.length cv] w fun e w' => ∃ g c X', e = .returned (.slice (some ⟨g, 0, none⟩) (sortL P 256).length c) ∧ LR w' base (.slice (some ⟨g, 0, none⟩) (sortL P 256).length c) (sortL P 256) X' ∧ Below w.heap.size w w' := by
  obtain ⟨i0, hi, hz0, hz1, hz2⟩ := info_parts Tryd.infoSet
  have HIN : Hid (LR w base (.slice (some ⟨b, 0, none⟩) P.length cv) P X) := hin
  clear hin
  go_enter Tryd.func14, Tryd.ntmps14
  go_wp2_with fail
  go_loopw [3, 4] (fun t i wr => ∃ (k g c : Nat) (X' : List Value), k ≤ 256 ∧ i = .int .i64 k ∧ t = .slice (some ⟨g, 0, none⟩) (sortL P k).length c ∧ Hid (LR wr base (.slice (some ⟨g, 0, none⟩) (sortL P k).length c) (sortL P k) X') ∧ w.heap.size ≤ g ∧ Below w.heap.size w wr) (fun _ i _ => 256 - (intOf i).toNat)
  case atStart => exact ⟨0, _, 0, [], Nat.zero_le _, rfl, rfl, LR.nil w _ hbase, Nat.le_refl _, (Below.refl _ _).alloc (Nat.le_refl _) _⟩
  case round =>
    obtain ⟨k, g, c, X', hk, rfl, rfl, HL, hg, hB⟩ := hrel
    by_cases hlt : k < 256
    · have hltz : (k : Int) < 256 := by omega
      go_wp2_with fail
      go_loopw [3, 5] (fun t i wq => ∃ (j g c : Nat) (X' : List Value), j ≤ P.length ∧ i = .int .i64 j ∧ t = .slice (some ⟨g, 0, none⟩) (sortL P k ++ (P.take j).filter (isFst k)).length c ∧ Hid (LR wq base (.slice (some ⟨g, 0, none⟩) (sortL P k ++ (P.take j).filter (isFst k)).length c) (sortL P k ++ (P.take j).filter (isFst k)) X') ∧ w.heap.size ≤ g ∧ Below w.heap.size w wq) (fun _ i _ => P.length - (intOf i).toNat)
      case atStart => exact ⟨0, g, c, X', Nat.zero_le _, rfl, by simp, by simpa using HL, hg, hB⟩
      case round =>
        clear HL hg hB
        obtain ⟨j, g2, c2, X2, hj, rfl, rfl, HL, hg, hB⟩ := hrel
        have HB : Hid (Below w.heap.size w wr) := hB
        have HG : Hid (w.heap.size ≤ g2) := hg
        obtain ⟨L0, hL0⟩ : ∃ L0, sortL P k ++ (P.take j).filter (isFst k) = L0 := ⟨_, rfl⟩
        have HL3 : Hid (LR wr base (.slice (some ⟨g2, 0, none⟩) L0.length c2) L0 X2) := by rw [← hL0]; exact HL.out
        have HLE : Hid (sortL P k ++ (P.take j).filter (isFst k) = L0) := hL0
        rw [hL0]
        have hlen : L0.length ≤ 70000 := by
          rw [← hL0, List.length_append]
          have h1 := sortL_len P k
          have h2 := List.length_filter_le (isFst k) (P.take j)
          have h3 : k * P.length ≤ 256 * 256 := Nat.mul_le_mul hk hP
          rw [List.length_take] at h2
          omega
        clear hL0 HL hg hB
        by_cases hjl : j < P.length
        · have hjz : (j : Int) < (P.length : Int) := by omega
          obtain ⟨A, hA⟩ : ∃ A, P[j]? = some A := ⟨_, List.getElem?_eq_getElem hjl⟩
          obtain ⟨x, hx⟩ : ∃ x, X[j]? = some x := ⟨_, List.getElem?_eq_getElem (by rw [HIN.out.len]; exact hjl)⟩
          have HTK : Hid (sortL P k ++ (P.take (j + 1)).filter (isFst k) = L0 ++ if isFst k A then [A] else []) := by
            rw [Hid, ← HLE.out, List.take_add_one, hA, List.filter_append, ← List.append_assoc]
            cases h : isFst k A <;> simp [h]
          have HST : Hid (SetIs wr base x A) := (HIN.out.below HB.out).sets j x A hx hA
          have hcx : wr.cell? ⟨b, j, none⟩ = some x := by
            have := (HIN.out.below HB.out).head.cellAt j (by omega)
            rw [this]; exact hx
          obtain ⟨ax, gx, cx, rfl, hgx, hsx⟩ := HST.out.open
          have HF : Hid (Calls Tryd.prog 30 #[.slice ax (runs A 256).length cx] wr fun e w' => ∃ r : Int, e = .returned (.int .i64 r) ∧ FirstB (hs (runs A 256).length (Lor (runs A 256)) (Hir (runs A 256))) r ∧ w' = wr) := specSetFirst_any ax gx 0 cx (runs A 256).length _ _ wr hgx hsx (Nat.le_trans (runs_le A) (by omega))
          clear hgx hsx hx hA
          go_wp2_with fail
          refine HF.out.mono ?_
          rintro e w2 ⟨r, rfl, hr, hw2⟩
          subst w2
          have hri := first_is hr hlt (runs_has A)
          clear hr
          cases hA : isFst k A
          case true =>
            rw [hA] at hri
            obtain rfl : r = (k : Int) := hri.2 rfl
            have HE : Hid (sortL P k ++ (P.take (j + 1)).filter (isFst k) = L0 ++ [A]) := by rw [HTK.out, hA, if_pos rfl]; rfl
            clear hri hA
            go_wp2_with (at_builtin; (refine wpList_append_own_at _ rfl _ _ 24 rfl base 34 i0 _ 1 24 Tryd.underlying24 hi hz0 hz1 hz2 (by simp [Value.cells]) (by decide) _ _ _ rfl (HL3.out.head.alloc _) ⟨wr.heap.size, 0, none⟩ 1 1 [.slice ax (runs A 256).length cx] rfl rfl (cell_one_new _ _ _) (by simp [Value.oneCell']) (by unfold maxLen; omega) (by omega) (by rw [World.size_alloc]; have := HB.out.size; omega) ?_; intro v' W4 hown4 hgr _ hat; obtain ⟨g4, c4, rfl⟩ := ownsRow_succ hown4; have HL4 : Hid (LR W4 base (.slice (some ⟨g4, 0, none⟩) (L0.length + 1) c4) (L0 ++ [A]) (X2 ++ [.slice ax (runs A 256).length cx])) := HL3.out.push HST.out ((Below.refl _ _).alloc (Nat.le_refl _) _) hown4 hgr; have HB4 : Hid (Below w.heap.size w W4) := (HB.out.alloc HB.out.size _).grown hgr (by rw [World.size_alloc]; have := HB.out.size; omega) (fun j hj => Nat.le_trans HG.out (Nat.le_of_eq (Option.some.inj (show some g2 = some j from hj)))); have HG4 : Hid (w.heap.size ≤ g4) := (by rcases hat with e | e; exact Nat.le_trans HG.out (Nat.le_of_eq (Option.some.inj (show some g2 = some g4 from e.symm))); (simp only [Value.ownBlock, World.size_alloc, Option.some.injEq] at e; have := HB.out.size; show w.heap.size ≤ g4; omega)); clear hown4 hgr hat))
            go_roundw
            case rel => exact ⟨j + 1, g4, c4, _, by omega, by go_num, by rw [HE.out, List.length_append]; rfl, by rw [HE.out, List.length_append]; exact HL4.out, HG4.out, HB4.out⟩
            case measure => simp [intOf]; omega
          case false =>
            rw [hA] at hri
            have hrk : ¬ r = (k : Int) := fun e => by have := hri.1 e; cases this
            have HE : Hid (sortL P k ++ (P.take (j + 1)).filter (isFst k) = L0) := by rw [HTK.out, hA, if_neg (by simp), List.append_nil]; rfl
            clear hri hA
            go_wp2_with fail
            go_roundw
            case rel => exact ⟨j + 1, g2, c2, X2, by omega, by go_num, by rw [HE.out], by rw [HE.out]; exact HL3.out, HG.out, HB.out⟩
            case measure => simp [intOf]; omega
        · have hjz : ¬ (j : Int) < (P.length : Int) := by omega
          have HE : Hid (sortL P (k + 1) = L0) := by rw [Hid, sortL_snoc, ← HLE.out, List.take_of_length_le (by omega)]
          go_wp2_with fail
          go_roundw
          case rel => exact ⟨k + 1, g2, c2, X2, by omega, by go_num, by rw [HE.out], by rw [HE.out]; exact HL3.out, HG.out, HB.out⟩
          case measure => simp [intOf]; omega
    · obtain rfl : k = 256 := by omega
      go_wp2_with fail
      go_ret
      exact ⟨g, c, X', rfl, HL.out, hB⟩
end Go.Proofs.YtjpmdbaalhieoaaDoor

