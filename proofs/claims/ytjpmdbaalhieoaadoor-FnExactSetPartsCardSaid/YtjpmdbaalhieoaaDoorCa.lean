/- parts in the order of their first bytes: there is one such list -/
import Derived.Test.YtjpmdbaalhieoaaDoorBr
import Derived.Test.YtjpmdbaalhieoaaDoorBv
import Derived.Sort.Statements
namespace Go.Proofs.YtjpmdbaalhieoaaDoor
open Go.RowKit
set_option linter.unusedVariables false
set_option linter.unusedSimpArgs false

/-- the first byte of a set; -1, if it has none -/
def fstI (B : Nat → Bool) : Int := match (List.range 256).find? B with | some x => (x : Int) | none => -1
theorem fstI_is (B : Nat → Bool) : FirstB B (fstI B) := by
  unfold fstI
  cases h : (List.range 256).find? B with
  | none =>
    rw [List.find?_eq_none] at h
    exact .inl ⟨rfl, fun x hx => by simpa using h x (List.mem_range.2 hx)⟩
  | some x =>
    rw [List.find?_range_eq_some] at h
    obtain ⟨h1, h2, h3⟩ := h
    exact .inr ⟨x, List.mem_range.1 h2, rfl, h1, fun y hy => by simpa using h3 y hy⟩
theorem fstI_fst {B : Nat → Bool} {b : Nat} (hb : b < 256) : isFst b B = true ↔ fstI B = (b : Int) := (first_is (fstI_is B) hb (fun _ _ => rfl)).symm
theorem cmpI_lt {x y : Int} : decide (cmpI x y < 0) = decide (x < y) := by
  unfold cmpI
  by_cases h : x < y
  · simp [h]
  · by_cases h2 : y < x <;> simp [h, h2]

theorem fst_inj {P : List (Nat → Bool)} (h : PartsP P) : ∀ A, A ∈ P → ∀ B, B ∈ P → fstI A = fstI B → A = B := by
  intro A hA B hB e
  obtain ⟨i, hi, rfl⟩ := List.getElem_of_mem hA
  obtain ⟨j, hj, rfl⟩ := List.getElem_of_mem hB
  have hp := List.pairwise_iff_getElem.1 h.2
  have hf : ∀ i (hi : i < P.length), ∃ x : Nat, x < 256 ∧ fstI P[i] = (x : Int) ∧ P[i] x = true := fun i hi => by
    rcases fstI_is P[i] with ⟨_, h0⟩ | ⟨x, hx, h1, h2, _⟩
    · obtain ⟨x, hx, hb⟩ := anyB_true (h.1 _ (List.getElem_mem hi))
      rw [h0 x hx] at hb; cases hb
    · exact ⟨x, hx, h1, h2⟩
  obtain ⟨x, hx, x1, x2⟩ := hf i hi
  obtain ⟨y, hy, y1, y2⟩ := hf j hj
  have : x = y := by rw [x1, y1] at e; omega
  subst this
  rcases Nat.lt_trichotomy i j with g | g | g
  · exact absurd ⟨x2, y2⟩ (hp i j hi hj g x hx)
  · subst g; rfl
  · exact absurd ⟨y2, x2⟩ (hp j i hj hi g x hx)
theorem sortL_cons (A : Nat → Bool) (P : List (Nat → Bool)) : ∀ n, n ≤ 256 → (sortL (A :: P) n).Perm ((if 0 ≤ fstI A ∧ fstI A < n then [A] else []) ++ sortL P n)
  | 0, _ => by
    have : ¬ (0 ≤ fstI A ∧ fstI A < ((0 : Nat) : Int)) := by omega
    rw [if_neg this]
    exact List.Perm.refl _
  | n + 1, hn => by
    have ih := sortL_cons A P n (by omega)
    rw [sortL_snoc, sortL_snoc, List.filter_cons]
    by_cases h : isFst n A = true
    · have e := (fstI_fst (by omega)).1 h
      rw [if_pos h, if_pos (by omega)]
      rw [if_neg (by omega), List.nil_append] at ih
      refine (List.Perm.append_right _ ih).trans ?_
      exact List.perm_middle (a := A) (l₁ := sortL P n) (l₂ := P.filter (isFst n))
    · have e : fstI A ≠ (n : Int) := fun e => h ((fstI_fst (by omega)).2 e)
      rw [if_neg h]
      have hc : (0 ≤ fstI A ∧ fstI A < ((n + 1 : Nat) : Int)) ↔ (0 ≤ fstI A ∧ fstI A < (n : Int)) := by omega
      simp only [hc]
      rw [← List.append_assoc]
      exact List.Perm.append_right _ ih
theorem sortL_perm_n (n : Nat) (hn : n ≤ 256) : ∀ P : List (Nat → Bool), (∀ B, B ∈ P → 0 ≤ fstI B ∧ fstI B < (n : Int)) → (sortL P n).Perm P
  | [], _ => by simp [sortL]
  | A :: P, h => by
    refine (sortL_cons A P n hn).trans ?_
    rw [if_pos (h A List.mem_cons_self)]
    exact List.Perm.cons A (sortL_perm_n n hn P (fun B hB => h B (List.mem_cons_of_mem _ hB)))
theorem fst_in {A : Nat → Bool} (h : anyB A = true) : ∃ x : Nat, x < 256 ∧ fstI A = (x : Int) := by
  rcases fstI_is A with ⟨_, h0⟩ | ⟨x, hx, h1, _⟩
  · obtain ⟨x, hx, hb⟩ := anyB_true h
    rw [h0 x hx] at hb; cases hb
  · exact ⟨x, hx, h1⟩
theorem sortL_perm {P : List (Nat → Bool)} (h : ∀ B, B ∈ P → anyB B = true) : (sortL P 256).Perm P :=
  sortL_perm_n 256 (Nat.le_refl _) P (fun B hB => by
    obtain ⟨x, hx, e⟩ := fst_in (h B hB)
    rw [e]
    exact ⟨Int.natCast_nonneg x, Int.ofNat_lt.2 hx⟩)
theorem sortL_sorted (P : List (Nat → Bool)) : ∀ n, n ≤ 256 → (sortL P n).Pairwise (fun A B => fstI A ≤ fstI B) ∧ ∀ A, A ∈ sortL P n → fstI A < (n : Int)
  | 0, _ => by simp [sortL]
  | n + 1, hn => by
    obtain ⟨h1, h2⟩ := sortL_sorted P n (by omega)
    have hf : ∀ A, A ∈ P.filter (isFst n) → fstI A = (n : Int) := fun A hA => (fstI_fst (by omega)).1 (List.mem_filter.1 hA).2
    rw [sortL_snoc]
    refine ⟨List.pairwise_append.2 ⟨h1, List.Pairwise.imp_of_mem (fun hA hB _ => ?_) (List.pairwise_of_forall (R := fun _ _ => True) (fun _ _ => trivial)), fun A hA B hB => ?_⟩, fun A hA => ?_⟩
    · rw [hf _ hA, hf _ hB]; exact Int.le_refl _
    · have := h2 A hA; have := hf B hB; omega
    · rcases List.mem_append.1 hA with hA | hA
      · have := h2 A hA; omega
      · have := hf A hA; omega
theorem sorted_one : ∀ (L M : List (Nat → Bool)), L.Perm M → L.Pairwise (fun A B => fstI A ≤ fstI B) → M.Pairwise (fun A B => fstI A ≤ fstI B) → (∀ A, A ∈ L → ∀ B, B ∈ L → fstI A = fstI B → A = B) → L = M
  | [], M, hp, _, _, _ => (List.Perm.nil_eq hp)
  | A :: L, [], hp, _, _, _ => absurd hp.length_eq (by simp)
  | A :: L, B :: M, hp, h1, h2, hi => by
    rw [List.pairwise_cons] at h1 h2
    have hA : A ∈ B :: M := hp.subset List.mem_cons_self
    have hB : B ∈ A :: L := hp.symm.subset List.mem_cons_self
    have e : A = B := by
      refine hi A List.mem_cons_self B hB (Int.le_antisymm ?_ ?_)
      · rcases List.mem_cons.1 hB with e | e
        · rw [e]; exact Int.le_refl _
        · exact h1.1 B e
      · rcases List.mem_cons.1 hA with e | e
        · rw [e]; exact Int.le_refl _
        · exact h2.1 A e
    subst e
    rw [sorted_one L M hp.cons_inv h1.2 h2.2 (fun C hC D hD => hi C (List.mem_cons_of_mem _ hC) D (List.mem_cons_of_mem _ hD))]
/-- what a sort of the parts by their first bytes tells -/
theorem sorted_parts {P L : List (Nat → Bool)} (h : PartsP P) (hp : L.Perm P) (hs : L.Pairwise (fun A B => fstI A ≤ fstI B)) : L = sortL P 256 :=
  sorted_one L _ (hp.trans (sortL_perm h.1).symm) hs (sortL_sorted P 256 (Nat.le_refl _)).1 (fun A hA B hB => fst_inj h A (hp.subset hA) B (hp.subset hB))
end Go.Proofs.YtjpmdbaalhieoaaDoor

