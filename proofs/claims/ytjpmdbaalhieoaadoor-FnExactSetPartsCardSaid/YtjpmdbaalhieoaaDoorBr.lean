/- all bytes cut by sets: the parts are apart, none is empty, so there are 256 at most -/
import Derived.Test.YtjpmdbaalhieoaaDoorBq
import Derived.Test.YtjpmdbaalhieoaaDoorJc
namespace Go.Proofs.YtjpmdbaalhieoaaDoor
open Go.RowKit
set_option linter.unusedVariables false
set_option linter.unusedSimpArgs false

/-- parts: each has a byte, no two share one -/
def PartsP (P : List (Nat → Bool)) : Prop := (∀ B, B ∈ P → anyB B = true) ∧ P.Pairwise (fun A B => ∀ x, x < 256 → ¬ (A x = true ∧ B x = true))
theorem countP_or (p q : Nat → Bool) : ∀ l : List Nat, (∀ x, x ∈ l → ¬ (p x = true ∧ q x = true)) → l.countP (fun x => p x || q x) = l.countP p + l.countP q
  | [], _ => rfl
  | a :: l, h => by
    have ih := countP_or p q l (fun x hx => h x (List.mem_cons_of_mem _ hx))
    have h0 := h a (List.mem_cons_self)
    simp only [List.countP_cons, ih]
    cases hp : p a <;> cases hq : q a <;> simp_all <;> omega
theorem PartsP.count {P : List (Nat → Bool)} (h : PartsP P) : P.length ≤ (List.range 256).countP (fun x => P.any (fun B => B x)) := by
  induction P with
  | nil => simp
  | cons B P ih =>
    obtain ⟨h1, h2⟩ := h
    rw [List.pairwise_cons] at h2
    have ih := ih ⟨fun C hC => h1 C (List.mem_cons_of_mem _ hC), h2.2⟩
    simp only [List.any_cons, List.length_cons]
    rw [countP_or B (fun x => P.any (fun C => C x)) _ (fun x hx => ?_)]
    · obtain ⟨x, hx, hb⟩ := anyB_true (h1 B List.mem_cons_self)
      have : 0 < (List.range 256).countP B := List.countP_pos_iff.2 ⟨x, List.mem_range.2 hx, hb⟩
      omega
    · rintro ⟨e1, e2⟩
      obtain ⟨C, hC, hc⟩ := List.any_eq_true.1 e2
      exact h2.1 C hC x (List.mem_range.1 hx) ⟨e1, hc⟩
theorem PartsP.len {P : List (Nat → Bool)} (h : PartsP P) : P.length ≤ 256 := by
  have h1 := h.count
  have h2 := List.countP_le_length (p := fun x => P.any (fun B => B x)) (l := List.range 256)
  rw [List.length_range] at h2
  omega
theorem mem_cut2 {S A B : Nat → Bool} (h : B ∈ cut2 S A) : anyB B = true ∧ ∀ x, B x = true → A x = true := by
  unfold cut2 at h
  rcases List.mem_append.1 h with h | h
  · split at h
    · rename_i ha
      simp only [List.mem_singleton] at h
      subst h
      exact ⟨ha, fun x hx => by simp at hx; exact hx.1⟩
    · simp at h
  · split at h
    · rename_i ha
      simp only [List.mem_singleton] at h
      subst h
      exact ⟨ha, fun x hx => by simp at hx; exact hx.1⟩
    · simp at h
theorem PartsP.split {S : Nat → Bool} {P : List (Nat → Bool)} (h : PartsP P) : PartsP (splitL S P) := by
  refine ⟨fun B hB => ?_, ?_⟩
  · obtain ⟨A, _, hb⟩ := List.mem_flatMap.1 hB
    exact (mem_cut2 hb).1
  · refine List.pairwise_flatMap.2 ⟨fun A _ => ?_, h.2.imp (fun hAB B hB C hC x hx => ?_)⟩
    · unfold cut2
      refine List.pairwise_append.2 ⟨by split <;> simp, by split <;> simp, fun B hB C hC x hx => ?_⟩
      split at hB <;> split at hC <;> simp at hB hC
      subst hB hC
      rintro ⟨e1, e2⟩
      simp at e1 e2
      rw [e1.2] at e2
      cases e2.2
    · rintro ⟨e1, e2⟩
      exact hAB x hx ⟨(mem_cut2 hB).2 x e1, (mem_cut2 hC).2 x e2⟩
/-- all bytes cut by the first k sets -/
def partsUp (F : Nat → Nat → Bool) : Nat → List (Nat → Bool)
  | 0 => [fun _ => true]
  | k + 1 => splitL (F k) (partsUp F k)
theorem partsUp_ok (F : Nat → Nat → Bool) : ∀ k, PartsP (partsUp F k)
  | 0 => ⟨fun B hB => by simp only [partsUp, List.mem_singleton] at hB; subst hB; rfl, by simp [partsUp]⟩
  | k + 1 => (partsUp_ok F k).split
theorem runs_full : runs (fun _ => true) 256 = [(0, 255)] := by kernel_rfl
end Go.Proofs.YtjpmdbaalhieoaaDoor

