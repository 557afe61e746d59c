/- the runs of a set of bytes, as spans: they are a set that is ok, and have the bytes of it -/
import Derived.Test.YtjpmdbaalhieoaaDoorDe
import Derived.Test.YtjpmdbaalhieoaaDoorBw
namespace Go.Proofs.YtjpmdbaalhieoaaDoor
open Go.RowKit
set_option linter.unusedVariables false
set_option linter.unusedSimpArgs false

/-- runs in order, apart, none upside down -/
def RunsOk (R : List (Nat × Nat)) (k : Nat) : Prop := (∀ p, p ∈ R → p.1 ≤ p.2 ∧ p.2 < k) ∧ R.Pairwise (fun p q => p.2 + 1 < q.1)

theorem runs_good (B : Nat → Bool) (k : Nat) : RunsOk (runs B k) k ∧ ∀ x, x < k → ((∃ p, p ∈ runs B k ∧ p.1 ≤ x ∧ x ≤ p.2) ↔ B x = true) := by
  induction k with
  | zero => exact ⟨⟨fun p hp => by simp [runs] at hp, by simp [runs]⟩, fun x hx => absurd hx (by omega)⟩
  | succ k ih =>
    obtain ⟨⟨h1, h2⟩, h3⟩ := ih
    cases hB : B k with
    | false =>
      rw [runs_no hB]
      refine ⟨⟨fun p hp => ⟨(h1 p hp).1, by have := (h1 p hp).2; omega⟩, h2⟩, fun x hx => ?_⟩
      by_cases e : x = k
      · subst e
        constructor
        · rintro ⟨p, hp, _, h⟩; have := (h1 p hp).2; omega
        · intro h; rw [hB] at h; cases h
      · exact h3 x (by omega)
    | true =>
      by_cases hl : ∃ q a b, runs B k = q ++ [(a, b)] ∧ b + 1 = k
      · obtain ⟨q, a, b, hr, hb⟩ := hl
        rw [runs_ext hB hr hb]
        rw [hr] at h1 h2 h3
        rw [List.pairwise_append] at h2
        have hab := h1 (a, b) (by simp)
        refine ⟨⟨fun p hp => ?_, ?_⟩, fun x hx => ?_⟩
        · rcases List.mem_append.1 hp with hp | hp
          · have := h1 p (List.mem_append.2 (.inl hp)); exact ⟨this.1, by omega⟩
          · simp only [List.mem_singleton] at hp; subst hp; exact ⟨by simp at hab ⊢; omega, by simp⟩
        · rw [List.pairwise_append]
          refine ⟨h2.1, by simp, fun p hp r hr' => ?_⟩
          simp only [List.mem_singleton] at hr'
          subst hr'
          exact h2.2.2 p hp (a, b) (by simp)
        · by_cases e : x = k
          · subst e
            exact ⟨fun _ => hB, fun _ => ⟨(a, x), by simp, by simp at hab ⊢; omega, Nat.le_refl _⟩⟩
          · rw [← h3 x (by omega)]
            constructor
            · rintro ⟨p, hp, g1, g2⟩
              rcases List.mem_append.1 hp with hp | hp
              · exact ⟨p, List.mem_append.2 (.inl hp), g1, g2⟩
              · simp only [List.mem_singleton] at hp; subst hp; exact ⟨(a, b), by simp, g1, by simp at g2 ⊢; omega⟩
            · rintro ⟨p, hp, g1, g2⟩
              rcases List.mem_append.1 hp with hp | hp
              · exact ⟨p, List.mem_append.2 (.inl hp), g1, g2⟩
              · simp only [List.mem_singleton] at hp; subst hp; exact ⟨(a, k), by simp, g1, by simp at g2 ⊢; omega⟩
      · have hln : ∀ p, p ∈ (runs B k).getLast? → p.2 + 1 ≠ k := fun p hp e => hl ⟨(runs B k).dropLast, p.1, p.2, (by rcases List.eq_nil_or_concat (runs B k) with e0 | ⟨q, l, e0⟩ <;> rw [e0] at hp ⊢ <;> simp at hp ⊢; exact hp), e⟩
        have hall : ∀ p, p ∈ runs B k → p.2 + 1 < k := fun p hp => by
          rcases List.eq_nil_or_concat (runs B k) with e | ⟨q, l, e⟩
          · rw [e] at hp; simp at hp
          · rw [List.concat_eq_append] at e
            have hl1 : l.2 + 1 ≠ k := hln l (by rw [e]; simp)
            rw [e] at h1 h2 hp
            have hlk := h1 l (by simp)
            rw [List.pairwise_append] at h2
            rcases List.mem_append.1 hp with hp | hp
            · have := h2.2.2 p hp l (by simp); omega
            · simp only [List.mem_singleton] at hp; subst hp; omega
        rw [runs_new' hB hln]
        refine ⟨⟨fun p hp => ?_, ?_⟩, fun x hx => ?_⟩
        · rcases List.mem_append.1 hp with hp | hp
          · have := h1 p hp; exact ⟨this.1, by omega⟩
          · simp only [List.mem_singleton] at hp; subst hp; exact ⟨Nat.le_refl _, by simp⟩
        · rw [List.pairwise_append]
          refine ⟨h2, by simp, fun p hp r hr' => ?_⟩
          simp only [List.mem_singleton] at hr'
          subst hr'
          exact hall p hp
        · by_cases e : x = k
          · subst e
            exact ⟨fun _ => hB, fun _ => ⟨(x, x), by simp, Nat.le_refl _, Nat.le_refl _⟩⟩
          · rw [← h3 x (by omega)]
            constructor
            · rintro ⟨p, hp, g1, g2⟩
              rcases List.mem_append.1 hp with hp | hp
              · exact ⟨p, hp, g1, g2⟩
              · simp only [List.mem_singleton] at hp; subst hp; simp at g1 g2; omega
            · rintro ⟨p, hp, g⟩; exact ⟨p, List.mem_append.2 (.inl hp), g⟩

/-- the lower ends of runs, by place; the upper ones -/
def Lor (R : List (Nat × Nat)) (j : Nat) : Int := (((R[j]?).getD (0, 0)).1 : Int)
def Hir (R : List (Nat × Nat)) (j : Nat) : Int := (((R[j]?).getD (0, 0)).2 : Int)
theorem lor_at {R : List (Nat × Nat)} {j : Nat} (h : j < R.length) : Lor R j = (R[j].1 : Int) ∧ Hir R j = (R[j].2 : Int) := by simp [Lor, Hir, List.getElem?_eq_getElem h]

theorem runs_ok (B : Nat → Bool) : okB (runs B 256).length (Lor (runs B 256)) (Hir (runs B 256)) = true := by
  obtain ⟨⟨h1, h2⟩, _⟩ := runs_good B 256
  rw [List.pairwise_iff_getElem] at h2
  refine okB_true fun j hj => ?_
  obtain ⟨e1, e2⟩ := lor_at hj
  have hm := h1 _ (List.getElem_mem hj)
  refine ⟨by rw [e1]; omega, by rw [e2]; omega, by rw [e1, e2]; omega, fun h0 => ?_⟩
  obtain ⟨_, e3⟩ := lor_at (R := runs B 256) (j := j - 1) (by omega)
  have := h2 (j - 1) j (by omega) hj (by omega)
  rw [e1, e3]; omega
theorem runs_has (B : Nat → Bool) : ∀ x, x < 256 → hs (runs B 256).length (Lor (runs B 256)) (Hir (runs B 256)) x = B x := by
  intro x hx
  have h3 := (runs_good B 256).2 x hx
  rw [Bool.eq_iff_iff, ← h3]
  simp only [hs, hasB, List.any_eq_true, List.mem_range, decide_eq_true_eq]
  constructor
  · rintro ⟨j, hj, h⟩
    obtain ⟨e1, e2⟩ := lor_at hj
    rw [e1, e2] at h
    exact ⟨_, List.getElem_mem hj, by omega, by omega⟩
  · rintro ⟨p, hp, g1, g2⟩
    obtain ⟨j, hj, rfl⟩ := List.getElem_of_mem hp
    obtain ⟨e1, e2⟩ := lor_at hj
    exact ⟨j, hj, by rw [e1, e2]; omega⟩

theorem cellsR_get (R : List (Nat × Nat)) (i : Nat) (h : i < R.length) : (cellsR R)[i * 2]? = some (.int .i64 (Lor R i)) ∧ (cellsR R)[i * 2 + 1]? = some (.int .i64 (Hir R i)) := by
  induction R generalizing i with
  | nil => simp at h
  | cons p R ih =>
    have e : cellsR (p :: R) = [.int .i64 (p.1 : Int), .int .i64 (p.2 : Int)] ++ cellsR R := by simp [cellsR]
    cases i with
    | zero => simp [e, Lor, Hir]
    | succ i =>
      have := ih i (by simpa using h)
      rw [e, List.getElem?_append_right (by simp; omega), List.getElem?_append_right (by simp; omega)]
      simp only [List.length_cons, List.length_nil]
      rw [show (i + 1) * 2 - (0 + 1 + 1) = i * 2 by omega, show (i + 1) * 2 + 1 - (0 + 1 + 1) = i * 2 + 1 by omega]
      simpa [Lor, Hir] using this
theorem sp_runs {W : World} {base g c : Nat} {R : List (Nat × Nat)} (h : W.ownsRow base 33 2 (.slice (some ⟨g, 0, none⟩) R.length c) R.length (cellsR R)) : Sp W g 0 R.length (Lor R) (Hir R) := by
  intro i hi
  obtain ⟨q1, q2⟩ := cellsR_get R i hi
  exact ⟨by rw [show (0 : Nat) + i * 2 = i * 2 by omega]; exact (h.cellAt (i * 2) (show i * 2 < R.length * 2 by omega)).trans q1, by rw [show (0 : Nat) + i * 2 + 1 = i * 2 + 1 by omega]; exact (h.cellAt (i * 2 + 1) (show i * 2 + 1 < R.length * 2 by omega)).trans q2⟩
end Go.Proofs.YtjpmdbaalhieoaaDoor

