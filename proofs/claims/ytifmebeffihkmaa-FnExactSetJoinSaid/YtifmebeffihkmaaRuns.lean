/- The runs of bytes of a set, from the left: plain lists, no Go. -/
import Derived.Test.YtifmebeffihkmaaBits
namespace Go.Proofs.Ytifmebeffihkmaa

/-- one byte more, k: the last run goes on, or a new one begins -/
def ext (l : List (Nat × Nat)) (k : Nat) : List (Nat × Nat) :=
  match l.getLast? with
  | some p => if p.2 + 1 = k then l.dropLast ++ [(p.1, k)] else l ++ [(k, k)]
  | none => [(k, k)]

/-- the runs of the bytes below k -/
def runs (B : Nat → Bool) : Nat → List (Nat × Nat)
  | 0 => []
  | k + 1 => if B k then ext (runs B k) k else runs B k

theorem runs_no {B : Nat → Bool} {k : Nat} (h : B k = false) : runs B (k + 1) = runs B k := by simp [runs, h]
theorem runs_ext {B : Nat → Bool} {k a b : Nat} {q : List (Nat × Nat)} (h : B k = true) (hr : runs B k = q ++ [(a, b)]) (hb : b + 1 = k) : runs B (k + 1) = q ++ [(a, k)] := by
  simp [runs, h, ext, hr, hb]
theorem runs_new {B : Nat → Bool} {k : Nat} (h : B k = true) (hl : ∀ p, p ∈ runs B k → p.2 + 1 ≠ k) : runs B (k + 1) = runs B k ++ [(k, k)] := by
  rw [runs, if_pos h, ext]
  cases e : (runs B k).getLast? with
  | none =>
    rw [List.getLast?_eq_none_iff] at e
    simp [e]
  | some p =>
    have hp : p ∈ runs B k := List.mem_of_getLast? e
    simp [hl p hp]

theorem runs_new' {B : Nat → Bool} {k : Nat} (h : B k = true) (hl : ∀ p, p ∈ (runs B k).getLast? → p.2 + 1 ≠ k) : runs B (k + 1) = runs B k ++ [(k, k)] := by
  rw [runs, if_pos h, ext]
  cases e : (runs B k).getLast? with
  | none =>
    rw [List.getLast?_eq_none_iff] at e
    simp [e]
  | some p => simp [hl p (by rw [e]; exact rfl)]

theorem runs_lt (B : Nat → Bool) (k : Nat) : ∀ p, p ∈ runs B k → p.2 < k := by
  induction k with
  | zero => intro p hp; simp [runs] at hp
  | succ k ih =>
    intro p hp
    rw [runs] at hp
    by_cases h : B k = true
    · rw [if_pos h, ext] at hp
      split at hp
      · rename_i q _
        split at hp
        · rcases List.mem_append.1 hp with h1 | h1
          · have := ih p (List.dropLast_subset _ h1); omega
          · simp at h1; subst h1; simp
        · rcases List.mem_append.1 hp with h1 | h1
          · have := ih p h1; omega
          · simp at h1; subst h1; simp
      · simp at hp; subst hp; simp
    · rw [if_neg h] at hp
      have := ih p hp; omega

theorem runs_len (B : Nat → Bool) (k : Nat) : (runs B k).length ≤ k := by
  induction k with
  | zero => simp [runs]
  | succ k ih =>
    rw [runs]
    split
    · unfold ext
      split
      · split
        · simp; omega
        · simp; omega
      · simp
    · omega

theorem runs_congr {A B : Nat → Bool} {k : Nat} (h : ∀ x, x < k → A x = B x) : runs A k = runs B k := by
  induction k with
  | zero => rfl
  | succ k ih => rw [runs, runs, ih (fun x hx => h x (by omega)), h k (by omega)]

end Go.Proofs.Ytifmebeffihkmaa
