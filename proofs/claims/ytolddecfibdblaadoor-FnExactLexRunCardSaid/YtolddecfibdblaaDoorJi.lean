/- sets of bits held against each other -/
import Derived.Test.YtolddecfibdblaaDoorJg
import Derived.Test.YtolddecfibdblaaDoorBg
import Derived.Laws.StructEq
namespace Go.Proofs.YtolddecfibdblaaDoor
open Go.RowKit
set_option linter.unusedVariables false
set_option linter.unusedSimpArgs false

/-- a set of bits, as a value -/
abbrev bv (B : Nat → Bool) : Value := .agg #[wc B 0, wc B 1, wc B 2, wc B 3]

theorem eqBits (a0 a1 a2 a3 b0 b1 b2 b3 : Int) (w : World) : (Op.equalIn 10000 92 (.agg #[.int .u64 a0, .int .u64 a1, .int .u64 a2, .int .u64 a3]) (.agg #[.int .u64 b0, .int .u64 b1, .int .u64 b2, .int .u64 b3])).run Tryd.prog w = .ok (a0 == b0 && a1 == b1 && a2 == b2 && a3 == b3) w := by
  rw [Op.equalIn]
  simp only [Sem.run_bind, run_underlying Tryd.underlying92, Result.andThen_ok, Tryd.sizeOf90]
  simp [List.range', go_sem]
  by_cases h0 : a0 = b0 <;> by_cases h1 : a1 = b1 <;> by_cases h2 : a2 = b2 <;> by_cases h3 : a3 = b3 <;> simp [h0, h1, h2, h3]

/-- the same bytes are in both -/
def sameB (A B : Nat → Bool) : Bool := (List.range 256).all fun x => A x == B x
theorem sameB_iff {A B : Nat → Bool} : sameB A B = true ↔ ∀ x, x < 256 → A x = B x := by
  simp only [sameB, List.all_eq_true, List.mem_range, beq_iff_eq]
theorem words_same (A B : Nat → Bool) : (((W A 0 : Nat) : Int) == ((W B 0 : Nat) : Int) && ((W A 1 : Nat) : Int) == ((W B 1 : Nat) : Int) && ((W A 2 : Nat) : Int) == ((W B 2 : Nat) : Int) && ((W A 3 : Nat) : Int) == ((W B 3 : Nat) : Int)) = sameB A B := by
  have key : ∀ i, i < 4 → W A i = W B i → ∀ j, j < 64 → A (64 * i + j) = B (64 * i + j) := by
    intro i hi h j hj
    have h1 := W_testBit A i j
    have h2 := W_testBit B i j
    rw [h, h2] at h1
    simpa [hj] using h1.symm
  rw [Bool.eq_iff_iff, sameB_iff]
  simp only [Bool.and_eq_true, beq_iff_eq]
  constructor
  · rintro ⟨⟨⟨h0, h1⟩, h2⟩, h3⟩ x hx
    rcases (show x < 64 ∨ (64 ≤ x ∧ x < 128) ∨ (128 ≤ x ∧ x < 192) ∨ 192 ≤ x by omega) with h | h | h | h
    · have := key 0 (by omega) (by omega) x h; rwa [show 64 * 0 + x = x by omega] at this
    · have := key 1 (by omega) (by omega) (x - 64) (by omega); rwa [show 64 * 1 + (x - 64) = x by omega] at this
    · have := key 2 (by omega) (by omega) (x - 128) (by omega); rwa [show 64 * 2 + (x - 128) = x by omega] at this
    · have := key 3 (by omega) (by omega) (x - 192) (by omega); rwa [show 64 * 3 + (x - 192) = x by omega] at this
  · intro h
    rw [W_congr (i := 0) (by omega) h, W_congr (i := 1) (by omega) h, W_congr (i := 2) (by omega) h, W_congr (i := 3) (by omega) h]
    exact ⟨⟨⟨rfl, rfl⟩, rfl⟩, rfl⟩

theorem neqBits (A B : Nat → Bool) (w : World) : (binOp .neq 92 (bv A) (bv B)).run Tryd.prog w = .ok (.bool (!sameB A B)) w := by
  have h := eqBits ((W A 0 : Nat) : Int) ((W A 1 : Nat) : Int) ((W A 2 : Nat) : Int) ((W A 3 : Nat) : Int) ((W B 0 : Nat) : Int) ((W B 1 : Nat) : Int) ((W B 2 : Nat) : Int) ((W B 3 : Nat) : Int) w
  rw [words_same] at h
  rw [run_neq_struct, h]
  rfl
theorem eqlBits (A B : Nat → Bool) (w : World) : (binOp .eql 92 (bv A) (bv B)).run Tryd.prog w = .ok (.bool (sameB A B)) w := by
  have h := eqBits ((W A 0 : Nat) : Int) ((W A 1 : Nat) : Int) ((W A 2 : Nat) : Int) ((W A 3 : Nat) : Int) ((W B 0 : Nat) : Int) ((W B 1 : Nat) : Int) ((W B 2 : Nat) : Int) ((W B 3 : Nat) : Int) w
  rw [words_same] at h
  rw [run_eql_struct, h]
  rfl
end Go.Proofs.YtolddecfibdblaaDoor

