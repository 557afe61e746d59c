/- The walks of isNothing, of the rules of NormStar and NormNot, of firstRule over one Rex, of makeStar and makeNot. -/
import Derived.Test.YtiphmmgfmiiilaaDoorNf
import Derived.BigRegion
namespace Go.Proofs.YtiphmmgfmiiilaaDoor
open Go.RowKit Go.Shelf
set_option linter.unusedVariables false
set_option linter.unusedSimpArgs false

set_option maxHeartbeats 1000000 in
theorem isNothing_any (S : Sh) (M : Mx) (w : World) (h : In AnyB w S M) : Calls Tryd.prog 46 #[vx S M] w fun e w' => e = .returned (.bool (noB S)) ∧ Below w.heap.size w w' := by
  obtain ⟨a, c, a', c', hv⟩ := h.value'
  rw [hv]
  have HR : Hid (noB S = (S.kind == 1 && S.n == 0)) := rfl
  obtain ⟨kd, hkd⟩ : ∃ kd, S.kind = kd := ⟨_, rfl⟩
  obtain ⟨n, hn⟩ : ∃ n, S.n = n := ⟨_, rfl⟩
  obtain ⟨m, hm⟩ : ∃ m, S.m = m := ⟨_, rfl⟩
  rw [hkd, hn] at HR
  rw [hkd, hn, hm]
  clear hkd hn hm hv h
  by_cases h1 : kd = 1
  · have hk1 : (kd == 1) = true := by simpa using h1
    have H1 : Hid (kd = 1) := h1
    clear h1
    go_enter Tryd.func46, Tryd.ntmps46
    go_wp2_with fail
    go_ret
    exact ⟨ret_bool (by rw [HR.out, H1.out, beq0]; simp), (Below.refl _ _).alloc (Nat.le_refl _) _⟩
  · have hk1 : (kd == 1) = false := by simpa using h1
    go_enter Tryd.func46, Tryd.ntmps46
    go_wp2_with fail
    go_ret
    exact ⟨ret_bool (by rw [HR.out, hk1]; rfl), (Below.refl _ _).alloc (Nat.le_refl _) _⟩

/-- a rule tells that Rex, and whether it applies; it lies in blocks of B, or in new ones -/
def RuleRes (B : Nat → Prop) (S : Sh) (ok : Bool) (w : World) (e : Ending) (w' : World) : Prop := ∃ M, e = .returned (.tuple #[vx S M, .bool ok]) ∧ In (fun k => B k ∨ w.heap.size ≤ k) w' S M ∧ Below w.heap.size w w'
/-- the answer is that Rex, in blocks of B, or in new ones -/
def ShResB (B : Nat → Prop) (S : Sh) (w : World) (e : Ending) (w' : World) : Prop := ∃ M, e = .returned (vx S M) ∧ In (fun k => B k ∨ w.heap.size ≤ k) w' S M ∧ Below w.heap.size w w'
theorem in3 {B : Nat → Prop} {w : World} {b : Nat} (hB : ∀ k, B k → k ≠ b) (u0 u1 u2 : Value) {S : Sh} {M : Mx} (hi : In B w S M) : In B (((w.setCell ⟨b, 0, none⟩ u0).setCell ⟨b, 1, none⟩ u1).setCell ⟨b, 2, none⟩ u2) S M :=
  hi.keep (fun k hk _ => keep3 w b 0 1 2 u0 u1 u2 (hB k hk))

end Go.Proofs.YtiphmmgfmiiilaaDoor

