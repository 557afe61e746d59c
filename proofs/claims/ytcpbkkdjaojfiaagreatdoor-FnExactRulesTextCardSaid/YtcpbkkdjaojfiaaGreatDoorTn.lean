/- the walk of the law of RexOk -/
import Derived.Test.YtcpbkkdjaojfiaaGreatDoorTm
namespace Go.Proofs.YtcpbkkdjaojfiaaGreatDoor
open Go.RowKit
set_option linter.unusedVariables false
set_option linter.unusedSimpArgs false

/-- a Rex as a value, its two slices told -/
theorem In.value {B : Nat → Prop} {w : World} {S : Sh} {M : Mx} (h : In B w S M) : ∃ (a : Option Addr) (n c : Nat) (a' : Option Addr) (m c' : Nat), vx S M = .agg #[.int .i64 S.kind, .slice a n c, .slice a' m c'] := by
  obtain ⟨a, n, c, a', m, c', e1, e2⟩ := h.slices
  exact ⟨a, n, c, a', m, c', by rw [vx, e1, e2]⟩
theorem In.any {B : Nat → Prop} {w : World} {S : Sh} {M : Mx} (h : In B w S M) : In AnyB w S M := h.mono (fun _ _ => trivial)

end Go.Proofs.YtcpbkkdjaojfiaaGreatDoor

