/- what is known of a Rex that came in -/
import Derived.Test.YtolddecfibdblaaDoorTa
import Derived.ProofKit
import Derived.OpenShut
import Derived.ShutString
import Derived.ChangeOld
import Derived.Below
import Derived.Deep.SlicePairs
namespace Go.Proofs.YtolddecfibdblaaDoor
open Go.ChangeShapes Go.WideShapes Go.ChangeAt Go.RowKit Go.Deep
set_option linter.unusedVariables false
set_option linter.unusedSimpArgs false

theorem own : ownKnob Tryd.prog.godebug = none := by kernel_rfl
theorem laidOut : laidOutB Tryd.prog = true := by kernel_rfl
theorem Tryd.cells89 : Tryd.prog.cellsOf 89 = 2 := by kernel_rfl
theorem Tryd.cells69 : Tryd.prog.cellsOf 69 = 1 := by kernel_rfl
theorem Tryd.cells3 : Tryd.prog.cellsOf 3 = 1 := by kernel_rfl

/-- a slice of spans that came in: where they lie, what they are -/
theorem openSpans {T : Type} {enc : TypeId × Value → T} {W : World} {v : Value} {fuel : Nat} {x : DataW T × List MemPlace}
    (hf : DataW.trod enc Tryd.prog W 0 (fun _ => true) true fuel 69 [v] = some x) :
    ∃ (a : Option Addr) (n cap b off : Nat) (L H : Nat → Int), v = .slice a n cap ∧ (0 < n → a = some ⟨b, off, none⟩) ∧ Sp W b off n L H ∧ n ≤ 9223372036854775807 := by
  rcases open_slice_pairs Tryd.underlying69 Tryd.underlying89 Tryd.cells89 rfl rfl Tryd.cells3 Tryd.cells3 hf with ⟨hcs, _⟩ | ⟨x, l, c, m, n, V0, V1, D0, D1, P0, P1, hcs, _, hl, hm, hmm, _, hx⟩
  · simp at hcs
    subst hcs
    exact ⟨none, 0, 0, 0, 0, fun _ => 0, fun _ => 0, rfl, fun h => absurd h (Nat.lt_irrefl _), fun i hi => absurd hi (Nat.not_lt_zero _), by omega⟩
  · simp at hcs
    subst hcs
    simp at hmm
    subst hmm
    have hm' : l ≤ 9223372036854775807 := by unfold maxLen at hm; omega
    have each : ∀ i, i < l → ∃ q : Int × Int, V0 i = .int .i64 q.1 ∧ V1 i = .int .i64 q.2 := by
      intro i hi
      obtain ⟨_, _, h0, h1⟩ := hx i (by omega)
      obtain ⟨x0, e0, _, _⟩ := DataW.trod_int Tryd.underlying3 h0
      obtain ⟨x1, e1, _, _⟩ := DataW.trod_int Tryd.underlying3 h1
      simp at e0 e1
      exact ⟨(x0, x1), e0, e1⟩
    obtain ⟨q, hq⟩ := choose_lt each
    obtain ⟨b, off, spot⟩ := x
    by_cases h0 : l = 0
    · subst h0
      exact ⟨_, 0, _, 0, 0, fun _ => 0, fun _ => 0, rfl, fun h => absurd h (Nat.lt_irrefl _), fun i hi => absurd hi (Nat.not_lt_zero _), by omega⟩
    · have hc := (hx 0 (by omega)).1
      have hspot : spot = none := by simpa [Addr.add] using World.cell?_spot hc
      subst hspot
      refine ⟨_, l, _, b, off, fun i => (q i).1, fun i => (q i).2, rfl, fun _ => rfl, fun i hi => ?_, hm'⟩
      obtain ⟨g0, g1, _, _⟩ := hx i (by omega)
      rw [(hq i hi).1] at g0
      rw [(hq i hi).2] at g1
      rw [add_plain] at g0 g1
      exact ⟨g0, by simpa [Nat.add_assoc] using g1⟩

/-- a shape of nothing -/
def Sh.no : Sh := .node 0 0 (fun _ => 0) (fun _ => 0) 0 (fun i => absurd i.2 (Nat.not_lt_zero _))

end Go.Proofs.YtolddecfibdblaaDoor

