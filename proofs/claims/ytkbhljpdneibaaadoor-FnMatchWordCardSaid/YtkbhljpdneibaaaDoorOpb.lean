/- what is known of a slice of bytes that came in -/
import Derived.Test.YtkbhljpdneibaaaDoorBase
import Derived.ProofKit
import Derived.OpenShut
import Derived.ChangeOld
import Derived.Below
namespace Go.Proofs.YtkbhljpdneibaaaDoor
open Go.ChangeShapes Go.WideShapes Go.ChangeAt Go.RowKit Go.Deep
set_option linter.unusedVariables false
set_option linter.unusedSimpArgs false

theorem own : ownKnob Tryd.prog.godebug = none := by kernel_rfl
theorem laidOut : laidOutB Tryd.prog = true := by kernel_rfl
theorem Tryd.cells5 : Tryd.prog.cellsOf 5 = 1 := by kernel_rfl

/-- a slice of bytes that came in: where they lie, what they are -/
theorem openBytes {T : Type} {enc : TypeId × Value → T} {W : World} {v : Value} {fuel : Nat} {x : DataW T × List MemPlace}
    (hf : DataW.trod enc Tryd.prog W 0 (fun _ => true) true fuel 22 [v] = some x) :
    ∃ (a : Option Addr) (n c b off : Nat) (V : Nat → Nat), v = .slice a n c ∧ n ≤ c ∧ c ≤ 9223372036854775807 ∧ (0 < n → a = some ⟨b, off, none⟩ ∧ b < W.heap.size) ∧ ∀ i, i < n → V i ≤ 255 ∧ W.cell? ⟨b, off + i, none⟩ = some (.int .u8 (V i : Int)) := by
  rcases open_ints Tryd.underlying22 Tryd.underlying5 Tryd.cells5 hf with ⟨hcs, _⟩ | ⟨a, len, cap, zs, hcs, _, hl, hm, hz, _, hcell, hwf⟩
  · simp at hcs
    subst hcs
    exact ⟨none, 0, 0, 0, 0, fun _ => 0, rfl, Nat.le_refl _, by omega, fun h => absurd h (Nat.lt_irrefl _), fun i hi => absurd hi (Nat.not_lt_zero _)⟩
  · simp at hcs
    subst hcs
    simp at hz
    have hm' : cap ≤ 9223372036854775807 := by unfold maxLen at hm; omega
    by_cases h0 : len = 0
    · subst h0
      exact ⟨_, 0, cap, 0, 0, fun _ => 0, rfl, by omega, hm', fun h => absurd h (Nat.lt_irrefl _), fun i hi => absurd hi (Nat.not_lt_zero _)⟩
    · obtain ⟨b, off, rfl, hc⟩ := ints_at hcell (by omega)
      have hb : ∀ i, i < len → 0 ≤ zs.getD i 0 ∧ zs.getD i 0 ≤ 255 := fun i hi => by
        have hmem : zs.getD i 0 ∈ zs := by rw [List.getD_eq_getElem?_getD, List.getElem?_eq_getElem (by omega)]; exact List.getElem_mem _
        exact bounds_u8 (hwf _ hmem)
      refine ⟨_, len, cap, b, off, fun i => (zs.getD i 0).toNat, rfl, hl, hm', fun _ => ⟨rfl, World.block_lt_of_cell? _ _ (hc 0 (by omega))⟩, fun i hi => ?_⟩
      obtain ⟨h1, h2⟩ := hb i hi
      show (zs.getD i 0).toNat ≤ 255 ∧ W.cell? ⟨b, off + i, none⟩ = some (.int .u8 (((zs.getD i 0).toNat : Nat) : Int))
      refine ⟨by omega, ?_⟩
      rw [hc i (by omega), Int.toNat_of_nonneg h1]
end Go.Proofs.YtkbhljpdneibaaaDoor

