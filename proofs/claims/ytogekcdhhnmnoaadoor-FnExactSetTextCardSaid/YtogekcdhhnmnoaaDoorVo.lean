/- what is known of a set that came in, its numbers being of 64 bits -/
import Derived.Test.YtogekcdhhnmnoaaDoorOpen
import Derived.Test.YtogekcdhhnmnoaaDoorVs
namespace Go.Proofs.YtogekcdhhnmnoaaDoor
open Go.ChangeShapes Go.WideShapes Go.ChangeAt Go.RowKit Go.Deep
set_option linter.unusedVariables false
set_option linter.unusedSimpArgs false

/-- a slice of spans that came in: where they lie, what they are -/
def IsSpans (w : World) (a : Option Addr) (n : Nat) : Prop :=
  ∃ (b off : Nat) (L H : Nat → Int), (0 < n → a = some ⟨b, off, none⟩) ∧ Sp w b off n L H ∧ n ≤ 9223372036854775807 ∧ ∀ i, i < n → In64 (L i) ∧ In64 (H i)

theorem openIn64 {T : Type} {enc : TypeId × Value → T} {W : World} {a : Option Addr} {len cap : Nat} {d : DataW T} {p : List MemPlace}
    (h : DataW.Trod enc Tryd.prog W 0 (fun _ => true) true 22 (.slice a len cap) d p) : IsSpans W a len := by
  obtain ⟨fuel, hf⟩ := h
  rcases open_slice_pairs Tryd.underlying22 Tryd.underlying33 Tryd.cells33 rfl rfl Tryd.cells3 Tryd.cells3 hf with ⟨hcs, _⟩ | ⟨x, l, c, m, n, V0, V1, D0, D1, P0, P1, hcs, _, hl, hm, hmm, _, hx⟩
  · simp [Value.cells] at hcs
    obtain ⟨rfl, rfl, rfl⟩ := hcs
    exact ⟨0, 0, fun _ => 0, fun _ => 0, fun h => absurd h (Nat.lt_irrefl _), fun i hi => absurd hi (Nat.not_lt_zero _), by omega, fun i hi => absurd hi (Nat.not_lt_zero _)⟩
  · simp [Value.cells] at hcs
    obtain ⟨rfl, rfl, rfl⟩ := hcs
    simp at hmm
    subst hmm
    have hm' : len ≤ 9223372036854775807 := by unfold maxLen at hm; omega
    have each : ∀ i, i < len → ∃ q : Int × Int, V0 i = .int .i64 q.1 ∧ V1 i = .int .i64 q.2 ∧ In64 q.1 ∧ In64 q.2 := by
      intro i hi
      obtain ⟨_, _, h0, h1⟩ := hx i (by omega)
      obtain ⟨x0, e0, _, w0⟩ := DataW.trod_int Tryd.underlying3 h0
      obtain ⟨x1, e1, _, w1⟩ := DataW.trod_int Tryd.underlying3 h1
      simp at e0 e1
      refine ⟨(x0, x1), e0, e1, ?_, ?_⟩
      · have := bounds_i64 w0; exact this
      · have := bounds_i64 w1; exact this
    obtain ⟨q, hq⟩ := choose_lt each
    obtain ⟨b, off, spot⟩ := x
    by_cases h0 : len = 0
    · subst h0
      exact ⟨0, 0, fun _ => 0, fun _ => 0, fun h => absurd h (Nat.lt_irrefl _), fun i hi => absurd hi (Nat.not_lt_zero _), by omega, fun i hi => absurd hi (Nat.not_lt_zero _)⟩
    · have hc := (hx 0 (by omega)).1
      have hspot : spot = none := by simpa [Addr.add] using World.cell?_spot hc
      subst hspot
      refine ⟨b, off, fun i => (q i).1, fun i => (q i).2, fun _ => rfl, fun i hi => ?_, hm', fun i hi => (hq i hi).2.2⟩
      obtain ⟨g0, g1, _, _⟩ := hx i (by omega)
      rw [(hq i hi).1] at g0
      rw [(hq i hi).2.1] at g1
      rw [add_plain] at g0 g1
      exact ⟨g0, by simpa [Nat.add_assoc] using g1⟩
end Go.Proofs.YtogekcdhhnmnoaaDoor

