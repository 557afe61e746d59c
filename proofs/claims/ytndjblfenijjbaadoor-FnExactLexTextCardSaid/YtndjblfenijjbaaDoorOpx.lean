/- what is known of a list of tokens that came in -/
import Derived.Test.YtndjblfenijjbaaDoorOpen
import Derived.Test.YtndjblfenijjbaaDoorXa
namespace Go.Proofs.YtndjblfenijjbaaDoor
open Go.ChangeShapes Go.WideShapes Go.ChangeAt Go.RowKit Go.Deep
set_option linter.unusedVariables false
set_option linter.unusedSimpArgs false

theorem Tryd.cells33 : Tryd.prog.cellsOf 33 = 3 := by kernel_rfl
theorem openTok {T : Type} {enc : TypeId × Value → T} {W : World} {fuel : Nat} {cs : List Value} {x : DataW T × List MemPlace}
    (h : DataW.trod enc Tryd.prog W 0 (fun _ => true) true fuel 33 cs = some x) : ∃ (k : Tk), cs = [.int .i64 k.r, .int .i64 k.f, .int .i64 k.t] ∧ Tk64 k := by
  cases fuel with
  | zero => simp [DataW.trod] at h
  | succ fuel =>
    obtain ⟨xs, n, hfn, _, hlen, hxl, hf⟩ := DataW.trod_struct Tryd.underlying33 h
    rw [Tryd.cells33] at hlen
    have hxl' : xs.length = 3 := hxl
    obtain ⟨c0, c1, c2, rfl⟩ := three_of hlen
    obtain ⟨y0, y1, y2, rfl⟩ := three_of hxl'
    have g0 := hf 0 _ rfl
    have g1 := hf 1 _ rfl
    have g2 := hf 2 _ rfl
    simp [Tryd.cells3] at g0 g1 g2
    obtain ⟨k0, e0, _, w0⟩ := DataW.trod_int Tryd.underlying3 g0
    obtain ⟨k1, e1, _, w1⟩ := DataW.trod_int Tryd.underlying3 g1
    obtain ⟨k2, e2, _, w2⟩ := DataW.trod_int Tryd.underlying3 g2
    simp at e0 e1 e2
    subst e0 e1 e2
    exact ⟨⟨k0, k1, k2⟩, rfl, bounds_i64 w0, bounds_i64 w1, bounds_i64 w2⟩

theorem openToks {T : Type} {enc : TypeId × Value → T} {W : World} {v : Value} {fuel : Nat} {x : DataW T × List MemPlace}
    (h : DataW.trod enc Tryd.prog W 0 (fun _ => true) true fuel 22 [v] = some x) :
    ∃ (a : Option Addr) (n cap b off : Nat) (K : Nat → Tk), v = .slice a n cap ∧ (0 < n → a = some ⟨b, off, none⟩) ∧ TkIn W b off n K ∧ n ≤ 9223372036854775807 ∧ ∀ i, i < n → Tk64 (K i) := by
  rcases DataW.trod_slice Tryd.underlying22 h with ⟨hcs, _⟩ | ⟨ka, len, kcap, elems, rest, n', hn', hcs, _, _, hl, hm, hel, hall, _, _⟩
  · simp at hcs
    subst hcs
    exact ⟨none, 0, 0, 0, 0, fun _ => ⟨0, 0, 0⟩, rfl, fun h => absurd h (Nat.lt_irrefl _), fun i hi => absurd hi (Nat.not_lt_zero _), by omega, fun i hi => absurd hi (Nat.not_lt_zero _)⟩
  · simp at hcs
    subst hcs
    have hm' : len ≤ 9223372036854775807 := by unfold maxLen at hm; omega
    have each : ∀ i, i < len → ∃ q : Tk, W.cell? (ka.add (i * 3)) = some (.int .i64 q.r) ∧ W.cell? (ka.add (i * 3 + 1)) = some (.int .i64 q.f) ∧ W.cell? (ka.add (i * 3 + 2)) = some (.int .i64 q.t) ∧ Tk64 q := by
      intro i hi
      have h1 := hall i hi
      rw [Tryd.cells33, List.getElem?_eq_getElem (by omega)] at h1
      obtain ⟨cs', h2, h3⟩ := Option.bind_eq_some_iff.1 h1
      obtain ⟨k, hcs, hk64⟩ := openTok h3
      obtain ⟨_, _, hcell⟩ := World.cells?_some h2
      subst hcs
      have e0 := hcell 0 (by omega)
      have e1 := hcell 1 (by omega)
      have e2 := hcell 2 (by omega)
      rw [add_add] at e0 e1 e2
      exact ⟨k, by simpa using e0, by simpa using e1, by simpa using e2, hk64⟩
    haveI : Inhabited Tk := ⟨⟨0, 0, 0⟩⟩
    obtain ⟨q, hq⟩ := choose_lt each
    obtain ⟨kb, koff, spot⟩ := ka
    by_cases h0 : len = 0
    · subst h0
      exact ⟨_, 0, kcap, 0, 0, fun _ => ⟨0, 0, 0⟩, rfl, fun h => absurd h (Nat.lt_irrefl _), fun i hi => absurd hi (Nat.not_lt_zero _), by omega, fun i hi => absurd hi (Nat.not_lt_zero _)⟩
    · have hc := (hq 0 (by omega)).1
      have hspot : spot = none := by simpa [Addr.add] using World.cell?_spot hc
      subst hspot
      refine ⟨_, len, kcap, kb, koff, q, rfl, fun _ => rfl, fun i hi => ?_, hm', fun i hi => (hq i hi).2.2.2⟩
      obtain ⟨e0, e1, e2, _⟩ := hq i hi
      rw [add_plain] at e0 e1 e2
      rw [← Nat.add_assoc] at e1 e2
      exact ⟨e0, e1, e2⟩
end Go.Proofs.YtndjblfenijjbaaDoor

