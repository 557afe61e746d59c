/- what is known of a list of rules that came in -/
import Derived.Test.YtcpbkkdjaojfiaaGreatDoorOpen
import Derived.Test.YtcpbkkdjaojfiaaGreatDoorUa
namespace Go.Proofs.YtcpbkkdjaojfiaaGreatDoor
open Go.ChangeShapes Go.WideShapes Go.ChangeAt Go.RowKit Go.Deep
set_option linter.unusedVariables false
set_option linter.unusedSimpArgs false

theorem Tryz.cells35 : Tryz.prog.cellsOf 35 = 4 := by kernel_rfl
theorem Tryz.cells9 : Tryz.prog.cellsOf 9 = 1 := by kernel_rfl
theorem four_of {α : Type} {l : List α} (h : l.length = 4) : ∃ a b c d, l = [a, b, c, d] := by
  match l, h with
  | [a, b, c, d], _ => exact ⟨a, b, c, d, rfl⟩
theorem two_of {α : Type} {l : List α} (h : l.length = 2) : ∃ a b, l = [a, b] := by
  match l, h with
  | [a, b], _ => exact ⟨a, b, rfl⟩

theorem openRule {T : Type} {enc : TypeId × Value → T} {W : World} {fuel : Nat} {cs : List Value} {x : DataW T × List MemPlace}
    (h : DataW.trod enc Tryz.prog W 0 (fun _ => true) true fuel 35 cs = some x) : ∃ (s : ByteArray) (S : Sh) (M : Mx), cs = [.string s, .int .i64 S.kind, M.sv, M.kv] ∧ In AnyB W S M ∧ s.size ≤ maxLen := by
  cases fuel with
  | zero => simp [DataW.trod] at h
  | succ fuel =>
    obtain ⟨xs, n, hfn, _, hlen, hxl, hf⟩ := DataW.trod_struct Tryz.underlying35 h
    rw [Tryz.cells35] at hlen
    have hxl' : xs.length = 2 := hxl
    obtain ⟨c0, c1, c2, c3, rfl⟩ := four_of hlen
    obtain ⟨y0, y1, rfl⟩ := two_of hxl'
    have g0 := hf 0 _ rfl
    have g1 := hf 1 _ rfl
    simp [Tryz.cells9, Tryz.cells33] at g0 g1
    obtain ⟨s, e0, _, hs⟩ := DataW.trod_string Tryz.underlying9 g0
    simp at e0
    subst e0
    obtain ⟨S, M, e1, hin⟩ := openRex _ _ _ _ (Nat.le_refl _) g1
    simp at e1
    obtain ⟨rfl, rfl, rfl⟩ := e1
    exact ⟨s, S, M, rfl, hin, hs⟩

theorem openRules {T : Type} {enc : TypeId × Value → T} {W : World} {v : Value} {fuel : Nat} {x : DataW T × List MemPlace}
    (h : DataW.trod enc Tryz.prog W 0 (fun _ => true) true fuel 22 [v] = some x) :
    ∃ (a : Option Addr) (n cap b off : Nat) (N : Nat → ByteArray) (K : Nat → Sh) (M : Nat → Mx), v = .slice a n cap ∧ (0 < n → a = some ⟨b, off, none⟩) ∧ RulesIn AnyB W b off n N K M ∧ (∀ i, i < n → (N i).size ≤ maxLen) ∧ n ≤ 9223372036854775807 := by
  rcases DataW.trod_slice Tryz.underlying22 h with ⟨hcs, _⟩ | ⟨ka, len, kcap, elems, rest, n', hn', hcs, _, _, hl, hm, hel, hall, _, _⟩
  · simp at hcs
    subst hcs
    exact ⟨none, 0, 0, 0, 0, fun _ => ByteArray.empty, fun _ => .no, fun _ => .no, rfl, fun h => absurd h (Nat.lt_irrefl _), fun i hi => absurd hi (Nat.not_lt_zero _), fun i hi => absurd hi (Nat.not_lt_zero _), by omega⟩
  · simp at hcs
    subst hcs
    have hm' : len ≤ 9223372036854775807 := by unfold maxLen at hm; omega
    have each : ∀ i, i < len → ∃ q : ByteArray × Sh × Mx, W.cell? (ka.add (i * 4)) = some (.string q.1) ∧ W.cell? (ka.add (i * 4 + 1)) = some (.int .i64 q.2.1.kind) ∧ W.cell? (ka.add (i * 4 + 2)) = some q.2.2.sv ∧ W.cell? (ka.add (i * 4 + 3)) = some q.2.2.kv ∧ In AnyB W q.2.1 q.2.2 ∧ q.1.size ≤ maxLen := by
      intro i hi
      have h1 := hall i hi
      rw [Tryz.cells35, List.getElem?_eq_getElem (by omega)] at h1
      obtain ⟨cs', h2, h3⟩ := Option.bind_eq_some_iff.1 h1
      obtain ⟨s, S, M, hcs, hin, hs⟩ := openRule h3
      obtain ⟨_, _, hcell⟩ := World.cells?_some h2
      subst hcs
      have e0 := hcell 0 (by omega)
      have e1 := hcell 1 (by omega)
      have e2 := hcell 2 (by omega)
      have e3 := hcell 3 (by omega)
      rw [add_add] at e0 e1 e2 e3
      exact ⟨(s, S, M), by simpa using e0, by simpa using e1, by simpa using e2, by simpa using e3, hin, hs⟩
    haveI : Inhabited (ByteArray × Sh × Mx) := ⟨(ByteArray.empty, .no, .no)⟩
    obtain ⟨q, hq⟩ := choose_lt each
    obtain ⟨kb, koff, spot⟩ := ka
    by_cases h0 : len = 0
    · subst h0
      exact ⟨_, 0, kcap, 0, 0, fun _ => ByteArray.empty, fun _ => .no, fun _ => .no, rfl, fun h => absurd h (Nat.lt_irrefl _), fun i hi => absurd hi (Nat.not_lt_zero _), fun i hi => absurd hi (Nat.not_lt_zero _), by omega⟩
    · have hc := (hq 0 (by omega)).1
      have hspot : spot = none := by simpa [Addr.add] using World.cell?_spot hc
      subst hspot
      refine ⟨_, len, kcap, kb, koff, fun i => (q i).1, fun i => (q i).2.1, fun i => (q i).2.2, rfl, fun _ => rfl, fun i hi => ?_, fun i hi => (hq i hi).2.2.2.2.2, hm'⟩
      obtain ⟨e0, e1, e2, e3, hin, _⟩ := hq i hi
      rw [add_plain] at e0 e1 e2 e3
      rw [← Nat.add_assoc] at e1 e2 e3
      exact ⟨⟨e0, e1, e2, e3⟩, hin⟩
end Go.Proofs.YtcpbkkdjaojfiaaGreatDoor

