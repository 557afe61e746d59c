/- what is known of a list of rules that came in -/
import Derived.Test.YtplpdikkkbiacaaGreatDoorJa
import Derived.ProofKit
import Derived.OpenShut
import Derived.ShutString
import Derived.ChangeOld
import Derived.Below
import Derived.Deep.SlicePairs
import Derived.Test.YtplpdikkkbiacaaGreatDoorXs
namespace Go.Proofs.YtplpdikkkbiacaaGreatDoor
open Go.ChangeShapes Go.WideShapes Go.ChangeAt Go.RowKit Go.Deep
set_option linter.unusedVariables false
set_option linter.unusedSimpArgs false

theorem own : ownKnob Tryz.prog.godebug = none := by kernel_rfl
theorem laidOut : laidOutB Tryz.prog = true := by kernel_rfl
theorem Tryz.cells103 : Tryz.prog.cellsOf 103 = 2 := by kernel_rfl
theorem Tryz.cells38 : Tryz.prog.cellsOf 38 = 3 := by kernel_rfl
theorem Tryz.cells35 : Tryz.prog.cellsOf 35 = 1 := by kernel_rfl
theorem Tryz.cells36 : Tryz.prog.cellsOf 36 = 1 := by kernel_rfl
theorem Tryz.cells3 : Tryz.prog.cellsOf 3 = 1 := by kernel_rfl

/-- a slice of spans that came in: where they lie, what they are -/
theorem openSpans {T : Type} {enc : TypeId × Value → T} {W : World} {v : Value} {fuel : Nat} {x : DataW T × List MemPlace}
    (hf : DataW.trod enc Tryz.prog W 0 (fun _ => true) true fuel 35 [v] = some x) :
    ∃ (a : Option Addr) (n cap b off : Nat) (L H : Nat → Int), v = .slice a n cap ∧ (0 < n → a = some ⟨b, off, none⟩) ∧ Sp W b off n L H ∧ n ≤ 9223372036854775807 := by
  rcases open_slice_pairs Tryz.underlying35 Tryz.underlying103 Tryz.cells103 rfl rfl Tryz.cells3 Tryz.cells3 hf with ⟨hcs, _⟩ | ⟨x, l, c, m, n, V0, V1, D0, D1, P0, P1, hcs, _, hl, hm, hmm, _, hx⟩
  · simp at hcs
    subst hcs
    exact ⟨none, 0, 0, 0, 0, fun _ => 0, fun _ => 0, rfl, fun h => absurd h (Nat.lt_irrefl _), fun i hi => absurd hi (Nat.not_lt_zero _), by omega⟩
  · simp at hcs
    subst hcs
    simp at hmm
    subst hmm
    have hm' : l ≤ 9223372036854775807 := by unfold maxLen at hm; omega
    have each : ∀ i, i < l → ∃ q : Int × Int, V0 i = .int .i64 q.1 ∧ V1 i = .int .i64 q.2 := by
      intro i hi
      obtain ⟨_, _, h0, h1⟩ := hx i (by omega)
      obtain ⟨x0, e0, _, _⟩ := DataW.trod_int Tryz.underlying3 h0
      obtain ⟨x1, e1, _, _⟩ := DataW.trod_int Tryz.underlying3 h1
      simp at e0 e1
      exact ⟨(x0, x1), e0, e1⟩
    obtain ⟨q, hq⟩ := choose_lt each
    obtain ⟨b, off, spot⟩ := x
    by_cases h0 : l = 0
    · subst h0
      exact ⟨_, 0, _, 0, 0, fun _ => 0, fun _ => 0, rfl, fun h => absurd h (Nat.lt_irrefl _), fun i hi => absurd hi (Nat.not_lt_zero _), by omega⟩
    · have hc := (hx 0 (by omega)).1
      have hspot : spot = none := by simpa [Addr.add] using World.cell?_spot hc
      subst hspot
      refine ⟨_, l, _, b, off, fun i => (q i).1, fun i => (q i).2, rfl, fun _ => rfl, fun i hi => ?_, hm'⟩
      obtain ⟨g0, g1, _, _⟩ := hx i (by omega)
      rw [(hq i hi).1] at g0
      rw [(hq i hi).2] at g1
      rw [add_plain] at g0 g1
      exact ⟨g0, by simpa [Nat.add_assoc] using g1⟩

/-- a shape of nothing -/
def Sh.no : Sh := .node 0 0 (fun _ => 0) (fun _ => 0) 0 (fun i => absurd i.2 (Nat.not_lt_zero _))

theorem three_of {α : Type} {l : List α} (h : l.length = 3) : ∃ a b c, l = [a, b, c] := by
  match l, h with
  | [a, b, c], _ => exact ⟨a, b, c, rfl⟩

/-- a Rex that came in: it is of some shape, and lies somewhere -/
theorem openRex {T : Type} {enc : TypeId × Value → T} {W : World} (N : Nat) : ∀ (fuel : Nat) (cs : List Value) (x : DataW T × List MemPlace), fuel ≤ N →
    DataW.trod enc Tryz.prog W 0 (fun _ => true) true fuel 38 cs = some x → ∃ (S : Sh) (M : Mx), cs = [.int .i64 S.kind, M.sv, M.kv] ∧ In AnyB W S M := by
  induction N with
  | zero =>
    intro fuel cs x hN h
    obtain rfl : fuel = 0 := by omega
    simp [DataW.trod] at h
  | succ N ih =>
    intro fuel cs x hN h
    obtain ⟨xs, n, hfn, _, hlen, hxl, hf⟩ := DataW.trod_struct Tryz.underlying38 h
    rw [Tryz.cells38] at hlen
    have hxl' : xs.length = 3 := hxl
    obtain ⟨c0, c1, c2, rfl⟩ := three_of hlen
    obtain ⟨y0, y1, y2, rfl⟩ := three_of hxl'
    · skip
      have g0 := hf 0 _ rfl
      have g1 := hf 1 _ rfl
      have g2 := hf 2 _ rfl
      simp [Tryz.cells3, Tryz.cells35, Tryz.cells36] at g0 g1 g2
      obtain ⟨k, e0, _, _⟩ := DataW.trod_int Tryz.underlying3 g0
      simp at e0
      subst e0
      obtain ⟨a, sn, cap, b, off, L, H, rfl, hga, hsp, hsn⟩ := openSpans g1
      rcases DataW.trod_slice Tryz.underlying36 g2 with ⟨hcs, _⟩ | ⟨ka, len, kcap, elems, rest, n', hn', hcs, _, _, hl, hm, hel, hall, _, _⟩
      · simp at hcs
        subst hcs
        exact ⟨.mk k sn L H 0 (fun _ => .no), .mk (.slice a sn cap) (.slice none 0 0) (fun _ => .no), rfl, a, b, off, cap, none, 0, 0, 0, rfl, fun h => ⟨hga h, trivial⟩, hsp, hsn, rfl, fun h => absurd h (Nat.lt_irrefl _), by omega, fun i hi => absurd hi (Nat.not_lt_zero _)⟩
      · simp at hcs
        subst hcs
        have hm' : len ≤ 9223372036854775807 := by unfold maxLen at hm; omega
        have each : ∀ i, i < len → ∃ q : Sh × Mx, W.cell? (ka.add (i * 3)) = some (.int .i64 q.1.kind) ∧ W.cell? (ka.add (i * 3 + 1)) = some q.2.sv ∧ W.cell? (ka.add (i * 3 + 2)) = some q.2.kv ∧ In AnyB W q.1 q.2 := by
          intro i hi
          have h1 := hall i hi
          rw [Tryz.cells38, List.getElem?_eq_getElem (by omega)] at h1
          obtain ⟨cs', h2, h3⟩ := Option.bind_eq_some_iff.1 h1
          obtain ⟨S, M, hcs, hin⟩ := ih n' cs' _ (by omega) h3
          obtain ⟨_, _, hcell⟩ := World.cells?_some h2
          subst hcs
          have e0 := hcell 0 (by omega)
          have e1 := hcell 1 (by omega)
          have e2 := hcell 2 (by omega)
          rw [add_add] at e0 e1 e2
          exact ⟨(S, M), by simpa using e0, by simpa using e1, by simpa using e2, hin⟩
        haveI : Inhabited (Sh × Mx) := ⟨(.no, .no)⟩
        obtain ⟨q, hq⟩ := choose_lt each
        obtain ⟨kb, koff, spot⟩ := ka
        by_cases h0 : len = 0
        · subst h0
          exact ⟨.mk k sn L H 0 (fun _ => .no), .mk (.slice a sn cap) (.slice (some ⟨kb, koff, spot⟩) 0 kcap) (fun _ => .no), rfl, a, b, off, cap, _, 0, 0, kcap, rfl, fun h => ⟨hga h, trivial⟩, hsp, hsn, rfl, fun h => absurd h (Nat.lt_irrefl _), by omega, fun i hi => absurd hi (Nat.not_lt_zero _)⟩
        · have hc := (hq 0 (by omega)).1
          have hspot : spot = none := by simpa [Addr.add] using World.cell?_spot hc
          subst hspot
          refine ⟨.mk k sn L H len (fun i => (q i).1), .mk (.slice a sn cap) (.slice (some ⟨kb, koff, none⟩) len kcap) (fun i => (q i).2), rfl, a, b, off, cap, _, kb, koff, kcap, rfl, fun h => ⟨hga h, trivial⟩, hsp, hsn, rfl, fun h => ⟨rfl, trivial⟩, hm', fun i hi => ?_⟩
          obtain ⟨e0, e1, e2, hin⟩ := hq i hi
          rw [add_plain] at e0 e1 e2
          rw [← Nat.add_assoc] at e1 e2
          exact ⟨⟨e0, e1, e2⟩, hin⟩
end Go.Proofs.YtplpdikkkbiacaaGreatDoor
namespace Go.Proofs.YtplpdikkkbiacaaGreatDoor
open Go.ChangeShapes Go.WideShapes Go.ChangeAt Go.RowKit Go.Deep
set_option linter.unusedVariables false
set_option linter.unusedSimpArgs false

theorem Tryz.cells40 : Tryz.prog.cellsOf 40 = 4 := by kernel_rfl
theorem Tryz.cells9 : Tryz.prog.cellsOf 9 = 1 := by kernel_rfl
theorem four_of {α : Type} {l : List α} (h : l.length = 4) : ∃ a b c d, l = [a, b, c, d] := by
  match l, h with
  | [a, b, c, d], _ => exact ⟨a, b, c, d, rfl⟩
theorem two_of {α : Type} {l : List α} (h : l.length = 2) : ∃ a b, l = [a, b] := by
  match l, h with
  | [a, b], _ => exact ⟨a, b, rfl⟩

theorem openRule {T : Type} {enc : TypeId × Value → T} {W : World} {fuel : Nat} {cs : List Value} {x : DataW T × List MemPlace}
    (h : DataW.trod enc Tryz.prog W 0 (fun _ => true) true fuel 40 cs = some x) : ∃ (s : ByteArray) (S : Sh) (M : Mx), cs = [.string s, .int .i64 S.kind, M.sv, M.kv] ∧ In AnyB W S M ∧ s.size ≤ maxLen := by
  cases fuel with
  | zero => simp [DataW.trod] at h
  | succ fuel =>
    obtain ⟨xs, n, hfn, _, hlen, hxl, hf⟩ := DataW.trod_struct Tryz.underlying40 h
    rw [Tryz.cells40] at hlen
    have hxl' : xs.length = 2 := hxl
    obtain ⟨c0, c1, c2, c3, rfl⟩ := four_of hlen
    obtain ⟨y0, y1, rfl⟩ := two_of hxl'
    have g0 := hf 0 _ rfl
    have g1 := hf 1 _ rfl
    simp [Tryz.cells9, Tryz.cells38] at g0 g1
    obtain ⟨s, e0, _, hs⟩ := DataW.trod_string Tryz.underlying9 g0
    simp at e0
    subst e0
    obtain ⟨S, M, e1, hin⟩ := openRex _ _ _ _ (Nat.le_refl _) g1
    simp at e1
    obtain ⟨rfl, rfl, rfl⟩ := e1
    exact ⟨s, S, M, rfl, hin, hs⟩

theorem openRules {T : Type} {enc : TypeId × Value → T} {W : World} {v : Value} {fuel : Nat} {x : DataW T × List MemPlace}
    (h : DataW.trod enc Tryz.prog W 0 (fun _ => true) true fuel 22 [v] = some x) :
    ∃ (a : Option Addr) (n cap b off : Nat) (N : Nat → ByteArray) (K : Nat → Sh) (M : Nat → Mx), v = .slice a n cap ∧ (0 < n → a = some ⟨b, off, none⟩) ∧ RulesIn AnyB W b off n N K M ∧ (∀ i, i < n → (N i).size ≤ maxLen) ∧ n ≤ 9223372036854775807 := by
  rcases DataW.trod_slice Tryz.underlying22 h with ⟨hcs, _⟩ | ⟨ka, len, kcap, elems, rest, n', hn', hcs, _, _, hl, hm, hel, hall, _, _⟩
  · simp at hcs
    subst hcs
    exact ⟨none, 0, 0, 0, 0, fun _ => ByteArray.empty, fun _ => .no, fun _ => .no, rfl, fun h => absurd h (Nat.lt_irrefl _), fun i hi => absurd hi (Nat.not_lt_zero _), fun i hi => absurd hi (Nat.not_lt_zero _), by omega⟩
  · simp at hcs
    subst hcs
    have hm' : len ≤ 9223372036854775807 := by unfold maxLen at hm; omega
    have each : ∀ i, i < len → ∃ q : ByteArray × Sh × Mx, W.cell? (ka.add (i * 4)) = some (.string q.1) ∧ W.cell? (ka.add (i * 4 + 1)) = some (.int .i64 q.2.1.kind) ∧ W.cell? (ka.add (i * 4 + 2)) = some q.2.2.sv ∧ W.cell? (ka.add (i * 4 + 3)) = some q.2.2.kv ∧ In AnyB W q.2.1 q.2.2 ∧ q.1.size ≤ maxLen := by
      intro i hi
      have h1 := hall i hi
      rw [Tryz.cells40, List.getElem?_eq_getElem (by omega)] at h1
      obtain ⟨cs', h2, h3⟩ := Option.bind_eq_some_iff.1 h1
      obtain ⟨s, S, M, hcs, hin, hs⟩ := openRule h3
      obtain ⟨_, _, hcell⟩ := World.cells?_some h2
      subst hcs
      have e0 := hcell 0 (by omega)
      have e1 := hcell 1 (by omega)
      have e2 := hcell 2 (by omega)
      have e3 := hcell 3 (by omega)
      rw [add_add] at e0 e1 e2 e3
      exact ⟨(s, S, M), by simpa using e0, by simpa using e1, by simpa using e2, by simpa using e3, hin, hs⟩
    haveI : Inhabited (ByteArray × Sh × Mx) := ⟨(ByteArray.empty, .no, .no)⟩
    obtain ⟨q, hq⟩ := choose_lt each
    obtain ⟨kb, koff, spot⟩ := ka
    by_cases h0 : len = 0
    · subst h0
      exact ⟨_, 0, kcap, 0, 0, fun _ => ByteArray.empty, fun _ => .no, fun _ => .no, rfl, fun h => absurd h (Nat.lt_irrefl _), fun i hi => absurd hi (Nat.not_lt_zero _), fun i hi => absurd hi (Nat.not_lt_zero _), by omega⟩
    · have hc := (hq 0 (by omega)).1
      have hspot : spot = none := by simpa [Addr.add] using World.cell?_spot hc
      subst hspot
      refine ⟨_, len, kcap, kb, koff, fun i => (q i).1, fun i => (q i).2.1, fun i => (q i).2.2, rfl, fun _ => rfl, fun i hi => ?_, fun i hi => (hq i hi).2.2.2.2.2, hm'⟩
      obtain ⟨e0, e1, e2, e3, hin, _⟩ := hq i hi
      rw [add_plain] at e0 e1 e2 e3
      rw [← Nat.add_assoc] at e1 e2 e3
      exact ⟨⟨e0, e1, e2, e3⟩, hin⟩
end Go.Proofs.YtplpdikkkbiacaaGreatDoor

