/- what is known of a machine that came in -/
import Derived.Test.YtolddecfibdblaaDoorOpen
import Derived.Test.YtolddecfibdblaaDoorJa
namespace Go.Proofs.YtolddecfibdblaaDoor
open Go.ChangeShapes Go.WideShapes Go.ChangeAt Go.RowKit Go.Deep
set_option linter.unusedVariables false
set_option linter.unusedSimpArgs false

theorem Tryd.cells26 : Tryd.prog.cellsOf 26 = 3 := by kernel_rfl
theorem Tryd.cells22 : Tryd.prog.cellsOf 22 = 1 := by kernel_rfl
theorem Tryd.cells23 : Tryd.prog.cellsOf 23 = 1 := by kernel_rfl
theorem Tryd.cells24 : Tryd.prog.cellsOf 24 = 1 := by kernel_rfl
theorem triple_of {α : Type} {l : List α} (h : l.length = 3) : ∃ a b c, l = [a, b, c] := by
  match l, h with
  | [a, b, c], _ => exact ⟨a, b, c, rfl⟩
theorem single_of {α : Type} {l : List α} (h : l.length = 1) : ∃ a, l = [a] := by
  match l, h with
  | [a], _ => exact ⟨a, rfl⟩

/-- a slice that came in, of elements of one cell -/
theorem openOnes {T : Type} {enc : TypeId × Value → T} {W : World} {t te : TypeId} {P : Value → Prop} (hu : Tryd.prog.underlying t = some (.slice te)) (hc : Tryd.prog.cellsOf te = 1)
    (hP : ∀ (fuel : Nat) (u : Value) (x : DataW T × List MemPlace), DataW.trod enc Tryd.prog W 0 (fun _ => true) true fuel te [u] = some x → P u) {v : Value} {fuel : Nat} {x : DataW T × List MemPlace}
    (h : DataW.trod enc Tryd.prog W 0 (fun _ => true) true fuel t [v] = some x) :
    ∃ (a : Option Addr) (n cap b off : Nat) (F : Nat → Value), v = .slice a n cap ∧ (0 < n → a = some ⟨b, off, none⟩) ∧ (∀ i, i < n → W.cell? ⟨b, off + i, none⟩ = some (F i) ∧ P (F i)) ∧ n ≤ 9223372036854775807 := by
  rcases DataW.trod_slice hu h with ⟨hcs, _⟩ | ⟨ka, len, kcap, elems, rest, n', hn', hcs, _, _, hl, hm, hel, hall, _, _⟩
  · simp at hcs
    subst hcs
    exact ⟨none, 0, 0, 0, 0, fun _ => .bool false, rfl, fun h => absurd h (Nat.lt_irrefl _), fun i hi => absurd hi (Nat.not_lt_zero _), by omega⟩
  · simp at hcs
    subst hcs
    have hm' : len ≤ 9223372036854775807 := by unfold maxLen at hm; omega
    have each : ∀ i, i < len → ∃ u : Value, W.cell? (ka.add i) = some u ∧ P u := by
      intro i hi
      have h1 := hall i hi
      rw [hc, List.getElem?_eq_getElem (by omega), Nat.mul_one] at h1
      obtain ⟨cs', h2, h3⟩ := Option.bind_eq_some_iff.1 h1
      obtain ⟨_, hlen, hcell⟩ := World.cells?_some h2
      obtain ⟨u, rfl⟩ := single_of hlen
      have e0 := hcell 0 (by omega)
      rw [add_add] at e0
      exact ⟨u, by simpa using e0, hP _ _ _ h3⟩
    haveI : Inhabited Value := ⟨.bool false⟩
    obtain ⟨q, hq⟩ := choose_lt each
    obtain ⟨kb, koff, spot⟩ := ka
    by_cases h0 : len = 0
    · subst h0
      exact ⟨_, 0, kcap, 0, 0, fun _ => .bool false, rfl, fun h => absurd h (Nat.lt_irrefl _), fun i hi => absurd hi (Nat.not_lt_zero _), by omega⟩
    · have hcc := (hq 0 (by omega)).1
      have hspot : spot = none := by simpa [Addr.add] using World.cell?_spot hcc
      subst hspot
      refine ⟨_, len, kcap, kb, koff, q, rfl, fun _ => rfl, fun i hi => ⟨?_, (hq i hi).2⟩, hm'⟩
      have e0 := (hq i hi).1
      rw [add_plain] at e0
      exact e0

theorem openInts {T : Type} {enc : TypeId × Value → T} {W : World} {v : Value} {fuel : Nat} {x : DataW T × List MemPlace}
    (h : DataW.trod enc Tryd.prog W 0 (fun _ => true) true fuel 24 [v] = some x) :
    ∃ (a : Option Addr) (n cap b off : Nat) (G : Nat → Int), v = .slice a n cap ∧ (0 < n → a = some ⟨b, off, none⟩) ∧ Ip W b off n G ∧ n ≤ 9223372036854775807 := by
  obtain ⟨a, n, cap, b, off, F, hv, hg, hF, hn⟩ := openOnes (P := fun u => ∃ z : Int, u = .int .i64 z) Tryd.underlying24 Tryd.cells3 (fun fuel u x h => by
    obtain ⟨z, e, _, _⟩ := DataW.trod_int Tryd.underlying3 h
    simp at e
    exact ⟨z, e⟩) h
  obtain ⟨G, hG⟩ := choose_lt (fun i hi => (hF i hi).2)
  exact ⟨a, n, cap, b, off, G, hv, hg, fun i hi => by rw [(hF i hi).1, hG i hi], hn⟩

theorem openSS {T : Type} {enc : TypeId × Value → T} {W : World} {v : Value} {fuel : Nat} {x : DataW T × List MemPlace}
    (h : DataW.trod enc Tryd.prog W 0 (fun _ => true) true fuel 22 [v] = some x) :
    ∃ (a : Option Addr) (n cap b off : Nat) (N : Nest), v = .slice a n cap ∧ (0 < n → a = some ⟨b, off, none⟩) ∧ SS W b off n N ∧ (∀ i, i < n → N.n i ≤ 9223372036854775807) ∧ n ≤ 9223372036854775807 := by
  obtain ⟨a, n, cap, b, off, F, hv, hg, hF, hn⟩ := openOnes (P := fun u => ∃ q : (Option Addr × Nat × Nat) × (Nat × Nat) × (Nat → Int) × (Nat → Int), u = .slice q.1.1 q.1.2.1 q.1.2.2 ∧ (0 < q.1.2.1 → q.1.1 = some ⟨q.2.1.1, q.2.1.2, none⟩) ∧ Sp W q.2.1.1 q.2.1.2 q.1.2.1 q.2.2.1 q.2.2.2 ∧ q.1.2.1 ≤ 9223372036854775807) Tryd.underlying22 Tryd.cells69 (fun fuel u x h => by
    obtain ⟨a, n, cap, b, off, L, H, e1, e2, e3, e4⟩ := openSpans h
    exact ⟨((a, n, cap), (b, off), L, H), e1, e2, e3, e4⟩) h
  haveI : Inhabited ((Option Addr × Nat × Nat) × (Nat × Nat) × (Nat → Int) × (Nat → Int)) := ⟨((none, 0, 0), (0, 0), fun _ => 0, fun _ => 0)⟩
  obtain ⟨G, hG⟩ := choose_lt (fun i hi => (hF i hi).2)
  exact ⟨a, n, cap, b, off, { a := fun i => (G i).1.1, b := fun i => (G i).2.1.1, off := fun i => (G i).2.1.2, cap := fun i => (G i).1.2.2, n := fun i => (G i).1.2.1, L := fun i => (G i).2.2.1, H := fun i => (G i).2.2.2 },
    hv, hg, fun i hi => ⟨by rw [(hF i hi).1, (hG i hi).1], (hG i hi).2.1, (hG i hi).2.2.1⟩, fun i hi => (hG i hi).2.2.2, hn⟩

theorem openIS {T : Type} {enc : TypeId × Value → T} {W : World} {v : Value} {fuel : Nat} {x : DataW T × List MemPlace}
    (h : DataW.trod enc Tryd.prog W 0 (fun _ => true) true fuel 23 [v] = some x) :
    ∃ (a : Option Addr) (n cap b off : Nat) (N : Nsi), v = .slice a n cap ∧ (0 < n → a = some ⟨b, off, none⟩) ∧ IS W b off n N ∧ (∀ i, i < n → N.n i ≤ 9223372036854775807) ∧ n ≤ 9223372036854775807 := by
  obtain ⟨a, n, cap, b, off, F, hv, hg, hF, hn⟩ := openOnes (P := fun u => ∃ q : (Option Addr × Nat × Nat) × (Nat × Nat) × (Nat → Int), u = .slice q.1.1 q.1.2.1 q.1.2.2 ∧ (0 < q.1.2.1 → q.1.1 = some ⟨q.2.1.1, q.2.1.2, none⟩) ∧ Ip W q.2.1.1 q.2.1.2 q.1.2.1 q.2.2 ∧ q.1.2.1 ≤ 9223372036854775807) Tryd.underlying23 Tryd.cells24 (fun fuel u x h => by
    obtain ⟨a, n, cap, b, off, G, e1, e2, e3, e4⟩ := openInts h
    exact ⟨((a, n, cap), (b, off), G), e1, e2, e3, e4⟩) h
  haveI : Inhabited ((Option Addr × Nat × Nat) × (Nat × Nat) × (Nat → Int)) := ⟨((none, 0, 0), (0, 0), fun _ => 0)⟩
  obtain ⟨G, hG⟩ := choose_lt (fun i hi => (hF i hi).2)
  exact ⟨a, n, cap, b, off, { a := fun i => (G i).1.1, b := fun i => (G i).2.1.1, off := fun i => (G i).2.1.2, cap := fun i => (G i).1.2.2, n := fun i => (G i).1.2.1, G := fun i => (G i).2.2 },
    hv, hg, fun i hi => ⟨by rw [(hF i hi).1, (hG i hi).1], (hG i hi).2.1, (hG i hi).2.2.1⟩, fun i hi => (hG i hi).2.2.2, hn⟩

theorem openDfa {T : Type} {enc : TypeId × Value → T} {W : World} {fuel : Nat} {cs : List Value} {x : DataW T × List MemPlace}
    (h : DataW.trod enc Tryd.prog W 0 (fun _ => true) true fuel 26 cs = some x) : ∃ D : Dx, cs = [.slice D.pa D.pn D.pc, .slice D.ra D.rn D.rc, .slice D.aa D.an D.ac] ∧ DIn W D ∧ DLe D 9223372036854775807 := by
  cases fuel with
  | zero => simp [DataW.trod] at h
  | succ fuel =>
    obtain ⟨xs, n, hfn, _, hlen, hxl, hf⟩ := DataW.trod_struct Tryd.underlying26 h
    rw [Tryd.cells26] at hlen
    have hxl' : xs.length = 3 := hxl
    obtain ⟨c0, c1, c2, rfl⟩ := triple_of hlen
    obtain ⟨y0, y1, y2, rfl⟩ := triple_of hxl'
    have g0 := hf 0 _ rfl
    have g1 := hf 1 _ rfl
    have g2 := hf 2 _ rfl
    simp [Tryd.cells22, Tryd.cells23, Tryd.cells24] at g0 g1 g2
    obtain ⟨pa, pn, pc, pb, poff, P, rfl, p1, p2, p3, p4⟩ := openSS g0
    obtain ⟨ra, rn, rc, rb, roff, R, rfl, r1, r2, r3, r4⟩ := openIS g1
    obtain ⟨aa, an, ac, ab, aoff, A, rfl, a1, a2, a4⟩ := openInts g2
    exact ⟨{ pa := pa, pb := pb, poff := poff, pc := pc, pn := pn, P := P, ra := ra, rb := rb, roff := roff, rc := rc, rn := rn, R := R, aa := aa, ab := ab, aoff := aoff, ac := ac, an := an, A := A }, rfl, ⟨p1, p2, r1, r2, a1, a2⟩, ⟨p4, p3, r4, r3, a4⟩⟩
end Go.Proofs.YtolddecfibdblaaDoor

