/- What lists of numbers and machines hold in memory; no Go text is walked here. -/
import Derived.Test.YtolddecfibdblaaDoorYa
import Derived.Test.YtolddecfibdblaaDoorTa
namespace Go.Proofs.YtolddecfibdblaaDoor
open Go.RowKit
set_option linter.unusedVariables false
set_option linter.unusedSimpArgs false

/-- n numbers lie in block b from off on -/
def Ip (w : World) (b off n : Nat) (G : Nat → Int) : Prop := ∀ i, i < n → w.cell? ⟨b, off + i, none⟩ = some (.int .i64 (G i))
theorem Ip.below {w w' : World} {b off n : Nat} {G : Nat → Int} (h : Ip w b off n G) (hb : Below w.heap.size w w') : Ip w' b off n G :=
  fun i hi => (hb.cell (p := ⟨b, _, none⟩) (World.block_lt_of_cell? _ _ (h i hi))).trans (h i hi)
theorem Ip.of_row {w : World} {b t n : Nat} {G : Nat → Int} (h : w.rowIs b t n (fun j => .int .i64 (G j))) : Ip w b 0 n G := by
  intro i hi
  have h1 := h.cell hi
  simpa using h1

/-- a list of lists of numbers: where each lies and what it is -/
structure Nsi where
  a : Nat → Option Addr
  b : Nat → Nat
  off : Nat → Nat
  cap : Nat → Nat
  n : Nat → Nat
  G : Nat → Nat → Int
/-- n lists lie in block b from off on, one cell each -/
def IS (w : World) (b off n : Nat) (N : Nsi) : Prop :=
  ∀ i, i < n → w.cell? ⟨b, off + i, none⟩ = some (.slice (N.a i) (N.n i) (N.cap i)) ∧ (0 < N.n i → N.a i = some ⟨N.b i, N.off i, none⟩) ∧ Ip w (N.b i) (N.off i) (N.n i) (N.G i)
theorem IS.below {w w' : World} {b off n : Nat} {N : Nsi} (h : IS w b off n N) (hb : Below w.heap.size w w') : IS w' b off n N := by
  intro i hi
  obtain ⟨h1, h2, h3⟩ := h i hi
  exact ⟨(hb.cell (p := ⟨b, _, none⟩) (World.block_lt_of_cell? _ _ h1)).trans h1, h2, h3.below hb⟩

/-- a machine: where its lists lie and what they are -/
structure Dx where
  pa : Option Addr
  pb : Nat
  poff : Nat
  pc : Nat
  pn : Nat
  P : Nest
  ra : Option Addr
  rb : Nat
  roff : Nat
  rc : Nat
  rn : Nat
  R : Nsi
  aa : Option Addr
  ab : Nat
  aoff : Nat
  ac : Nat
  an : Nat
  A : Nat → Int
/-- it as a value -/
def dv (D : Dx) : Value := .agg #[.slice D.pa D.pn D.pc, .slice D.ra D.rn D.rc, .slice D.aa D.an D.ac]
/-- it lies there -/
structure DIn (w : World) (D : Dx) : Prop where
  pg : 0 < D.pn → D.pa = some ⟨D.pb, D.poff, none⟩
  p : SS w D.pb D.poff D.pn D.P
  rg : 0 < D.rn → D.ra = some ⟨D.rb, D.roff, none⟩
  r : IS w D.rb D.roff D.rn D.R
  ag : 0 < D.an → D.aa = some ⟨D.ab, D.aoff, none⟩
  a : Ip w D.ab D.aoff D.an D.A
theorem DIn.below {w w' : World} {D : Dx} (h : DIn w D) (hb : Below w.heap.size w w') : DIn w' D := ⟨h.pg, h.p.below hb, h.rg, h.r.below hb, h.ag, h.a.below hb⟩

/-- how much it holds -/
def cntD (D : Dx) : Nat := D.pn + tot D.P.n D.pn + (D.rn + tot D.R.n D.rn) + D.an
/-- all lists are of so many at most -/
structure DLe (D : Dx) (m : Nat) : Prop where
  p : D.pn ≤ m
  pi : ∀ i, i < D.pn → D.P.n i ≤ m
  r : D.rn ≤ m
  ri : ∀ i, i < D.rn → D.R.n i ≤ m
  a : D.an ≤ m
theorem DLe.of_cnt {D : Dx} {m : Nat} (h : cntD D ≤ m) : DLe D m := by
  unfold cntD at h
  refine ⟨by omega, fun i hi => ?_, by omega, fun i hi => ?_, by omega⟩
  · have := tot_at D.P.n hi; omega
  · have := tot_at D.R.n hi; omega
theorem DLe.mono {D : Dx} {m m' : Nat} (h : DLe D m) (e : m ≤ m') : DLe D m' :=
  ⟨Nat.le_trans h.p e, fun i hi => Nat.le_trans (h.pi i hi) e, Nat.le_trans h.r e, fun i hi => Nat.le_trans (h.ri i hi) e, Nat.le_trans h.a e⟩

/-- the two lists of sets are one -/
def PEq (n : Nat) (N : Nest) (m : Nat) (N' : Nest) : Prop := n = m ∧ ∀ i, i < n → N.n i = N'.n i ∧ ∀ j, j < N.n i → N.L i j = N'.L i j ∧ N.H i j = N'.H i j
/-- the two lists of lists are one -/
def REq (n : Nat) (N : Nsi) (m : Nat) (N' : Nsi) : Prop := n = m ∧ ∀ i, i < n → N.n i = N'.n i ∧ ∀ j, j < N.n i → N.G i j = N'.G i j
/-- the two lists are one -/
def AEq (n : Nat) (G : Nat → Int) (m : Nat) (G' : Nat → Int) : Prop := n = m ∧ ∀ i, i < n → G i = G' i
/-- the two machines are one -/
def DEq (D D' : Dx) : Prop := PEq D.pn D.P D'.pn D'.P ∧ REq D.rn D.R D'.rn D'.R ∧ AEq D.an D.A D'.an D'.A
theorem DEq.refl (D : Dx) : DEq D D := ⟨⟨rfl, fun _ _ => ⟨rfl, fun _ _ => ⟨rfl, rfl⟩⟩⟩, ⟨rfl, fun _ _ => ⟨rfl, fun _ _ => rfl⟩⟩, ⟨rfl, fun _ _ => rfl⟩⟩
theorem PEq.symm {n : Nat} {N : Nest} {m : Nat} {N' : Nest} (h : PEq n N m N') : PEq m N' n N := by
  obtain ⟨rfl, h⟩ := h
  exact ⟨rfl, fun i hi => ⟨(h i hi).1.symm, fun j hj => ⟨((h i hi).2 j (by rw [(h i hi).1]; exact hj)).1.symm, ((h i hi).2 j (by rw [(h i hi).1]; exact hj)).2.symm⟩⟩⟩
theorem REq.symm {n : Nat} {N : Nsi} {m : Nat} {N' : Nsi} (h : REq n N m N') : REq m N' n N := by
  obtain ⟨rfl, h⟩ := h
  exact ⟨rfl, fun i hi => ⟨(h i hi).1.symm, fun j hj => ((h i hi).2 j (by rw [(h i hi).1]; exact hj)).symm⟩⟩
theorem AEq.symm {n : Nat} {G : Nat → Int} {m : Nat} {G' : Nat → Int} (h : AEq n G m G') : AEq m G' n G := by
  obtain ⟨rfl, h⟩ := h
  exact ⟨rfl, fun i hi => (h i hi).symm⟩
theorem DEq.symm {D D' : Dx} (h : DEq D D') : DEq D' D := ⟨h.1.symm, h.2.1.symm, h.2.2.symm⟩
theorem PEq.trans {n : Nat} {N : Nest} {m : Nat} {N' : Nest} {k : Nat} {N2 : Nest} (h : PEq n N m N') (h' : PEq m N' k N2) : PEq n N k N2 := by
  obtain ⟨rfl, h⟩ := h
  obtain ⟨rfl, h'⟩ := h'
  exact ⟨rfl, fun i hi => ⟨(h i hi).1.trans (h' i hi).1, fun j hj => ⟨((h i hi).2 j hj).1.trans ((h' i hi).2 j (by rw [← (h i hi).1]; exact hj)).1, ((h i hi).2 j hj).2.trans ((h' i hi).2 j (by rw [← (h i hi).1]; exact hj)).2⟩⟩⟩
theorem REq.trans {n : Nat} {N : Nsi} {m : Nat} {N' : Nsi} {k : Nat} {N2 : Nsi} (h : REq n N m N') (h' : REq m N' k N2) : REq n N k N2 := by
  obtain ⟨rfl, h⟩ := h
  obtain ⟨rfl, h'⟩ := h'
  exact ⟨rfl, fun i hi => ⟨(h i hi).1.trans (h' i hi).1, fun j hj => ((h i hi).2 j hj).trans ((h' i hi).2 j (by rw [← (h i hi).1]; exact hj))⟩⟩
theorem DEq.trans {D D' D2 : Dx} (h : DEq D D') (h' : DEq D' D2) : DEq D D2 :=
  ⟨h.1.trans h'.1, h.2.1.trans h'.2.1, ⟨h.2.2.1.trans h'.2.2.1, fun i hi => (h.2.2.2 i hi).trans (h'.2.2.2 i (by rw [← h.2.2.1]; exact hi))⟩⟩
theorem DLe.of_eq {D D' : Dx} {m : Nat} (h : DLe D m) (e : DEq D D') : DLe D' m := by
  obtain ⟨⟨e1, f1⟩, ⟨e2, f2⟩, ⟨e3, _⟩⟩ := e
  refine ⟨e1 ▸ h.p, fun i hi => ?_, e2 ▸ h.r, fun i hi => ?_, e3 ▸ h.a⟩
  · rw [← e1] at hi
    rw [← (f1 i hi).1]
    exact h.pi i hi
  · rw [← e2] at hi
    rw [← (f2 i hi).1]
    exact h.ri i hi
end Go.Proofs.YtolddecfibdblaaDoor

