/- the longest token at a place: what a machine tells, purely -/
import Derived.Test.YtplpdikkkbiacaaGreatDoorJn
import Derived.Deep.WholeRow
import Derived.Deep.MidRow
namespace Go.Proofs.YtplpdikkkbiacaaGreatDoor
open Go.RowKit
set_option linter.unusedVariables false
set_option linter.unusedSimpArgs false

/-- the state behind a byte, of a machine that is one, from a state that is one -/
def NextOf (D : Dx) (s : Nat) (x : Int) (r : Int) : Prop := (∃ k, k < D.pn ∧ hasB (D.P.n k) (D.P.L k) (D.P.H k) x = true ∧ r = D.R.G s k) ∨ ((∀ k, k < D.pn → hasB (D.P.n k) (D.P.L k) (D.P.H k) x = false) ∧ r = -1)
/-- a byte of a set that is ok is one -/
theorem has_byte {n : Nat} {L H : Nat → Int} {x : Int} (hok : okB n L H = true) (h : hasB n L H x = true) : 0 ≤ x ∧ x ≤ 255 := by
  obtain ⟨i, hi, h1, h2⟩ := hasB_iff.1 h
  have := okB_iff.1 hok i hi
  unfold OkAt at this
  omega
theorem one_part {D : Dx} (h : DOk D) {x : Int} {i j : Nat} (hi : i < D.pn) (hj : j < D.pn) (h1 : hasB (D.P.n i) (D.P.L i) (D.P.H i) x = true) (h2 : hasB (D.P.n j) (D.P.L j) (D.P.H j) x = true) : i = j := by
  have hx := has_byte (h.1.1 i hi).ok h1
  have e : ((x.toNat : Nat) : Int) = x := by omega
  have key : ∀ a b : Nat, b < a → a < D.pn → hasB (D.P.n a) (D.P.L a) (D.P.H a) x = true → hasB (D.P.n b) (D.P.L b) (D.P.H b) x = true → False := fun a b hab ha g1 g2 =>
    (h.1.1 a ha).dis b hab x.toNat (by omega) ⟨by rw [Sb, hs, e]; exact g1, by rw [Sb, hs, e]; exact g2⟩
  rcases Nat.lt_trichotomy i j with g | g | g
  · exact (key j i g hj h2 h1).elim
  · exact g
  · exact (key i j g hi h1 h2).elim
theorem NextOf.unique {D : Dx} (h : DOk D) {s : Nat} {x r r' : Int} (h1 : NextOf D s x r) (h2 : NextOf D s x r') : r = r' := by
  rcases h1 with ⟨i, hi, g1, rfl⟩ | ⟨g1, rfl⟩ <;> rcases h2 with ⟨j, hj, g2, rfl⟩ | ⟨g2, rfl⟩
  · rw [one_part h hi hj g1 g2]
  · rw [g2 i hi] at g1; cases g1
  · rw [g1 j hj] at g2; cases g2
  · rfl
theorem NextOf.bd {D : Dx} (h : DOk D) {s : Nat} (hs : s < D.rn) {x r : Int} (h1 : NextOf D s x r) : -1 ≤ r ∧ r ≤ (D.rn : Int) - 1 := by
  rcases h1 with ⟨i, hi, _, rfl⟩ | ⟨_, rfl⟩
  · have := h.at hs
    exact this.2.1 i (by rw [this.1]; exact hi)
  · have := h.2.1.1; omega
theorem NextOf.congr {D D' : Dx} (e : DEq D D') {s : Nat} (hs : s < D.rn) (hl : D.R.n s = D.pn) {x r : Int} (h : NextOf D s x r) : NextOf D' s x r := by
  obtain ⟨⟨e1, f1⟩, ⟨e2, f2⟩, _⟩ := e
  have hb : ∀ k, k < D.pn → hasB (D'.P.n k) (D'.P.L k) (D'.P.H k) x = hasB (D.P.n k) (D.P.L k) (D.P.H k) x := fun k hk => by
    obtain ⟨g1, g2⟩ := f1 k hk
    rw [Bool.eq_iff_iff, hasB_iff, hasB_iff, ← g1]
    exact ⟨fun ⟨i, h1, h2⟩ => ⟨i, h1, by rw [(g2 i h1).1, (g2 i h1).2]; exact h2⟩, fun ⟨i, h1, h2⟩ => ⟨i, h1, by rw [← (g2 i h1).1, ← (g2 i h1).2]; exact h2⟩⟩
  rcases h with ⟨k, hk, h1, h2⟩ | ⟨h1, h2⟩
  · exact .inl ⟨k, by rw [← e1]; exact hk, by rw [hb k hk]; exact h1, by rw [h2]; exact (f2 s hs).2 k (by rw [hl]; exact hk)⟩
  · exact .inr ⟨fun k hk => by rw [hb k (by rw [e1]; exact hk)]; exact h1 k (by rw [e1]; exact hk), h2⟩

end Go.Proofs.YtplpdikkkbiacaaGreatDoor
namespace Go.Proofs.YtplpdikkkbiacaaGreatDoor
open Go.RowKit
set_option linter.unusedVariables false
set_option linter.unusedSimpArgs false

/-- what DfaNext tells -/
def NextR (D : Dx) (s x : Int) (r : Int) : Prop := (DOk D ∧ 0 ≤ s ∧ s < D.rn ∧ NextOf D s.toNat x r) ∨ ((¬ DOk D ∨ s < 0 ∨ (D.rn : Int) ≤ s) ∧ r = -1)
theorem NextR.unique {D : Dx} {s x r r' : Int} (h : NextR D s x r) (h' : NextR D s x r') : r = r' := by
  rcases h with ⟨a, b, c, d⟩ | ⟨a, rfl⟩ <;> rcases h' with ⟨a', b', c', d'⟩ | ⟨a', rfl⟩
  · exact d.unique a d'
  · rcases a' with g | g | g
    · exact absurd a g
    · omega
    · omega
  · rcases a with g | g | g
    · exact absurd a' g
    · omega
    · omega
  · rfl
theorem NextR.congr {D D' : Dx} (e : DEq D D') {s x r : Int} (h : NextR D s x r) : NextR D' s x r := by
  have he := e.2.1.1
  rcases h with ⟨a, b, c, d⟩ | ⟨a, rfl⟩
  · exact .inl ⟨a.congr e, b, by omega, d.congr e (by omega) (a.at (by omega)).1⟩
  · refine .inr ⟨?_, rfl⟩
    rcases a with g | g | g
    · exact .inl (fun h => g (h.congr e.symm))
    · exact .inr (.inl g)
    · exact .inr (.inr (by omega))
/-- what is told says r of which P -/
def IsI (P : Int → Prop) (w : World) (e : Ending) (w' : World) : Prop := ∃ r : Int, e = .returned (.int .i64 r) ∧ P r ∧ Below w.heap.size w w'
theorem IsI.mk' {P : Int → Prop} {w w' : World} {r : Int} (h : P r) (hb : Below w.heap.size w w') : IsI P w (.returned (.int .i64 r)) w' := ⟨r, rfl, h, hb⟩

end Go.Proofs.YtplpdikkkbiacaaGreatDoor
namespace Go.Proofs.YtplpdikkkbiacaaGreatDoor
open Go.RowKit
set_option linter.unusedVariables false
set_option linter.unusedSimpArgs false

/-- byte i of a text -/
def byteAt (t : ByteArray) (i : Nat) : Nat := if h : i < t.size then (t[i]'h).toNat else 0
/-- the state behind the first i bytes; once below 0 it stays -/
def RunAt (D : Dx) (t : ByteArray) : Nat → Int → Prop
  | 0 => fun r => r = 0
  | i + 1 => fun r => ∃ s, RunAt D t i s ∧ ((s < 0 ∧ r = s) ∨ (0 ≤ s ∧ NextOf D s.toNat (byteAt t i) r))
theorem RunAt.bd {D : Dx} (h : DOk D) {t : ByteArray} {i : Nat} {r : Int} (hr : RunAt D t i r) : -1 ≤ r ∧ r ≤ (D.rn : Int) - 1 := by
  induction i generalizing r with
  | zero => have := h.2.1.1; simp only [RunAt] at hr; omega
  | succ i ih =>
    obtain ⟨s, hs, h1⟩ := hr
    have hb := ih hs
    rcases h1 with ⟨h1, rfl⟩ | ⟨h1, h2⟩
    · omega
    · exact h2.bd h (by omega)
theorem RunAt.unique {D : Dx} (h : DOk D) {t : ByteArray} {i : Nat} {r r' : Int} (h1 : RunAt D t i r) (h2 : RunAt D t i r') : r = r' := by
  induction i generalizing r r' with
  | zero => exact h1.trans h2.symm
  | succ i ih =>
    obtain ⟨s, hs, g1⟩ := h1
    obtain ⟨s', hs', g2⟩ := h2
    obtain rfl := ih hs hs'
    rcases g1 with ⟨a, rfl⟩ | ⟨a, b⟩ <;> rcases g2 with ⟨c, rfl⟩ | ⟨c, d⟩
    · rfl
    · omega
    · omega
    · exact b.unique h d
theorem RunAt.congr {D D' : Dx} (e : DEq D D') (h : DOk D) {t : ByteArray} {i : Nat} {r : Int} (hr : RunAt D t i r) : RunAt D' t i r := by
  induction i generalizing r with
  | zero => exact hr
  | succ i ih =>
    obtain ⟨s, hs, h1⟩ := hr
    have hb := hs.bd h
    refine ⟨s, ih hs, ?_⟩
    rcases h1 with h1 | ⟨h1, h2⟩
    · exact .inl h1
    · exact .inr ⟨h1, h2.congr e (by omega) (h.at (by omega)).1⟩
/-- what DfaRun tells -/
def RunR (D : Dx) (t : ByteArray) (r : Int) : Prop := (DOk D ∧ RunAt D t t.size r) ∨ (¬ DOk D ∧ r = -1)
theorem RunR.unique {D : Dx} {t : ByteArray} {r r' : Int} (h : RunR D t r) (h' : RunR D t r') : r = r' := by
  rcases h with ⟨a, b⟩ | ⟨a, rfl⟩ <;> rcases h' with ⟨c, d⟩ | ⟨c, rfl⟩
  · exact b.unique a d
  · exact absurd a c
  · exact absurd c a
  · rfl
theorem RunR.congr {D D' : Dx} (e : DEq D D') {t : ByteArray} {r : Int} (h : RunR D t r) : RunR D' t r := by
  rcases h with ⟨a, b⟩ | ⟨a, rfl⟩
  · exact .inl ⟨a.congr e, b.congr e a⟩
  · exact .inr ⟨fun h => a (h.congr e.symm), rfl⟩
end Go.Proofs.YtplpdikkkbiacaaGreatDoor
namespace Go.Proofs.YtplpdikkkbiacaaGreatDoor
open Go.RowKit
set_option linter.unusedVariables false
set_option linter.unusedSimpArgs false

/-- what is known behind j bytes from a on: the state, the rule last come to, and where it ended -/
structure Ls where
  q : Int
  r : Int
  t : Int
/-- one byte more -/
def LsStep (D : Dx) (x : Nat) (e : Int) (s s' : Ls) : Prop :=
  (s.q < 0 ∧ s' = s) ∨ (0 ≤ s.q ∧ NextOf D s.q.toNat x s'.q ∧ ((0 ≤ s'.q ∧ 0 ≤ D.A s'.q.toNat ∧ s'.r = D.A s'.q.toNat ∧ s'.t = e) ∨ ((s'.q < 0 ∨ D.A s'.q.toNat < 0) ∧ s'.r = s.r ∧ s'.t = s.t)))
def LexSt (D : Dx) (t : ByteArray) (a : Nat) : Nat → Ls → Prop
  | 0 => fun s => s = ⟨0, -1, a⟩
  | j + 1 => fun s => ∃ s0, LexSt D t a j s0 ∧ LsStep D (byteAt t (a + j)) ((a + j + 1 : Nat) : Int) s0 s
theorem Ls.ext' {a b : Ls} (h1 : a.q = b.q) (h2 : a.r = b.r) (h3 : a.t = b.t) : a = b := by cases a; cases b; simp_all
theorem LexSt.bd {D : Dx} (h : DOk D) {t : ByteArray} {a j : Nat} {s : Ls} (hs : LexSt D t a j s) : (-1 ≤ s.q ∧ s.q ≤ (D.rn : Int) - 1) ∧ (-1 ≤ s.r ∧ s.r ≤ 4) ∧ (a ≤ s.t ∧ s.t ≤ (a + j : Nat)) ∧ (s.r = -1 → s.t = a) ∧ (0 ≤ s.r → (a : Int) < s.t) := by
  induction j generalizing s with
  | zero =>
    have := h.2.1.1
    simp only [LexSt] at hs
    subst hs
    simp
    omega
  | succ j ih =>
    obtain ⟨s0, h0, h1⟩ := hs
    obtain ⟨i1, i2, i3, i4, i5⟩ := ih h0
    rcases h1 with ⟨g1, rfl⟩ | ⟨g1, g2, g3⟩
    · exact ⟨i1, i2, ⟨i3.1, by omega⟩, i4, i5⟩
    · have hq := g2.bd h (by omega)
      rcases g3 with ⟨k1, k2, k3, k4⟩ | ⟨k1, k2, k3⟩
      · have hA := (h.at (s := s.q.toNat) (by omega)).2.2
        rw [k3, k4]
        exact ⟨hq, hA, ⟨by omega, by omega⟩, fun e => by omega, fun _ => by omega⟩
      · rw [k2, k3]
        exact ⟨hq, i2, ⟨i3.1, by omega⟩, i4, i5⟩
theorem LexSt.unique {D : Dx} (h : DOk D) {t : ByteArray} {a j : Nat} {s s' : Ls} (h1 : LexSt D t a j s) (h2 : LexSt D t a j s') : s = s' := by
  induction j generalizing s s' with
  | zero => exact h1.trans h2.symm
  | succ j ih =>
    obtain ⟨x, hx, g1⟩ := h1
    obtain ⟨y, hy, g2⟩ := h2
    obtain rfl := ih hx hy
    rcases g1 with ⟨a1, rfl⟩ | ⟨a1, a2, a3⟩ <;> rcases g2 with ⟨b1, rfl⟩ | ⟨b1, b2, b3⟩
    · rfl
    · omega
    · omega
    · have e := a2.unique h b2
      rw [← e] at b3
      rcases a3 with ⟨c1, c2, c3, c4⟩ | ⟨c1, c3, c4⟩ <;> rcases b3 with ⟨d1, d2, d3, d4⟩ | ⟨d1, d3, d4⟩
      · exact Ls.ext' e (c3.trans d3.symm) (c4.trans d4.symm)
      · omega
      · omega
      · exact Ls.ext' e (c3.trans d3.symm) (c4.trans d4.symm)
theorem LexSt.congr {D D' : Dx} (e : DEq D D') (h : DOk D) {t : ByteArray} {a j : Nat} {s : Ls} (hs : LexSt D t a j s) : LexSt D' t a j s := by
  induction j generalizing s with
  | zero => exact hs
  | succ j ih =>
    obtain ⟨s0, h0, h1⟩ := hs
    have hb := h0.bd h
    refine ⟨s0, ih h0, ?_⟩
    rcases h1 with h1 | ⟨g1, g2, g3⟩
    · exact .inl h1
    · have hq := g2.bd h (by omega)
      have hA : ∀ q : Int, 0 ≤ q → q ≤ (D.rn : Int) - 1 → D.A q.toNat = D'.A q.toNat := fun q q0 q1 => e.2.2.2 q.toNat (by rw [h.2.2.1]; omega)
      refine .inr ⟨g1, g2.congr e (by omega) (h.at (by omega)).1, ?_⟩
      rcases g3 with ⟨k1, k2, k3, k4⟩ | ⟨k1, k3, k4⟩
      · exact .inl ⟨k1, by rw [← hA _ k1 hq.2]; exact k2, by rw [← hA _ k1 hq.2]; exact k3, k4⟩
      · refine .inr ⟨?_, k3, k4⟩
        by_cases k0 : s.q < 0
        · exact .inl k0
        · right; rw [← hA _ (by omega) hq.2]; omega
theorem LexSt.pass {D : Dx} {t : ByteArray} {a j p : Nat} {z : Ls} (h : LexSt D t a j z) (h0 : 0 ≤ z.q) (hn : NextOf D z.q.toNat (byteAt t (a + j)) (p : Int)) (hA : D.A p < 0) : LexSt D t a (j + 1) ⟨(p : Int), z.r, z.t⟩ :=
  ⟨z, h, .inr ⟨h0, hn, .inr ⟨.inr (by simpa using hA), rfl, rfl⟩⟩⟩
/-- the token at a place: its rule and its end -/
def LexV (D : Dx) (t : ByteArray) (a : Nat) (r e : Int) : Prop := ∃ q, LexSt D t a (t.size - a) ⟨q, r, e⟩
theorem LexV.of {D : Dx} {t : ByteArray} {a : Nat} {s : Ls} (h : LexSt D t a (t.size - a) s) : LexV D t a s.r s.t := ⟨s.q, h⟩
theorem LexV.unique {D : Dx} (h : DOk D) {t : ByteArray} {a : Nat} {r e r' e' : Int} (h1 : LexV D t a r e) (h2 : LexV D t a r' e') : r = r' ∧ e = e' := by
  obtain ⟨q, h1⟩ := h1
  obtain ⟨q', h2⟩ := h2
  have := h1.unique h h2
  simp only [Ls.mk.injEq] at this
  exact this.2
theorem LexV.congr {D D' : Dx} (e : DEq D D') (h : DOk D) {t : ByteArray} {a : Nat} {r x : Int} (hs : LexV D t a r x) : LexV D' t a r x := by
  obtain ⟨q, h1⟩ := hs
  exact ⟨q, h1.congr e h⟩
theorem LexV.bd {D : Dx} (h : DOk D) {t : ByteArray} {a : Nat} {r e : Int} (ha : a ≤ t.size) (hv : LexV D t a r e) : (-1 ≤ r ∧ r ≤ 4) ∧ (a ≤ e ∧ e ≤ t.size) ∧ (r = -1 → e = a) ∧ (0 ≤ r → (a : Int) < e) := by
  obtain ⟨q, h1⟩ := hv
  obtain ⟨_, b2, b3, b4, b5⟩ := h1.bd h
  exact ⟨b2, ⟨b3.1, by have := b3.2; simp at this ⊢; omega⟩, b4, b5⟩
/-- what LexAt tells -/
def LexAtR (D : Dx) (t : ByteArray) (a : Int) (r e : Int) : Prop :=
  (DOk D ∧ t.size ≤ 200 ∧ 0 ≤ a ∧ a ≤ t.size ∧ LexV D t a.toNat r e) ∨ ((¬ DOk D ∨ 200 < t.size ∨ a < 0 ∨ (t.size : Int) < a) ∧ r = -1 ∧ e = a)
theorem LexAtR.unique {D : Dx} {t : ByteArray} {a r e r' e' : Int} (h : LexAtR D t a r e) (h' : LexAtR D t a r' e') : r = r' ∧ e = e' := by
  rcases h with ⟨a1, a2, a3, a4, a5⟩ | ⟨a1, a2, a3⟩ <;> rcases h' with ⟨b1, b2, b3, b4, b5⟩ | ⟨b1, b2, b3⟩
  · exact a5.unique a1 b5
  · rcases b1 with b1 | b1 | b1 | b1
    · exact absurd a1 b1
    · omega
    · omega
    · omega
  · rcases a1 with a1 | a1 | a1 | a1
    · exact absurd b1 a1
    · omega
    · omega
    · omega
  · exact ⟨a2.trans b2.symm, a3.trans b3.symm⟩
theorem LexAtR.congr {D D' : Dx} (e : DEq D D') {t : ByteArray} {a r x : Int} (h : LexAtR D t a r x) : LexAtR D' t a r x := by
  rcases h with ⟨a1, a2, a3, a4, a5⟩ | ⟨a1, a2, a3⟩
  · exact .inl ⟨a1.congr e, a2, a3, a4, a5.congr e a1⟩
  · exact .inr ⟨a1.imp (fun h h2 => h (h2.congr e.symm)) id, a2, a3⟩
/-- two numbers are told of which P -/
def IsTwo (P : Int → Int → Prop) (w : World) (e : Ending) (w' : World) : Prop := ∃ r x : Int, e = .returned (.tuple #[.int .i64 r, .int .i64 x]) ∧ P r x ∧ Below w.heap.size w w'
theorem IsTwo.mk' {P : Int → Int → Prop} {w w' : World} {r x : Int} (h : P r x) (hb : Below w.heap.size w w') : IsTwo P w (.returned (.tuple #[.int .i64 r, .int .i64 x])) w' := ⟨r, x, rfl, h, hb⟩
end Go.Proofs.YtplpdikkkbiacaaGreatDoor

