/- the walk of run: all parts at all places -/
import Derived.Test.YtnnbdebmhjafgaaGreatDoorMk
namespace Go.Proofs.YtnnbdebmhjafgaaGreatDoor
open Go.RowKit
set_option linter.unusedVariables false
set_option linter.unusedSimpArgs false

/-- what is told of the part at p, place i, is right -/
def Tell (t : List UInt8) (ps : List Pt) (F : Nat → Nat → Nat → Bool) (p i : Nat) : Prop := ∀ P : Pt, ps[p]? = some P → ∀ j, F p i j = EB t P.S i j
/-- all is known of the places from k on, and, at the place ahead of them, of the parts below x -/
def Know (t : List UInt8) (ps : List Pt) (F : Nat → Nat → Nat → Bool) (k x : Nat) : Prop := ∀ p i, i ≤ t.length → (k ≤ i ∨ i + 1 = k ∧ p < x) → Tell t ps F p i

theorem Sh.of_mk (S : Sh) : ∃ (n : Nat) (L H : Nat → Int) (K : Nat → Sh), S = Sh.mk S.kind n L H S.m K ∧ n = S.n ∧ L = S.L ∧ H = S.H ∧ ∀ i, i < S.m → S.kid i = K i := by
  obtain ⟨kind, n, L, H, m, K, e, hK⟩ := S.cases
  subst e
  exact ⟨n, L, H, K, rfl, rfl, rfl, rfl, fun i hi => Sh.mk_kid hi⟩

theorem find_right {t : List UInt8} {ps : List Pt} {F : Nat → Nat → Nat → Bool} {i x : Nat} {P : Pt} (hi : i ≤ t.length) (hgood : Good ps) (hP : ps[x]? = some P) (hk : kidsOf P.S.kind = (P.S.m : Int)) (hF : Know t ps F (i + 1) x) :
    ∀ j, findB t P.S.kind P.S.n P.S.L P.S.H P.k0 P.k1 F x i j = EB t P.S i j := by
  intro j
  obtain ⟨n, L, H, K, e, en, eL, eH, hK⟩ := P.S.of_mk
  have hkid : ∀ r, r < P.S.m → P.kd r < x ∧ ∀ y, y ≤ t.length → i ≤ y → ∀ j, F (P.kd r) y j = EB t (K r) y j := fun r hr => by
    obtain ⟨h1, Q, hQ, eQ⟩ := hgood x P hP r hr
    refine ⟨h1, fun y hy hiy j => ?_⟩
    have := hF (P.kd r) y hy (by omega) Q hQ j
    rw [this, eQ, hK r hr]
  rw [← en, ← eL, ← eH]
  have hk0 : 0 < P.S.m → ∀ y, y ≤ t.length → i ≤ y → ∀ j, F P.k0 y j = EB t (K 0) y j := fun h => (hkid 0 h).2
  have hk1 : 1 < P.S.m → ∀ y, y ≤ t.length → i ≤ y → ∀ j, F P.k1 y j = EB t (K 1) y j := fun h => (hkid 1 h).2
  have hself : ∀ y, y ≤ t.length → i < y → ∀ j, F x y j = EB t P.S y j := fun y hy hiy j => hF x y hy (by omega) P hP j
  generalize hkk : P.S.kind = kind at *
  generalize hmm : P.S.m = m at *
  rcases kids_cases hk with ⟨rfl, rfl⟩ | ⟨rfl, rfl⟩ | ⟨rfl, rfl⟩ | ⟨rfl, rfl⟩ | ⟨rfl, rfl⟩ | ⟨rfl, rfl⟩ | ⟨rfl, rfl⟩
  · show byteB t n L H i j = _
    rw [e, Bool.eq_iff_iff, EB_1]
    simp only [byteB, Bool.and_eq_true, beq_iff_eq]
    cases t[i]? <;> simp
  · show (j == i) = _
    rw [e, EB_2 t n L H 0 K i j hi]
  · show behB (F P.k0 i) (F P.k1) (t.length + 1) j = _
    rw [e, EB_3, behB, Bool.eq_iff_iff]
    simp only [List.any_eq_true, List.mem_range, Bool.and_eq_true]
    constructor
    · rintro ⟨y, hy, h1, h2⟩
      rw [hk0 (by omega) i hi (Nat.le_refl _)] at h1
      have hb := EB_iff.1 h1
      rw [hk1 (by omega) y (by omega) hb.1] at h2
      exact ⟨y, hy, h1, h2⟩
    · rintro ⟨y, hy, h1, h2⟩
      have hb := EB_iff.1 h1
      refine ⟨y, hy, ?_, ?_⟩
      · rw [hk0 (by omega) i hi (Nat.le_refl _)]; exact h1
      · rw [hk1 (by omega) y (by omega) hb.1]; exact h2
  · show (F P.k0 i j || F P.k1 i j) = _
    rw [e, EB_4, hk0 (by omega) i hi (Nat.le_refl _), hk1 (by omega) i hi (Nat.le_refl _)]
  · show ((j == i) || behB (fun x => F P.k0 i x && !(x == i)) (F x) (t.length + 1) j) = _
    rw [e, EB_5 t n L H K i j hi, ← e]
    congr 1
    rw [behB, Bool.eq_iff_iff]
    simp only [List.any_eq_true, List.mem_range, Bool.and_eq_true, Bool.not_eq_true', beq_eq_false_iff_ne]
    constructor
    · rintro ⟨y, hy, ⟨h1, hne⟩, h2⟩
      rw [hk0 (by omega) i hi (Nat.le_refl _)] at h1
      have hb := EB_iff.1 h1
      rw [hself y (by omega) (by omega)] at h2
      exact ⟨y, hy, ⟨h1, hne⟩, h2⟩
    · rintro ⟨y, hy, ⟨h1, hne⟩, h2⟩
      have hb := EB_iff.1 h1
      refine ⟨y, hy, ⟨?_, hne⟩, ?_⟩
      · rw [hk0 (by omega) i hi (Nat.le_refl _)]; exact h1
      · rw [hself y (by omega) (by omega)]; exact h2
  · show (F P.k0 i j && F P.k1 i j) = _
    rw [e, EB_6, hk0 (by omega) i hi (Nat.le_refl _), hk1 (by omega) i hi (Nat.le_refl _)]
  · show (fromB i (t.length + 1) j && !F P.k0 i j) = _
    rw [e, EB_7, hk0 (by omega) i hi (Nat.le_refl _)]
    congr 1
    rw [fromB, Bool.eq_iff_iff]
    simp
    omega

theorem Know.step {t : List UInt8} {ps : List Pt} {F : Nat → Nat → Nat → Bool} {i x : Nat} {B : Nat → Bool} (hF : Know t ps F (i + 1) x) (hB : ∀ P : Pt, ps[x]? = some P → ∀ j, B j = EB t P.S i j) :
    Know t ps (fun p' i' => if p' = x ∧ i' = i then B else F p' i') (i + 1) (x + 1) := by
  intro p y hy h P hP j
  by_cases e : p = x ∧ y = i
  · obtain ⟨rfl, rfl⟩ := e
    simp only [and_self, if_true]
    exact hB P hP j
  · simp only [if_neg e]
    exact hF p y hy (by omega) P hP j
theorem Know.down {t : List UInt8} {ps : List Pt} {F : Nat → Nat → Nat → Bool} {i : Nat} (hF : Know t ps F (i + 1) ps.length) : Know t ps F i 0 := by
  intro p y hy h P hP j
  have := (List.getElem?_eq_some_iff.1 hP).1
  exact hF p y hy (by omega) P hP j
theorem Know.start (t : List UInt8) (ps : List Pt) (F : Nat → Nat → Nat → Bool) : Know t ps F (t.length + 1) 0 := fun p i hi h => by omega

/-- a block that holds a map holds no cells -/
theorem cell_keep {w w' : World} {bm : Nat} (hm : ∃ es c, w.heap[bm]? = some (.map es c)) (hg : w.grownBy w' (some bm)) {a : Addr} {v : Value} (h : w.cell? a = some v) : w'.cell? a = some v :=
  hg.cell h (fun e => by
    obtain ⟨es, c, hb⟩ := hm
    have e' : a.block = bm := Option.some.inj e
    unfold World.cell? at h
    rw [e', hb] at h
    simp at h)
theorem Mp.block {w : World} {b n : Nat} {F : Nat → Nat → Nat → Bool} (h : Mp w b n F) : ∃ es c, w.heap[b]? = some (.map es c) := by
  obtain ⟨D, ⟨es, c, hb, _⟩, _⟩ := h
  exact ⟨es, c, hb⟩
theorem Sp.map {w w' : World} {bm b off n : Nat} {L H : Nat → Int} (h : Sp w b off n L H) (hm : ∃ es c, w.heap[bm]? = some (.map es c)) (hg : w.grownBy w' (some bm)) : Sp w' b off n L H := fun i hi =>
  ⟨cell_keep hm hg (h i hi).1, cell_keep hm hg (h i hi).2⟩
theorem Grown.trans {a b c : World} {r : Option Nat} (h : a.grownBy b r) (h' : b.grownBy c r) : a.grownBy c r :=
  ⟨h'.os.trans h.os, h'.tape.trans h.tape, h'.output.trans h.output, Nat.le_trans h.size h'.size, fun k hk hr => (h'.block k (Nat.lt_of_lt_of_le hk h.size) hr).trans (h.block k hk hr)⟩
theorem Grown.below {a b : World} {r : Option Nat} (h : Below a.heap.size a b) : a.grownBy b r := ⟨h.os, h.tape, h.output, h.size, fun k hk _ => h.block k hk⟩
end Go.Proofs.YtnnbdebmhjafgaaGreatDoor

