/- pairs of states that texts lead to, in the order in which they are found; no Go text is walked here -/
import Derived.Test.YtolddecfibdblaaDoorJn
namespace Go.Proofs.YtolddecfibdblaaDoor
open Go.RowKit
set_option linter.unusedVariables false
set_option linter.unusedSimpArgs false

/-- where a state leads by part k; none leads to none -/
def nxI (D : Dx) (q : Int) (k : Nat) : Int := if q = -1 then -1 else D.R.G q.toNat k
/-- the rule of a state, or -1 -/
def accI (D : Dx) (q : Int) : Int := if q = -1 then -1 else D.A q.toNat
/-- the first byte of part k -/
def bk (D : Dx) (k : Nat) : Nat := ((List.range 256).find? (fun x => Sb D.P k x)).getD 0
theorem bk_eq {D : Dx} {k : Nat} {r : Int} (h : FirstB (Sb D.P k) r) (h0 : 0 ≤ r) : r = (bk D k : Int) := by
  rcases h with ⟨h, _⟩ | ⟨x, h1, h2, h3, h4⟩
  · omega
  · have : (List.range 256).find? (fun x => Sb D.P k x) = some x := by
      rw [List.find?_range_eq_some]
      exact ⟨h3, List.mem_range.2 h1, fun j hj => by rw [h4 j hj]; rfl⟩
    rw [bk, this, h2]
    rfl
/-- two states, and the text that leads there -/
abbrev Ent := Int × Int × ByteArray
def entK (D : Dx) (e : Ent) (k : Nat) : Ent := (nxI D e.1 k, nxI D e.2.1 k, e.2.2 ++ ⟨#[UInt8.ofNat (bk D k)]⟩)
/-- the pair is there -/
def hasP (L : List Ent) (x y : Int) : Prop := ∃ e ∈ L, e.1 = x ∧ e.2.1 = y
/-- of the two lists the second goes on from the first by part k of e -/
def addK (D : Dx) (e : Ent) (L : List Ent) (k : Nat) : List Ent := if L.any (fun q => q.1 == (entK D e k).1 && q.2.1 == (entK D e k).2.1) then L else L ++ [entK D e k]
theorem any_hasP {L : List Ent} {x y : Int} : L.any (fun q => q.1 == x && q.2.1 == y) = true ↔ hasP L x y := by
  simp only [List.any_eq_true, Bool.and_eq_true, beq_iff_eq, hasP]
def rowE (D : Dx) (e : Ent) (L : List Ent) : Nat → List Ent
  | 0 => L
  | k + 1 => addK D e (rowE D e L k) k
/-- what was made when place i is come to -/
def lev (D : Dx) (s t : Int) : Nat → List Ent
  | 0 => [(s, t, ⟨#[]⟩)]
  | i + 1 => rowE D ((lev D s t i).getD i (s, t, ⟨#[]⟩)) (lev D s t i) D.pn

theorem addK_has {D : Dx} {e : Ent} {L : List Ent} {k : Nat} (h : hasP L (entK D e k).1 (entK D e k).2.1) : addK D e L k = L := by
  rw [addK, if_pos (any_hasP.2 h)]
theorem addK_not {D : Dx} {e : Ent} {L : List Ent} {k : Nat} (h : ¬ hasP L (entK D e k).1 (entK D e k).2.1) : addK D e L k = L ++ [entK D e k] := by
  rw [addK, if_neg (fun g => h (any_hasP.1 g))]
/-- all is as it must be -/
structure EntsOk (D : Dx) (m : Nat) (L : List Ent) : Prop where
  bd : ∀ e ∈ L, (-1 ≤ e.1 ∧ e.1 < D.rn) ∧ (-1 ≤ e.2.1 ∧ e.2.1 < D.rn) ∧ e.2.2.size ≤ m
  nd : (L.map (fun e => (e.1 + 1).toNat * 41 + (e.2.1 + 1).toNat)).Nodup

theorem nodup_bound : ∀ (N : Nat) (l : List Nat), l.Nodup → (∀ x ∈ l, x < N) → l.length ≤ N
  | 0, l, _, h => by
    cases l with
    | nil => simp
    | cons a l => have := h a (by simp); omega
  | N + 1, l, hn, h => by
    have h1 := nodup_bound N (l.filter (fun x => x != N)) (hn.filter _) (fun x hx => by
      rw [List.mem_filter] at hx
      have := h x hx.1
      have h2 : x ≠ N := by simpa using hx.2
      omega)
    have h2 : ∀ l : List Nat, l.Nodup → l.length ≤ (l.filter (fun x => x != N)).length + 1 := by
      intro l
      induction l with
      | nil => simp
      | cons a l ih =>
        intro hn
        rw [List.nodup_cons] at hn
        by_cases e : a = N
        · subst e
          have : l.filter (fun x => x != a) = l := List.filter_eq_self.2 (fun x hx => by
            have : x ≠ a := fun e => hn.1 (e ▸ hx)
            simpa using this)
          simp [this]
        · have h3 := ih hn.2
          have : (a != N) = true := by simpa using e
          simp only [List.filter_cons, this, if_true, List.length_cons]
          omega
    have := h2 l hn
    omega
theorem EntsOk.len {D : Dx} {m : Nat} {L : List Ent} (h : EntsOk D m L) (hr : D.rn ≤ 40) : L.length ≤ 1681 := by
  have := nodup_bound 1681 _ h.nd (fun x hx => by
    rw [List.mem_map] at hx
    obtain ⟨e, he, rfl⟩ := hx
    have := h.bd e he
    omega)
  simpa using this
theorem EntsOk.mono {D : Dx} {m m' : Nat} {L : List Ent} (h : EntsOk D m L) (hm : m ≤ m') : EntsOk D m' L := ⟨fun e he => ⟨(h.bd e he).1, (h.bd e he).2.1, Nat.le_trans (h.bd e he).2.2 hm⟩, h.nd⟩
theorem nxI_bd {D : Dx} (h : DOk D) {q : Int} (hq : -1 ≤ q ∧ q < D.rn) {k : Nat} (hk : k < D.pn) : -1 ≤ nxI D q k ∧ nxI D q k < D.rn := by
  have := h.2.1.1
  by_cases e : q = -1
  · rw [nxI, if_pos e]; omega
  · rw [nxI, if_neg e]
    have g := h.at (s := q.toNat) (by omega)
    have := g.2.1 k (by rw [g.1]; exact hk)
    omega
theorem EntsOk.add {D : Dx} (h : DOk D) {m : Nat} {L : List Ent} (hL : EntsOk D (m + 1) L) {e : Ent} (he : (-1 ≤ e.1 ∧ e.1 < D.rn) ∧ (-1 ≤ e.2.1 ∧ e.2.1 < D.rn) ∧ e.2.2.size ≤ m) {k : Nat} (hk : k < D.pn) : EntsOk D (m + 1) (addK D e L k) := by
  by_cases g : hasP L (entK D e k).1 (entK D e k).2.1
  · rw [addK_has g]; exact hL
  · rw [addK_not g]
    have b1 := nxI_bd h he.1 hk
    have b2 := nxI_bd h he.2.1 hk
    refine ⟨fun x hx => ?_, ?_⟩
    · rcases List.mem_append.1 hx with hx | hx
      · exact hL.bd x hx
      · rw [List.mem_singleton] at hx
        subst hx
        refine ⟨b1, b2, ?_⟩
        have : (entK D e k).2.2.size = e.2.2.size + 1 := by simp [entK]; rfl
        have := he.2.2
        omega
    · rw [List.map_append, List.nodup_append]
      refine ⟨hL.nd, by simp, fun a ha b hb => ?_⟩
      simp only [List.map_cons, List.map_nil, List.mem_singleton] at hb
      rw [List.mem_map] at ha
      obtain ⟨q, hq, rfl⟩ := ha
      subst hb
      intro e'
      have b3 := hL.bd q hq
      have hr := h.2.1.2.1
      have c1 : (entK D e k).1 = nxI D e.1 k := rfl
      have c2 : (entK D e k).2.1 = nxI D e.2.1 k := rfl
      exact g ⟨q, hq, by omega, by omega⟩
theorem EntsOk.row {D : Dx} (h : DOk D) {m : Nat} {L : List Ent} (hL : EntsOk D (m + 1) L) {e : Ent} (he : (-1 ≤ e.1 ∧ e.1 < D.rn) ∧ (-1 ≤ e.2.1 ∧ e.2.1 < D.rn) ∧ e.2.2.size ≤ m) : ∀ {k : Nat}, k ≤ D.pn → EntsOk D (m + 1) (rowE D e L k)
  | 0, _ => hL
  | k + 1, hk => (EntsOk.row h hL he (by omega : k ≤ D.pn)).add h he (by omega)
theorem getD_mem {L : List Ent} {i : Nat} (d : Ent) (hi : i < L.length) : L.getD i d ∈ L := by
  rw [List.getD_eq_getElem?_getD, List.getElem?_eq_getElem hi]
  exact List.getElem_mem hi
/-- two states of the machine -/
def InR (D : Dx) (s t : Int) : Prop := 0 ≤ s ∧ s < D.rn ∧ 0 ≤ t ∧ t < D.rn
theorem lev_ok {D : Dx} (h : DOk D) {s t : Int} (hst : InR D s t) : ∀ i, EntsOk D i (lev D s t i)
  | 0 => ⟨fun e he => by
      rw [lev, List.mem_singleton] at he
      subst he
      obtain ⟨a, b, c, d⟩ := hst
      exact ⟨⟨(by omega : -1 ≤ s), b⟩, ⟨(by omega : -1 ≤ t), d⟩, Nat.le_refl _⟩, by simp [lev]⟩
  | i + 1 => by
    have ih := lev_ok h hst i
    rw [lev]
    refine (ih.mono (Nat.le_succ i)).row h ?_ (Nat.le_refl _)
    by_cases hi : i < (lev D s t i).length
    · exact ih.bd _ (getD_mem _ hi)
    · rw [List.getD_eq_getElem?_getD, List.getElem?_eq_none (by omega)]
      obtain ⟨a, b, c, d⟩ := hst
      exact ⟨⟨by simpa using (by omega : -1 ≤ s), b⟩, ⟨by simpa using (by omega : -1 ≤ t), d⟩, Nat.zero_le _⟩

/-- those ahead of place i differ in nothing so far -/
def TwoAt (D : Dx) (s t : Int) (i : Nat) : Prop := ∀ j, j < i → ∃ e : Ent, (lev D s t j)[j]? = some e ∧ accI D e.1 = accI D e.2.1
/-- what is told of two states of a machine that is one -/
def TwoOk (D : Dx) (s t : Int) (b : Bool) (x : ByteArray) : Prop := ∃ i, TwoAt D s t i ∧ ((∃ e : Ent, (lev D s t i)[i]? = some e ∧ accI D e.1 ≠ accI D e.2.1 ∧ b = false ∧ x = e.2.2) ∨ ((lev D s t i)[i]? = none ∧ b = true ∧ x = ⟨#[]⟩))
/-- what LeastTwo tells -/
def TwoR (D : Dx) (s t : Int) (b : Bool) (x : ByteArray) : Prop := (DOk D ∧ InR D s t ∧ TwoOk D s t b x) ∨ (¬ (DOk D ∧ InR D s t) ∧ b = false ∧ x = ⟨#[]⟩)
theorem TwoOk.unique {D : Dx} {s t : Int} {b b' : Bool} {x x' : ByteArray} (h : TwoOk D s t b x) (h' : TwoOk D s t b' x') : b = b' ∧ x = x' := by
  obtain ⟨i, h1, h2⟩ := h
  obtain ⟨j, g1, g2⟩ := h'
  have key : ∀ {i j : Nat} {b : Bool} {x : ByteArray}, TwoAt D s t j → ((∃ e : Ent, (lev D s t i)[i]? = some e ∧ accI D e.1 ≠ accI D e.2.1 ∧ b = false ∧ x = e.2.2) ∨ ((lev D s t i)[i]? = none ∧ b = true ∧ x = ⟨#[]⟩)) → ¬ i < j := by
    intro i j b x hj h hlt
    obtain ⟨e, he, hne⟩ := hj i hlt
    rcases h with ⟨e', he', h3, _⟩ | ⟨h3, _⟩
    · rw [he] at he'
      cases he'
      exact h3 hne
    · rw [he] at h3; cases h3
  have h3 := key g1 h2
  have h4 := key h1 g2
  obtain rfl : i = j := by omega
  rcases h2 with ⟨e, he, h5, rfl, rfl⟩ | ⟨h5, rfl, rfl⟩ <;> rcases g2 with ⟨e', he', h6, rfl, rfl⟩ | ⟨h6, rfl, rfl⟩
  · rw [he] at he'; cases he'; exact ⟨rfl, rfl⟩
  · rw [he] at h6; cases h6
  · rw [he'] at h5; cases h5
  · exact ⟨rfl, rfl⟩
theorem TwoR.unique {D : Dx} {s t : Int} {b b' : Bool} {x x' : ByteArray} (h : TwoR D s t b x) (h' : TwoR D s t b' x') : b = b' ∧ x = x' := by
  rcases h with ⟨a1, a2, a3⟩ | ⟨a1, rfl, rfl⟩ <;> rcases h' with ⟨c1, c2, c3⟩ | ⟨c1, rfl, rfl⟩
  · exact a3.unique c3
  · exact absurd ⟨a1, a2⟩ c1
  · exact absurd ⟨c1, c2⟩ a1
  · exact ⟨rfl, rfl⟩
theorem nxI_congr {D D' : Dx} (e : DEq D D') (h : DOk D) {q : Int} (hq : -1 ≤ q ∧ q < D.rn) {k : Nat} (hk : k < D.pn) : nxI D' q k = nxI D q k := by
  by_cases e1 : q = -1
  · rw [nxI, nxI, if_pos e1, if_pos e1]
  · rw [nxI, nxI, if_neg e1, if_neg e1]
    exact ((e.2.1.2 q.toNat (by omega)).2 k (by rw [(h.at (s := q.toNat) (by omega)).1]; exact hk)).symm
theorem accI_congr {D D' : Dx} (e : DEq D D') (h : DOk D) {q : Int} (hq : -1 ≤ q ∧ q < D.rn) : accI D' q = accI D q := by
  by_cases e1 : q = -1
  · rw [accI, accI, if_pos e1, if_pos e1]
  · rw [accI, accI, if_neg e1, if_neg e1]
    exact (e.2.2.2 q.toNat (by rw [h.2.2.1]; omega)).symm
theorem bk_congr {D D' : Dx} (e : DEq D D') {k : Nat} (hk : k < D.pn) : bk D' k = bk D k := by
  have := hs_eq (e.1.2 k hk).1 (e.1.2 k hk).2
  have h2 : Sb D'.P k = Sb D.P k := this.symm
  rw [bk, bk, h2]
theorem entK_congr {D D' : Dx} (e : DEq D D') (h : DOk D) {q : Ent} (hq : (-1 ≤ q.1 ∧ q.1 < D.rn) ∧ (-1 ≤ q.2.1 ∧ q.2.1 < D.rn)) {k : Nat} (hk : k < D.pn) : entK D' q k = entK D q k := by
  rw [entK, entK, nxI_congr e h hq.1 hk, nxI_congr e h hq.2 hk, bk_congr e hk]
theorem rowE_congr {D D' : Dx} (e : DEq D D') (h : DOk D) {q : Ent} (hq : (-1 ≤ q.1 ∧ q.1 < D.rn) ∧ (-1 ≤ q.2.1 ∧ q.2.1 < D.rn)) (L : List Ent) : ∀ {k : Nat}, k ≤ D.pn → rowE D' q L k = rowE D q L k
  | 0, _ => rfl
  | k + 1, hk => by
    rw [rowE, rowE, rowE_congr e h hq L (by omega : k ≤ D.pn), addK, addK, entK_congr e h hq (by omega)]
theorem lev_congr {D D' : Dx} (e : DEq D D') (h : DOk D) {s t : Int} (hst : InR D s t) : ∀ i, lev D' s t i = lev D s t i
  | 0 => rfl
  | i + 1 => by
    have ih := lev_congr e h hst i
    rw [lev, lev, ih, ← e.1.1]
    refine rowE_congr e h ?_ _ (Nat.le_refl _)
    have ho := lev_ok h hst i
    by_cases hi : i < (lev D s t i).length
    · exact ⟨(ho.bd _ (getD_mem _ hi)).1, (ho.bd _ (getD_mem _ hi)).2.1⟩
    · rw [List.getD_eq_getElem?_getD, List.getElem?_eq_none (by omega)]
      obtain ⟨a, b, c, d⟩ := hst
      exact ⟨⟨by simpa using (by omega : -1 ≤ s), b⟩, ⟨by simpa using (by omega : -1 ≤ t), d⟩⟩
theorem TwoR.congr {D D' : Dx} (e : DEq D D') {s t : Int} {b : Bool} {x : ByteArray} (h : TwoR D s t b x) : TwoR D' s t b x := by
  have hr := e.2.1.1
  rcases h with ⟨h1, h2, i, h3, h4⟩ | ⟨h1, h2⟩
  · have hl := lev_congr e h1 h2
    have hac : ∀ {i j : Nat} {q : Ent}, (lev D s t i)[j]? = some q → accI D' q.1 = accI D q.1 ∧ accI D' q.2.1 = accI D q.2.1 := fun {i j q} hq => by
      have := (lev_ok h1 h2 i).bd q (List.mem_of_getElem? hq)
      exact ⟨accI_congr e h1 this.1, accI_congr e h1 this.2.1⟩
    refine .inl ⟨h1.congr e, by unfold InR at *; omega, i, fun j hj => ?_, ?_⟩
    · obtain ⟨q, hq, ha⟩ := h3 j hj
      exact ⟨q, by rw [hl j]; exact hq, by rw [(hac hq).1, (hac hq).2]; exact ha⟩
    · rcases h4 with ⟨q, hq, ha, g⟩ | ⟨hn, g⟩
      · exact .inl ⟨q, by rw [hl i]; exact hq, by rw [(hac hq).1, (hac hq).2]; exact ha, g⟩
      · exact .inr ⟨by rw [hl i]; exact hn, g⟩
  · refine .inr ⟨fun g => h1 ⟨g.1.congr e.symm, ?_⟩, h2⟩
    have := g.2
    unfold InR at *
    omega
end Go.Proofs.YtolddecfibdblaaDoor

