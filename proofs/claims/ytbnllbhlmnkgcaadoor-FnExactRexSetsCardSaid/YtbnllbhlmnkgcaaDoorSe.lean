/- what is known of lists of sets of one's own, as eqSpanSS, markSpanSS, heldSpanSS take it -/
import Derived.Test.YtbnllbhlmnkgcaaDoorSd
namespace Go.Proofs.YtbnllbhlmnkgcaaDoor
open Go.RowKit Go.Shelf
set_option linter.unusedVariables false
set_option linter.unusedSimpArgs false

theorem pick {T : Type} (d : T) {n : Nat} {P : Nat → T → Prop} (h : ∀ i, i < n → ∃ x, P i x) : ∃ f : Nat → T, ∀ i, i < n → P i (f i) :=
  ⟨fun i => if hi : i < n then Classical.choose (h i hi) else d, fun i hi => by
    simp only [dif_pos hi]
    exact Classical.choose_spec (h i hi)⟩

def noSet : SetV := (0, fun _ => 0, fun _ => 0)
def sz (ss : List SetV) (i : Nat) : Nat := (ss.getD i noSet).1
def sumL : List SetV → Nat
  | [] => 0
  | s :: ss => s.1 + sumL ss
theorem sumL_append (a b : List SetV) : sumL (a ++ b) = sumL a + sumL b := by
  induction a with
  | nil => simp [sumL]
  | cons x a ih => simp [sumL, ih]; omega
theorem sumL_cat (f : Nat → List SetV) (g : Nat → Nat) : ∀ m, (∀ i, i < m → sumL (f i) ≤ g i) → sumL (catN f m) ≤ sumN g m
  | 0, _ => by simp [catN, sumL]
  | m + 1, h => by
    have h1 := sumL_cat f g m (fun i hi => h i (by omega))
    have h2 := h m (by omega)
    simp only [catN, sumN, sumL_append]; omega
theorem sumL_sets (S : Sh) : sumL (setsS S) ≤ cnt S := by
  induction S using Sh.ind with
  | h kind n L H m K ih =>
    rw [setsS_mk, cnt_mk, sumL_append]
    have h1 := sumL_cat (fun i => setsS (K i)) (fun i => cnt (K i)) m ih
    have h2 : sumL (if kind = 1 then [(n, L, H)] else [] : List SetV) ≤ n := by split <;> simp [sumL]
    omega
theorem tot_sum (ss : List SetV) : ∀ k, k ≤ ss.length → tot (sz ss) k = sumL (ss.take k)
  | 0, _ => by simp [tot, sumL]
  | k + 1, h => by
    have h1 := tot_sum ss k (by omega)
    rw [tot, h1, List.take_add_one, sumL_append, List.getElem?_eq_getElem (by omega)]
    simp [sumL, sz, List.getD_eq_getElem?_getD, List.getElem?_eq_getElem (show k < ss.length by omega)]
theorem tot_all (ss : List SetV) : tot (sz ss) ss.length = sumL ss := by rw [tot_sum ss _ (Nat.le_refl _), List.take_length]
theorem setsR_len {S : Sh} (h : cnt S ≤ 1048576) : (setsR S).length ≤ 1048577 := by
  have := setsS_len S
  unfold setsR; split
  · omega
  · simp
theorem setsR_sum {S : Sh} (h : cnt S ≤ 1048576) : sumL (setsR S) ≤ 1048576 := by
  have := sumL_sets S
  unfold setsR; split
  · omega
  · simp [sumL]

theorem sz_at {ss : List SetV} {i : Nat} (h : i < ss.length) : ss[i]? = some (ss.getD i noSet) := by
  rw [List.getD_eq_getElem?_getD, List.getElem?_eq_getElem h]; rfl

theorem Lp.len {W : World} {base : Nat} {g : Option Addr} {n c : Nat} {vs : List Value} {ss : List SetV} (h : Lp W base (.slice g n c) vs ss) : n = ss.length ∧ vs.length = ss.length ∧ ∃ B, (0 < n → g = some ⟨B, 0, none⟩) ∧ ∀ i, i < n → W.cell? ⟨B, i, none⟩ = vs[i]? ∧ ∃ cur, W.heap[B]? = some (.cells cur 23 (0, 0)) := by
  have hv : vs.length = ss.length := by have := h.row.1; omega
  rcases h.row.2 with ⟨e, e0⟩ | ⟨B, cap, cur, e1, e2, e3, e4⟩
  · cases e
    exact ⟨e0.symm, hv, 0, fun h => by omega, fun i hi => by omega⟩
  · cases e1
    exact ⟨rfl, hv, B, fun _ => rfl, fun i hi => ⟨h.row.cellAt i (by omega), cur, e3⟩⟩

theorem own_set {W : World} {base : Nat} {x : Value} {s : SetV} (h : W.ownsRow base 77 2 x s.1 (cellsV s)) : ∃ (a : Option Addr) (b cap : Nat), x = .slice a s.1 cap ∧ (0 < s.1 → a = some ⟨b, 0, none⟩) ∧ Sp W b 0 s.1 s.2.1 s.2.2 := by
  rcases h.2 with ⟨e, e0⟩ | ⟨B, cap, cur, e1, e2, e3, e4⟩
  · exact ⟨none, 0, 0, by rw [e, e0], fun h => by omega, fun i hi => by omega⟩
  · refine ⟨some ⟨B, 0, none⟩, B, cap, e1, fun _ => rfl, fun i hi => ?_⟩
    rw [e1] at h
    have c1 := h.cellAt (i * 2) (by omega)
    have c2 := h.cellAt (i * 2 + 1) (by omega)
    have g : ∀ j, j < s.1 * 2 → (cellsV s)[j]? = some (flat s.2.1 s.2.2 j) := fun j hj => by
      simp only [cellsV, List.getElem?_map]
      rw [List.getElem?_range hj]; rfl
    rw [g _ (by omega), flat_even] at c1
    rw [g _ (by omega), flat_odd] at c2
    simp only [Nat.zero_add]
    exact ⟨c1, c2⟩

theorem Lp.nest {W : World} {base : Nat} {g : Option Addr} {n c : Nat} {vs : List Value} {ss : List SetV} (h : Lp W base (.slice g n c) vs ss) : ∃ (B : Nat) (N : Nest), (0 < n → g = some ⟨B, 0, none⟩) ∧ SS W B 0 n N ∧ n = ss.length ∧ ∀ i, N.n i = sz ss i ∧ N.L i = (ss.getD i noSet).2.1 ∧ N.H i = (ss.getD i noSet).2.2 := by
  obtain ⟨hn, hv, B, hg, hc⟩ := h.len
  obtain ⟨f, hf⟩ := pick (T := Option Addr × Nat × Nat) (none, 0, 0) (n := n) (P := fun i x => vs[i]? = some (.slice x.1 (sz ss i) x.2.2) ∧ (0 < sz ss i → x.1 = some ⟨x.2.1, 0, none⟩) ∧ Sp W x.2.1 0 (sz ss i) (ss.getD i noSet).2.1 (ss.getD i noSet).2.2)
    (fun i hi => by
      have hi2 : i < vs.length := by omega
      obtain ⟨a, b, cap, e1, e2, e3⟩ := own_set (h.sub i vs[i] _ (List.getElem?_eq_getElem hi2) (sz_at (by omega)))
      exact ⟨(a, b, cap), by rw [List.getElem?_eq_getElem hi2, e1]; rfl, e2, e3⟩)
  refine ⟨B, ⟨fun i => (f i).1, fun i => (f i).2.1, fun _ => 0, fun i => (f i).2.2, sz ss, fun i => (ss.getD i noSet).2.1, fun i => (ss.getD i noSet).2.2⟩, hg, fun i hi => ?_, hn, fun i => ⟨rfl, rfl, rfl⟩⟩
  obtain ⟨h1, h2, h3⟩ := hf i hi
  refine ⟨?_, h2, h3⟩
  rw [Nat.zero_add, (hc i hi).1]
  exact h1

/-- two lists of the same sets are found alike -/
theorem eqL_any {W : World} {base base' : Nat} {g g' : Option Addr} {n c n' c' : Nat} {vs vs' : List Value} {ss : List SetV} (h : Lp W base (.slice g n c) vs ss) (h' : Lp W base' (.slice g' n' c') vs' ss) (hl : ss.length ≤ 1048577) (hs : sumL ss ≤ 1048576) :
    Calls Tryd.prog 27 #[.slice g n c, .slice g' n' c'] W fun e w' => e = .returned (.bool true) ∧ Below W.heap.size W w' := by
  obtain ⟨B, N, hg, hS, hn, hN⟩ := h.nest
  obtain ⟨B', N', hg', hS', hn', hN'⟩ := h'.nest
  obtain rfl : n = n' := by omega
  have ht := tot_all ss
  refine eqSS_any g g' B 0 c B' 0 c' n N N' W hg hg' hS hS' (by omega) (fun i hi => ?_) (fun i hi => ?_)
  · rw [(hN i).1]
    have := tot_at (sz ss) (j := i) (k := ss.length) (by omega)
    omega
  · rw [(hN i).1, (hN' i).1, (hN i).2.1, (hN i).2.2, (hN' i).2.1, (hN' i).2.2]
    exact ⟨rfl, fun j _ => ⟨rfl, rfl⟩⟩

theorem Lo.lst {W : World} {base : Nat} {g : Option Addr} {n c : Nat} {vs : List Value} {ss : List SetV} (h : Lo W base (.slice g n c) vs ss) : n = ss.length ∧ ∃ (B : Nat) (V : Nat → Value), (0 < n → g = some ⟨B, 0, none⟩) ∧ Lst W base B n V (sz ss) (fun i => cellsV (ss.getD i noSet)) ∧ ∀ i, i < n → ∀ k, (V i).ownBlock = some k → base ≤ k := by
  obtain ⟨hn, hv, B, hg, hc⟩ := h.lp.len
  have hat : ∀ i, i < n → vs[i]? = some (vs.getD i (.slice none 0 0)) := fun i hi => by
    rw [List.getD_eq_getElem?_getD, List.getElem?_eq_getElem (by omega)]; rfl
  have hsub : ∀ i, i < n → W.ownsRow base 77 2 (vs.getD i (.slice none 0 0)) (sz ss i) (cellsV (ss.getD i noSet)) := fun i hi => h.sub i _ _ (hat i hi) (sz_at (by omega))
  have hblk : ∀ i, i < n → ∀ k, (vs.getD i (.slice none 0 0)).ownBlock = some k → base ≤ k ∧ ∃ cur, W.heap[k]? = some (.cells cur 77 (0, 0)) := fun i hi k hk => by
    rcases (hsub i hi).2 with ⟨e, _⟩ | ⟨g0, cap, cur, e1, e2, e3, _⟩
    · rw [e] at hk; cases hk
    · rw [e1] at hk
      obtain rfl : g0 = k := Option.some.inj hk
      exact ⟨e2, cur, e3⟩
  refine ⟨hn, B, fun i => vs.getD i (.slice none 0 0), hg, ⟨fun i hi => ?_, hsub, fun i hi e => ?_, fun i j hi hj hij => h.apart i j _ _ (hat i hi) (hat j hj) hij⟩, fun i hi k hk => (hblk i hi k hk).1⟩
  · rw [(hc i hi).1]; exact hat i hi
  · obtain ⟨_, cur, h1⟩ := hblk i hi B e
    obtain ⟨_, cur', h2⟩ := hc i hi
    rw [h1] at h2; cases h2

theorem Lst.below {w w' : World} {base B n : Nat} {V : Nat → Value} {m : Nat → Nat} {X : Nat → List Value} (h : Lst w base B n V m X) (hb : Below w.heap.size w w') : Lst w' base B n V m X :=
  ⟨fun i hi => (hb.cell (p := ⟨B, i, none⟩) (World.block_lt_of_cell? _ _ (h.cell i hi))).trans (h.cell i hi), fun i hi => own_below (h.row i hi) hb, h.out, h.apart⟩
end Go.Proofs.YtbnllbhlmnkgcaaDoor
