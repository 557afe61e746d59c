/- a row of elements of k cells, sorted: from one's own row to what slices.SortFunc tells, and back -/
import Derived.Test.YtjpmdbaalhieoaaDoorCa
import Derived.Shelf.SlSortCmp.WholeK
namespace Go.Proofs.YtjpmdbaalhieoaaDoor
open Go.RowKit Go.Sort
set_option linter.unusedVariables false
set_option linter.unusedSimpArgs false

theorem flat_get {α : Type} [Inhabited α] (enc : α → List Value) (k : Nat) (hk : ∀ x, (enc x).length = k) : ∀ (P : List α) (t : Nat), t < P.length * k → (P.flatMap enc)[t]? = some ((enc P.toArray[t / k]!)[t % k]!)
  | [], t, h => absurd h (by simp)
  | A :: P, t, h => by
    have k0 : 0 < k := Nat.pos_of_ne_zero (fun e => by subst e; simp at h)
    rw [List.flatMap_cons, List.getElem?_append]
    by_cases ht : t < k
    · rw [if_pos (by rw [hk]; exact ht), Nat.div_eq_of_lt ht, Nat.mod_eq_of_lt ht]
      have hb : t < (enc A).length := by rw [hk]; exact ht
      rw [List.getElem?_eq_getElem hb]
      show some (enc A)[t] = some ((enc A)[t]!)
      rw [getElem!_pos (enc A) t hb]
    · obtain ⟨s, rfl⟩ : ∃ s, t = s + k := ⟨t - k, by omega⟩
      rw [if_neg (by rw [hk]; exact ht), hk, Nat.add_sub_cancel, Nat.add_div_right _ k0, Nat.add_mod_right]
      rw [flat_get enc k hk P s (by rw [List.length_cons, Nat.add_mul] at h; omega)]
      simp
theorem flat_len {α : Type} (enc : α → List Value) (k : Nat) (hk : ∀ x, (enc x).length = k) : ∀ (P : List α), (P.flatMap enc).length = P.length * k
  | [] => by simp
  | A :: P => by rw [List.flatMap_cons, List.length_append, hk, flat_len enc k hk P, List.length_cons, Nat.add_mul]; omega
theorem flatK_list {α : Type} [Inhabited α] (enc : α → List Value) (k : Nat) (hk : ∀ x, (enc x).length = k) (P : List α) : flatK enc k P.toArray = (P.flatMap enc).toArray := by
  refine ext_get! (by simp [flat_len enc k hk P]) (fun t ht => ?_)
  have ht' : t < P.length * k := by simpa using ht
  rw [get_flatK _ _ _ _ (by simpa using ht'), getElem!_pos _ t (by simpa [flat_len enc k hk P] using ht')]
  have h := flat_get enc k hk P t ht'
  rw [List.getElem?_eq_getElem (by rw [flat_len enc k hk P]; exact ht')] at h
  simpa using (Option.some.inj h).symm
theorem holdsK_own {α : Type} [Inhabited α] {enc : α → List Value} {k : Nat} (hk : ∀ x, (enc x).length = k) {w : World} {base g n cap : Nat} {e : TypeId} {P : List α} (h : w.ownsRow base e k (.slice (some ⟨g, 0, none⟩) n cap) n (P.flatMap enc)) : HoldsK enc k w g 0 P.toArray := by
  intro j hj
  rw [flatK_list enc k hk] at hj ⊢
  have hj' : j < (P.flatMap enc).length := by simpa using hj
  have hl := h.1
  rw [Nat.zero_add]
  refine ⟨?_, h.frozenAt j⟩
  rw [h.cellAt j (by omega), List.getElem?_eq_getElem hj']
  simp [getElem!_pos, hj', List.getElem?_eq_getElem hj']
theorem own_sortedK {α : Type} [Inhabited α] {enc : α → List Value} {k : Nat} (hk : ∀ x, (enc x).length = k) {w : World} {base g n cap q : Nat} {e : TypeId} {P L : List α} (h : w.ownsRow base e k (.slice (some ⟨g, 0, none⟩) n cap) n (P.flatMap enc)) (hL : L.length = n) (os : Array Obj) :
    (sortWorldK enc k w g 0 q L.toArray os).ownsRow base e k (.slice (some ⟨g, 0, none⟩) n cap) n (L.flatMap enc) := by
  have hlen : (L.flatMap enc).length = n * k := by rw [flat_len enc k hk, hL]
  refine ⟨hlen, .inr ?_⟩
  rcases h.2 with ⟨e0, _⟩ | ⟨g', cap', cur, e0, hb, hg, hn, hm, hs, ht⟩
  · cases e0
  · injection e0 with e1 _ e3
    injection e1 with e1
    injection e1 with e1
    subst e1; subst e3
    have hlt : g < w.heap.size := by
      rcases Nat.lt_or_ge g w.heap.size with h' | h'
      · exact h'
      · rw [Array.getElem?_eq_none h'] at hg; cases hg
    refine ⟨g, cap, putCells id 0 (L.flatMap enc).toArray cur, rfl, hb, ?_, hn, hm, by simpa [putCells] using hs, ?_⟩
    · rw [sortWorldK, putRowK, heap_grow_old _ _ (by simpa [Sort.ahead] using hlt), flatK_list enc k hk]
      simp [putRow, mapBlock, Sort.ahead, Array.getElem?_modify, hg, onCells]
    · have hck : n * k ≤ cap * k := Nat.mul_le_mul_right k hn
      apply List.ext_getElem?
      intro j
      rw [List.getElem?_take, Array.getElem?_toList]
      by_cases hj : j < n * k
      · have hjc : j < cur.size := by omega
        rw [if_pos hj]
        simp only [putCells, Array.getElem?_mapIdx, Array.getElem?_eq_getElem hjc, Option.map_some]
        rw [if_pos (by simp [hlen]; omega), List.getElem?_eq_getElem (by omega)]
        simp [getElem!_pos, List.getElem?_eq_getElem (show j < (L.flatMap enc).length by omega)]
      · rw [if_neg hj, List.getElem?_eq_none (by omega)]
/-- what is not that row lies as it did -/
theorem sortedK_below {α : Type} [Inhabited α] {enc : α → List Value} {k : Nat} {w : World} {B g q : Nat} (L : Array α) (os : Array Obj) (hg : B ≤ g) (hB : B ≤ w.heap.size) : Go.RowKit.Below B w (sortWorldK enc k w g 0 q L os) := by
  refine ⟨rfl, rfl, rfl, by simp [sortWorldK, putRowK, Sort.ahead], fun j hj => ?_⟩
  rw [sortWorldK, putRowK, heap_grow_old _ _ (by simp [Sort.ahead]; omega)]
  simp [putRow, mapBlock, Sort.ahead, Array.getElem?_modify, show g ≠ j by omega]
theorem perm_list {α : Type} [Inhabited α] {P : List α} {d' : Array α} (h : PermIn 0 P.length P.toArray d') : d'.toList.Perm P := by
  obtain ⟨hs, _, hp⟩ := h
  have e1 : d'.extract 0 P.length = d' := by
    rw [show P.length = d'.size by simpa using hs.symm]; simp
  have e2 : P.toArray.extract 0 P.length = P.toArray := by simp
  rw [e1, e2] at hp
  simpa using hp
theorem sorted_list {α : Type} [Inhabited α] {lt : α → α → Bool} {d' : Array α} {n : Nat} (hn : d'.size = n) (h : SortedIn lt 0 n d') : d'.toList.Pairwise (fun A B => lt B A = false) := by
  subst hn
  rw [List.pairwise_iff_getElem]
  intro i j hi hj hij
  have hi' : i < d'.size := by simpa using hi
  have hj' : j < d'.size := by simpa using hj
  have := h i j (Nat.zero_le _) hij hj'
  rw [getElem!_pos d' i hi', getElem!_pos d' j hj'] at this
  simpa using this
end Go.Proofs.YtjpmdbaalhieoaaDoor

