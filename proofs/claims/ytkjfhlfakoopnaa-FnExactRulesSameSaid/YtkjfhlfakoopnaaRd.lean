/- The map of what was met: looked into, and put into. -/
import Derived.Test.YtkjfhlfakoopnaaRc
import Derived.Maps.OwnOps
namespace Go.Proofs.Ytkjfhlfakoopnaa
open Go.RowKit
set_option linter.unusedVariables false
set_option linter.unusedSimpArgs false

/-- the map holds just these keys, the last one first -/
def Km (w : World) (b : Nat) (ks : List (Addr × Addr × Nat)) : Prop := ∃ es c, w.heap[b]? = some (.map es c) ∧ es.toList.map (fun e => (e.key, e.val)) = ks.reverse.map (fun q => (keyV q, Value.agg #[]))
theorem Km.of_block {w w' : World} {b : Nat} {ks : List (Addr × Addr × Nat)} (h : Km w b ks) (e : w'.heap[b]? = w.heap[b]?) : Km w' b ks := by
  obtain ⟨es, c, h1, h2⟩ := h
  exact ⟨es, c, e.trans h1, h2⟩
theorem Km.lt {w : World} {b : Nat} {ks : List (Addr × Addr × Nat)} (h : Km w b ks) : b < w.heap.size := by
  obtain ⟨es, c, h1, h2⟩ := h
  rcases Nat.lt_or_ge b w.heap.size with h' | h'
  · exact h'
  · simp [Array.getElem?_eq_none h'] at h1
theorem Km.below {w w' : World} {b : Nat} {ks : List (Addr × Addr × Nat)} (h : Km w b ks) (hb : Below w.heap.size w w') : Km w' b ks := h.of_block (hb.block b h.lt)
theorem Km.made (w : World) : Km (w.alloc (.map #[] 0)) w.heap.size [] := ⟨#[], 0, by show (w.heap.push _)[w.heap.size]? = _; simp, rfl⟩
theorem Km.not_cells {w : World} {b g : Nat} {ks : List (Addr × Addr × Nat)} (h : Km w b ks) {cs : Array Value} {t : TypeId} {m : Nat × Nat} (hg : w.heap[g]? = some (.cells cs t m)) : b ≠ g := by
  obtain ⟨es, c, h1, h2⟩ := h
  intro e
  rw [e, hg] at h1
  cases h1

theorem zero46 (w : World) : (zeroValue 55).run Try.prog w = .ok (.agg #[]) w := by
  have h : (Try.prog.info? 55).map (fun i => (i.zero, i.size, i.bytes)) = some (some (.agg #[]), 0, 0) := by kernel_rfl
  obtain ⟨i0, hi, hz0, hz1, hz2⟩ := info_parts h
  simp [zeroValue, typeInfo, hi, hz0]

theorem Km.look {w : World} {b : Nat} {ks : List (Addr × Addr × Nat)} (h : Km w b ks) (hk : ∀ q ∈ ks, KOk w q) {k : Addr × Addr × Nat} (h' : KOk w k) :
    (Instr.lookup 51 (.map (some b)) (keyV k) true).run Try.prog w = .ok (.tuple #[.agg #[], .bool (decide (k ∈ ks))]) w := by
  obtain ⟨es, c, h1, h2⟩ := h
  obtain ⟨r, hr, hy, hn⟩ := key45 h' ks.reverse es.toList (fun q hq => hk q (List.mem_reverse.1 hq)) h2
  simp only [List.mem_reverse] at hy hn
  simp only [Instr.lookup, Sem.run_bind, run_underlying Try.underlying51, Result.andThen_ok, MapKept.run_getObj_map h1, check45, hr]
  by_cases hm : k ∈ ks
  · obtain ⟨j, rfl⟩ := hy hm
    simp [MapKept.run_getObj_map h1, check45, hr, hm]
  · rw [hn hm] at hr
    simp [MapKept.run_getObj_map h1, check45, hr, hm, zero46]

theorem Km.put {w : World} {b : Nat} {ks : List (Addr × Addr × Nat)} (h : Km w b ks) (hk : ∀ q ∈ ks, KOk w q) {k : Addr × Addr × Nat} (h' : KOk w k) (hm : k ∉ ks) :
    ∃ w', (Instr.mapUpdate 51 (.map (some b)) (keyV k) (.agg #[])).run Try.prog w = .ok () w' ∧ Km w' b (k :: ks) ∧ w.grownBy w' (some b) := by
  have hlt := h.lt
  obtain ⟨es, c, h1, h2⟩ := h
  obtain ⟨r, hr, hy, hn⟩ := key45 h' ks.reverse es.toList (fun q hq => hk q (List.mem_reverse.1 hq)) h2
  simp only [List.mem_reverse] at hy hn
  rw [hn hm] at hr
  refine ⟨{ w with heap := w.heap.setIfInBounds b (.map (es.push { key := keyV k, val := .agg #[], born := c }) (c + 1)) }, ?_, ⟨es.push { key := keyV k, val := .agg #[], born := c }, c + 1, by simp [Array.getElem?_setIfInBounds, hlt], ?_⟩, ⟨rfl, rfl, rfl, by simp, fun j hj hne => ?_⟩⟩
  · simp [Instr.mapUpdate, run_underlying Try.underlying51, MapKept.run_getObj_map h1, check45, hr, setObj, Sem.run, h1]
  · simp [h2]
  · have : j ≠ b := fun e => hne (by rw [e])
    simp [Array.getElem?_setIfInBounds, Ne.symm this]
end Go.Proofs.Ytkjfhlfakoopnaa

