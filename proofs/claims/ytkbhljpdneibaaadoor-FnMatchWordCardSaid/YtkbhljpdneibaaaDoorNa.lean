/- Rex in memory whose lists are all apart; no Go text is walked here. -/
import Derived.Test.YtkbhljpdneibaaaDoorTc
namespace Go.Proofs.YtkbhljpdneibaaaDoor
open Go.RowKit
set_option linter.unusedVariables false
set_option linter.unusedSimpArgs false

/-- the block of a slice -/
def blk : Value → Nat
  | .slice (some a) _ _ => a.block
  | _ => 0
/-- the blocks of the lists of a Rex -/
def bl : Sh → Mx → List Nat
  | .node _ n _ _ m kids, M => (if 0 < n then [blk M.sv] else []) ++ ((if 0 < m then [blk M.kv] else []) ++ (List.range m).flatMap (fun i => if hi : i < m then bl (kids ⟨i, hi⟩) (M.kid i) else []))
theorem flatMap_congr {f g : Nat → List Nat} {m : Nat} (h : ∀ i, i < m → f i = g i) : (List.range m).flatMap f = (List.range m).flatMap g := by
  rw [List.flatMap_def, List.flatMap_def, List.map_congr_left (fun i hi => h i (List.mem_range.1 hi))]
theorem bl_mk (kind : Int) (n : Nat) (L H : Nat → Int) (m : Nat) (K : Nat → Sh) (M : Mx) : bl (.mk kind n L H m K) M = (if 0 < n then [blk M.sv] else []) ++ ((if 0 < m then [blk M.kv] else []) ++ (List.range m).flatMap (fun i => bl (K i) (M.kid i))) := by
  simp only [Sh.mk, bl]
  rw [flatMap_congr (g := fun i => bl (K i) (M.kid i)) (fun i hi => by rw [dif_pos hi])]
theorem In.bl_mem {B : Nat → Prop} {w : World} {S : Sh} : ∀ {M : Mx}, In B w S M → ∀ x ∈ bl S M, B x := by
  induction S using Sh.ind with
  | h kind n L H m K ih =>
    rintro M ⟨a, b, off, cap, a', b', off', cap', e1, hn, hs, hl, e2, hm, hl', h⟩ x hx
    rw [bl_mk, List.mem_append, List.mem_append] at hx
    rcases hx with hx | hx | hx
    · split at hx
      · rename_i h0
        have := hn h0
        rw [List.mem_singleton.1 hx, e1, this.1]
        exact this.2
      · cases hx
    · split at hx
      · rename_i h0
        have := hm h0
        rw [List.mem_singleton.1 hx, e2, this.1]
        exact this.2
      · cases hx
    · obtain ⟨i, hi, hx⟩ := List.mem_flatMap.1 hx
      have hi := List.mem_range.1 hi
      exact ih i hi (h i hi).2 x hx
/-- a Rex in new memory, no two lists of which share any -/
def Own (lo : Nat) (w : World) (S : Sh) (M : Mx) : Prop := In (fun k => lo ≤ k ∧ Soft w k) w S M ∧ (bl S M).Nodup
theorem Own.below {lo : Nat} {w w' : World} {S : Sh} {M : Mx} (h : Own lo w S M) (hb : Below w.heap.size w w') : Own lo w' S M :=
  ⟨(h.1.below hb).mono (fun k hk => ⟨hk.1, hk.2.below hb⟩), h.2⟩
theorem Own.keep {lo : Nat} {w w' : World} {S : Sh} {M : Mx} (h : Own lo w S M) (hk : ∀ k, lo ≤ k → k < w.heap.size → w'.heap[k]? = w.heap[k]?) : Own lo w' S M :=
  ⟨(h.1.keep (fun k hB hlt => hk k hB.1 hlt)).mono (fun k hB => ⟨hB.1, hB.2.of_block (hk k hB.1 hB.2.lt)⟩), h.2⟩
theorem Own.any {lo : Nat} {w : World} {S : Sh} {M : Mx} (h : Own lo w S M) : In AnyB w S M := h.1.mono (fun _ _ => trivial)
theorem Own.mono {lo lo' : Nat} {w : World} {S : Sh} {M : Mx} (h : Own lo w S M) (hl : lo' ≤ lo) : Own lo' w S M := ⟨h.1.mono (fun k hk => ⟨by omega, hk.2⟩), h.2⟩
/-- the answer is that Rex, in new memory of its own -/
def OwnRes (S : Sh) (w : World) (e : Ending) (w' : World) : Prop := ∃ M, e = .returned (vx S M) ∧ Own w.heap.size w' S M ∧ Below w.heap.size w w'
end Go.Proofs.YtkbhljpdneibaaaDoor

