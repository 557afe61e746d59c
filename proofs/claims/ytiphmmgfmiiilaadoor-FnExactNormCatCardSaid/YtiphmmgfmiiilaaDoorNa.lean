/- Rex in memory whose lists are all apart; no Go text is walked here. -/
import Derived.Test.YtiphmmgfmiiilaaDoorTd
namespace Go.Proofs.YtiphmmgfmiiilaaDoor
open Go.RowKit
set_option linter.unusedVariables false
set_option linter.unusedSimpArgs false

/-- the kid at that place -/
def Sh.kidAt (S : Sh) (i : Nat) : Sh := if h : i < S.m then S.kids ⟨i, h⟩ else S
theorem Sh.kidAt_mk (kind : Int) (n : Nat) (L H : Nat → Int) (m : Nat) (K : Nat → Sh) {i : Nat} (hi : i < m) : (Sh.mk kind n L H m K).kidAt i = K i := by
  have h : i < (Sh.mk kind n L H m K).m := hi
  rw [Sh.kidAt, dif_pos h]; rfl

/-- the block of a slice -/
def blk : Value → Nat
  | .slice (some a) _ _ => a.block
  | _ => 0
/-- the blocks of the lists of a Rex -/
def bl : Sh → Mx → List Nat
  | .node _ n _ _ m kids, M => (if 0 < n then [blk M.sv] else []) ++ ((if 0 < m then [blk M.kv] else []) ++ (List.range m).flatMap (fun i => if hi : i < m then bl (kids ⟨i, hi⟩) (M.kid i) else []))
/-- those of the lists of its kids -/
def blK (S : Sh) (M : Mx) : List Nat := (if 0 < S.m then [blk M.kv] else []) ++ (List.range S.m).flatMap (fun i => bl (S.kidAt i) (M.kid i))
theorem flatMap_congr {f g : Nat → List Nat} {m : Nat} (h : ∀ i, i < m → f i = g i) : (List.range m).flatMap f = (List.range m).flatMap g := by
  rw [List.flatMap_def, List.flatMap_def, List.map_congr_left (fun i hi => h i (List.mem_range.1 hi))]
theorem bl_mk (kind : Int) (n : Nat) (L H : Nat → Int) (m : Nat) (K : Nat → Sh) (M : Mx) : bl (.mk kind n L H m K) M = (if 0 < n then [blk M.sv] else []) ++ ((if 0 < m then [blk M.kv] else []) ++ (List.range m).flatMap (fun i => bl (K i) (M.kid i))) := by
  simp only [Sh.mk, bl]
  rw [flatMap_congr (g := fun i => bl (K i) (M.kid i)) (fun i hi => by rw [dif_pos hi])]
theorem blK_mk (kind : Int) (n : Nat) (L H : Nat → Int) (m : Nat) (K : Nat → Sh) (M : Mx) : blK (.mk kind n L H m K) M = (if 0 < m then [blk M.kv] else []) ++ (List.range m).flatMap (fun i => bl (K i) (M.kid i)) := by
  have hm : (Sh.mk kind n L H m K).m = m := rfl
  simp only [blK, hm]
  rw [flatMap_congr (g := fun i => bl (K i) (M.kid i)) (fun i hi => by rw [Sh.kidAt_mk kind n L H m K hi])]
theorem bl_eq (S : Sh) (M : Mx) : bl S M = (if 0 < S.n then [blk M.sv] else []) ++ blK S M := by
  obtain ⟨kind, n, L, H, m, K, rfl, _⟩ := Sh.cases S
  rw [bl_mk, blK_mk]; rfl

theorem In.parts {B : Nat → Prop} {w : World} {S : Sh} {M : Mx} (h : In B w S M) : ∃ (a : Option Addr) (b off cap : Nat) (a' : Option Addr) (b' off' cap' : Nat),
      M.sv = .slice a S.n cap ∧ (0 < S.n → a = some ⟨b, off, none⟩ ∧ B b) ∧ Sp w b off S.n S.L S.H ∧ S.n ≤ 9223372036854775807 ∧
      M.kv = .slice a' S.m cap' ∧ (0 < S.m → a' = some ⟨b', off', none⟩ ∧ B b') ∧ S.m ≤ 9223372036854775807 ∧
      ∀ i, i < S.m → Kid w b' (off' + i * 3) (S.kidAt i) (M.kid i) ∧ In B w (S.kidAt i) (M.kid i) := by
  obtain ⟨kind, n, L, H, m, kids⟩ := S
  obtain ⟨a, b, off, cap, a', b', off', cap', e1, hn, hs, hl, e2, hm, hl', h⟩ := h
  refine ⟨a, b, off, cap, a', b', off', cap', e1, hn, hs, hl, e2, hm, hl', fun i hi => ?_⟩
  rw [Sh.kidAt, dif_pos hi]
  exact h i hi
theorem In.mkParts {B : Nat → Prop} {w : World} {S : Sh} {M : Mx} (a : Option Addr) (b off cap : Nat) (a' : Option Addr) (b' off' cap' : Nat)
      (e1 : M.sv = .slice a S.n cap) (hn : 0 < S.n → a = some ⟨b, off, none⟩ ∧ B b) (hs : Sp w b off S.n S.L S.H) (hl : S.n ≤ 9223372036854775807)
      (e2 : M.kv = .slice a' S.m cap') (hm : 0 < S.m → a' = some ⟨b', off', none⟩ ∧ B b') (hl' : S.m ≤ 9223372036854775807)
      (h : ∀ i, i < S.m → Kid w b' (off' + i * 3) (S.kidAt i) (M.kid i) ∧ In B w (S.kidAt i) (M.kid i)) : In B w S M := by
  obtain ⟨kind, n, L, H, m, kids⟩ := S
  refine ⟨a, b, off, cap, a', b', off', cap', e1, hn, hs, hl, e2, hm, hl', fun i hi => ?_⟩
  have := h i hi
  rw [Sh.kidAt, dif_pos hi] at this
  exact this

theorem In.bl_mem {B : Nat → Prop} {w : World} {S : Sh} : ∀ {M : Mx}, In B w S M → ∀ x ∈ bl S M, B x := by
  induction S using Sh.ind with
  | h kind n L H m K ih =>
    rintro M ⟨a, b, off, cap, a', b', off', cap', e1, hn, hs, hl, e2, hm, hl', h⟩ x hx
    rw [bl_mk, List.mem_append, List.mem_append] at hx
    rcases hx with hx | hx | hx
    · split at hx
      · rename_i h0
        have := hn h0
        rw [List.mem_singleton.1 hx, e1, this.1]
        exact this.2
      · cases hx
    · split at hx
      · rename_i h0
        have := hm h0
        rw [List.mem_singleton.1 hx, e2, this.1]
        exact this.2
      · cases hx
    · obtain ⟨i, hi, hx⟩ := List.mem_flatMap.1 hx
      have hi := List.mem_range.1 hi
      exact ih i hi (h i hi).2 x hx
theorem In.ofBl {B B' : Nat → Prop} {w : World} {S : Sh} : ∀ {M : Mx}, In B w S M → (∀ x ∈ bl S M, B' x) → In B' w S M := by
  induction S using Sh.ind with
  | h kind n L H m K ih =>
    rintro M ⟨a, b, off, cap, a', b', off', cap', e1, hn, hs, hl, e2, hm, hl', h⟩ hB
    rw [bl_mk] at hB
    refine ⟨a, b, off, cap, a', b', off', cap', e1, fun h0 => ⟨(hn h0).1, hB b ?_⟩, hs, hl, e2, fun h0 => ⟨(hm h0).1, hB b' ?_⟩, hl', fun i hi => ⟨(h i hi).1, ih i hi (h i hi).2 (fun x hx => hB x ?_)⟩⟩
    · rw [if_pos h0, e1, (hn h0).1]; simp [blk]
    · rw [if_pos h0, e2, (hm h0).1]; simp [blk]
    · exact List.mem_append.2 (.inr (List.mem_append.2 (.inr (List.mem_flatMap.2 ⟨i, List.mem_range.2 hi, hx⟩))))
theorem In.keepBl {B : Nat → Prop} {w w' : World} {S : Sh} {M : Mx} (h : In B w S M) (hk : ∀ x ∈ bl S M, x < w.heap.size → w'.heap[x]? = w.heap[x]?) : In B w' S M :=
  ((h.ofBl (B' := fun x => x ∈ bl S M) (fun x hx => hx)).keep hk).ofBl (fun x hx => h.bl_mem x hx)

/-- of lists that are apart -/
theorem apart_of {f : Nat → List Nat} {m : Nat} (h : ((List.range m).flatMap f).Nodup) : (∀ i, i < m → (f i).Nodup) ∧ ∀ i j, i < m → j < m → i ≠ j → ∀ x ∈ f i, x ∉ f j := by
  rw [List.Nodup, List.pairwise_flatMap] at h
  obtain ⟨h1, h2⟩ := h
  refine ⟨fun i hi => h1 i (List.mem_range.2 hi), fun i j hi hj hne x hx hy => ?_⟩
  rw [List.pairwise_iff_getElem] at h2
  rcases Nat.lt_or_gt_of_ne hne with hlt | hlt
  · exact h2 i j (by simpa using hi) (by simpa using hj) hlt x (by simpa using hx) x (by simpa using hy) rfl
  · exact h2 j i (by simpa using hj) (by simpa using hi) hlt x (by simpa using hy) x (by simpa using hx) rfl
/-- a Rex in new memory, no two lists of which share any -/
def Own (lo : Nat) (w : World) (S : Sh) (M : Mx) : Prop := In (fun k => lo ≤ k ∧ Soft w k) w S M ∧ (bl S M).Nodup
theorem Own.below {lo : Nat} {w w' : World} {S : Sh} {M : Mx} (h : Own lo w S M) (hb : Below w.heap.size w w') : Own lo w' S M :=
  ⟨(h.1.below hb).mono (fun k hk => ⟨hk.1, hk.2.below hb⟩), h.2⟩
theorem Own.keep {lo : Nat} {w w' : World} {S : Sh} {M : Mx} (h : Own lo w S M) (hk : ∀ k, lo ≤ k → k < w.heap.size → w'.heap[k]? = w.heap[k]?) : Own lo w' S M :=
  ⟨(h.1.keep (fun k hB hlt => hk k hB.1 hlt)).mono (fun k hB => ⟨hB.1, hB.2.of_block (hk k hB.1 hB.2.lt)⟩), h.2⟩
theorem Own.any {lo : Nat} {w : World} {S : Sh} {M : Mx} (h : Own lo w S M) : In AnyB w S M := h.1.mono (fun _ _ => trivial)
theorem Own.mono {lo lo' : Nat} {w : World} {S : Sh} {M : Mx} (h : Own lo w S M) (hl : lo' ≤ lo) : Own lo' w S M := ⟨h.1.mono (fun k hk => ⟨by omega, hk.2⟩), h.2⟩
/-- the answer is that Rex, in new memory of its own -/
def OwnRes (S : Sh) (w : World) (e : Ending) (w' : World) : Prop := ∃ M, e = .returned (vx S M) ∧ Own w.heap.size w' S M ∧ Below w.heap.size w w'
end Go.Proofs.YtiphmmgfmiiilaaDoor

