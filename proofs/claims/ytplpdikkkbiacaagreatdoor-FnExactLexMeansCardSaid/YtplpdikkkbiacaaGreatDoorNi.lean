/- The map of what was gone through: its keys are structs of a pointer and a number; how deep a Rex is; kidListOf. -/
import Derived.Test.YtplpdikkkbiacaaGreatDoorTe
import Derived.Test.YtplpdikkkbiacaaGreatDoorDl
import Derived.Deep.CutRange
import Derived.Test.YtplpdikkkbiacaaGreatDoorTf
import Derived.BigRegion
import Derived.Test.YtplpdikkkbiacaaGreatDoorTka
import Derived.Laws.StructEq
import Derived.LaidEql
import Derived.MapKept
import Derived.Maps.OwnOps
namespace Go.Proofs.YtplpdikkkbiacaaGreatDoor
open Go.RowKit
set_option linter.unusedVariables false
set_option linter.unusedSimpArgs false

/-- the kid at that place -/
def Sh.kidAt (S : Sh) (i : Nat) : Sh := if h : i < S.m then S.kids ⟨i, h⟩ else S
theorem Sh.kidAt_mk (kind : Int) (n : Nat) (L H : Nat → Int) (m : Nat) (K : Nat → Sh) {i : Nat} (hi : i < m) : (Sh.mk kind n L H m K).kidAt i = K i := by
  have h : i < (Sh.mk kind n L H m K).m := hi
  rw [Sh.kidAt, dif_pos h]; rfl

/-- the block of a slice -/
def blk : Value → Nat
  | .slice (some a) _ _ => a.block
  | _ => 0
/-- the blocks of the lists of a Rex -/
def bl : Sh → Mx → List Nat
  | .node _ n _ _ m kids, M => (if 0 < n then [blk M.sv] else []) ++ ((if 0 < m then [blk M.kv] else []) ++ (List.range m).flatMap (fun i => if hi : i < m then bl (kids ⟨i, hi⟩) (M.kid i) else []))
/-- those of the lists of its kids -/
def blK (S : Sh) (M : Mx) : List Nat := (if 0 < S.m then [blk M.kv] else []) ++ (List.range S.m).flatMap (fun i => bl (S.kidAt i) (M.kid i))
theorem flatMap_congr {f g : Nat → List Nat} {m : Nat} (h : ∀ i, i < m → f i = g i) : (List.range m).flatMap f = (List.range m).flatMap g := by
  rw [List.flatMap_def, List.flatMap_def, List.map_congr_left (fun i hi => h i (List.mem_range.1 hi))]
theorem bl_mk (kind : Int) (n : Nat) (L H : Nat → Int) (m : Nat) (K : Nat → Sh) (M : Mx) : bl (.mk kind n L H m K) M = (if 0 < n then [blk M.sv] else []) ++ ((if 0 < m then [blk M.kv] else []) ++ (List.range m).flatMap (fun i => bl (K i) (M.kid i))) := by
  simp only [Sh.mk, bl]
  rw [flatMap_congr (g := fun i => bl (K i) (M.kid i)) (fun i hi => by rw [dif_pos hi])]
theorem In.parts {B : Nat → Prop} {w : World} {S : Sh} {M : Mx} (h : In B w S M) : ∃ (a : Option Addr) (b off cap : Nat) (a' : Option Addr) (b' off' cap' : Nat),
      M.sv = .slice a S.n cap ∧ (0 < S.n → a = some ⟨b, off, none⟩ ∧ B b) ∧ Sp w b off S.n S.L S.H ∧ S.n ≤ 9223372036854775807 ∧
      M.kv = .slice a' S.m cap' ∧ (0 < S.m → a' = some ⟨b', off', none⟩ ∧ B b') ∧ S.m ≤ 9223372036854775807 ∧
      ∀ i, i < S.m → Kid w b' (off' + i * 3) (S.kidAt i) (M.kid i) ∧ In B w (S.kidAt i) (M.kid i) := by
  obtain ⟨kind, n, L, H, m, kids⟩ := S
  obtain ⟨a, b, off, cap, a', b', off', cap', e1, hn, hs, hl, e2, hm, hl', h⟩ := h
  refine ⟨a, b, off, cap, a', b', off', cap', e1, hn, hs, hl, e2, hm, hl', fun i hi => ?_⟩
  rw [Sh.kidAt, dif_pos hi]
  exact h i hi
theorem In.bl_mem {B : Nat → Prop} {w : World} {S : Sh} : ∀ {M : Mx}, In B w S M → ∀ x ∈ bl S M, B x := by
  induction S using Sh.ind with
  | h kind n L H m K ih =>
    rintro M ⟨a, b, off, cap, a', b', off', cap', e1, hn, hs, hl, e2, hm, hl', h⟩ x hx
    rw [bl_mk, List.mem_append, List.mem_append] at hx
    rcases hx with hx | hx | hx
    · split at hx
      · rename_i h0
        have := hn h0
        rw [List.mem_singleton.1 hx, e1, this.1]
        exact this.2
      · cases hx
    · split at hx
      · rename_i h0
        have := hm h0
        rw [List.mem_singleton.1 hx, e2, this.1]
        exact this.2
      · cases hx
    · obtain ⟨i, hi, hx⟩ := List.mem_flatMap.1 hx
      have hi := List.mem_range.1 hi
      exact ih i hi (h i hi).2 x hx
theorem In.ofBl {B B' : Nat → Prop} {w : World} {S : Sh} : ∀ {M : Mx}, In B w S M → (∀ x ∈ bl S M, B' x) → In B' w S M := by
  induction S using Sh.ind with
  | h kind n L H m K ih =>
    rintro M ⟨a, b, off, cap, a', b', off', cap', e1, hn, hs, hl, e2, hm, hl', h⟩ hB
    rw [bl_mk] at hB
    refine ⟨a, b, off, cap, a', b', off', cap', e1, fun h0 => ⟨(hn h0).1, hB b ?_⟩, hs, hl, e2, fun h0 => ⟨(hm h0).1, hB b' ?_⟩, hl', fun i hi => ⟨(h i hi).1, ih i hi (h i hi).2 (fun x hx => hB x ?_)⟩⟩
    · rw [if_pos h0, e1, (hn h0).1]; simp [blk]
    · rw [if_pos h0, e2, (hm h0).1]; simp [blk]
    · exact List.mem_append.2 (.inr (List.mem_append.2 (.inr (List.mem_flatMap.2 ⟨i, List.mem_range.2 hi, hx⟩))))
theorem In.keepBl {B : Nat → Prop} {w w' : World} {S : Sh} {M : Mx} (h : In B w S M) (hk : ∀ x ∈ bl S M, x < w.heap.size → w'.heap[x]? = w.heap[x]?) : In B w' S M :=
  ((h.ofBl (B' := fun x => x ∈ bl S M) (fun x hx => hx)).keep hk).ofBl (fun x hx => h.bl_mem x hx)

/-- a Rex in new memory, no two lists of which share any -/
def Own (lo : Nat) (w : World) (S : Sh) (M : Mx) : Prop := In (fun k => lo ≤ k ∧ Soft w k) w S M ∧ (bl S M).Nodup
theorem Own.below {lo : Nat} {w w' : World} {S : Sh} {M : Mx} (h : Own lo w S M) (hb : Below w.heap.size w w') : Own lo w' S M :=
  ⟨(h.1.below hb).mono (fun k hk => ⟨hk.1, hk.2.below hb⟩), h.2⟩
theorem Own.keep {lo : Nat} {w w' : World} {S : Sh} {M : Mx} (h : Own lo w S M) (hk : ∀ k, lo ≤ k → k < w.heap.size → w'.heap[k]? = w.heap[k]?) : Own lo w' S M :=
  ⟨(h.1.keep (fun k hB hlt => hk k hB.1 hlt)).mono (fun k hB => ⟨hB.1, hB.2.of_block (hk k hB.1 hB.2.lt)⟩), h.2⟩
theorem Own.any {lo : Nat} {w : World} {S : Sh} {M : Mx} (h : Own lo w S M) : In AnyB w S M := h.1.mono (fun _ _ => trivial)
theorem Own.mono {lo lo' : Nat} {w : World} {S : Sh} {M : Mx} (h : Own lo w S M) (hl : lo' ≤ lo) : Own lo' w S M := ⟨h.1.mono (fun k hk => ⟨by omega, hk.2⟩), h.2⟩
end Go.Proofs.YtplpdikkkbiacaaGreatDoor
namespace Go.Proofs.YtplpdikkkbiacaaGreatDoor
open Go.RowKit
set_option linter.unusedVariables false
set_option linter.unusedSimpArgs false

/-- a list of kids, as K tells them, all apart -/
def KsOf (K : Nat → Sh) (ks : List (Sh × Mx)) : Prop := ks.map Prod.fst = (List.range ks.length).map K ∧ (ks.flatMap (fun q => bl q.1 q.2)).Nodup
theorem KsOf.nil (K : Nat → Sh) : KsOf K [] := ⟨rfl, List.nodup_nil⟩
theorem KsOf.push {K : Nat → Sh} {ks : List (Sh × Mx)} (h : KsOf K ks) {S : Sh} {M : Mx} (hS : S = K ks.length) (hn : (bl S M).Nodup) (hd : ∀ q ∈ ks, ∀ x ∈ bl q.1 q.2, x ∉ bl S M) : KsOf K (ks ++ [(S, M)]) := by
  refine ⟨?_, ?_⟩
  · rw [List.map_append, h.1, List.length_append, List.length_singleton, List.range_succ, List.map_append, hS]; rfl
  · rw [List.flatMap_append, List.nodup_append]
    refine ⟨h.2, by simpa using hn, fun x hx y hy e => ?_⟩
    obtain ⟨q, hq, hxq⟩ := List.mem_flatMap.1 hx
    simp at hy
    exact hd q hq x hxq (by rw [e]; exact hy)
theorem KsOf.at {K : Nat → Sh} {ks : List (Sh × Mx)} (h : KsOf K ks) {i : Nat} {p : Sh × Mx} (hi : ks[i]? = some p) : p.1 = K i := by
  have h1 := congrArg (fun l => l[i]?) h.1
  have hlt : i < ks.length := by
    rcases Nat.lt_or_ge i ks.length with h' | h'
    · exact h'
    · rw [List.getElem?_eq_none h'] at hi; cases hi
  simp only [List.getElem?_map, hi, List.getElem?_range hlt, Option.map_some] at h1
  exact Option.some.inj h1
/-- behind the first statement of l2Copy: a box with the kind and the copied set -/
def CutR (kind : Int) (n : Nat) (L H : Nat → Int) (W0 : World) (s3 : Value) (wc : World) : Prop := ∃ (ob : Nat) (sv : Value), s3 = .pointer (some ⟨ob, 0, none⟩) ∧ W0.heap.size ≤ ob ∧ wc.heap[ob]? = some (.cells #[.int .i64 kind, sv, .slice none 0 0] 50 (0, 0)) ∧ SetIn (fun k => (W0.heap.size ≤ k ∧ Soft wc k) ∧ k ≠ ob) wc sv n L H ∧ Below W0.heap.size W0 wc
theorem CutR.new {kind : Int} {n : Nat} {L H : Nat → Int} {W0 w' : World} {v : Value} (hown : w'.ownsRow W0.heap.size 76 2 v n (cellsV (n, L, H))) (hb : Below W0.heap.size W0 w') : CutR kind n L H W0 (.pointer (some ⟨w'.heap.size, 0, none⟩)) (w'.alloc (.cells #[.int .i64 kind, v, .slice none 0 0] 50)) := by
  obtain ⟨a, b, off, cap, e, h1, h2⟩ := SetIn.of_cells hown
  refine ⟨w'.heap.size, v, rfl, hb.size, by show (w'.heap.push _)[w'.heap.size]? = _; simp, ⟨a, b, off, cap, e, fun h => ⟨(h1 h).1, ⟨(h1 h).2.1, (h1 h).2.2.below (below_new _ _)⟩, ?_⟩, h2.below (below_new _ _)⟩, hb.trans ((below_new _ _).mono hb.size)⟩
  have := (h1 h).2.2.lt
  omega
end Go.Proofs.YtplpdikkkbiacaaGreatDoor
namespace Go.Proofs.YtplpdikkkbiacaaGreatDoor
open Go.RowKit
set_option linter.unusedVariables false
set_option linter.unusedSimpArgs false

theorem cnt_at (S : Sh) : cnt S = S.n + S.m + sumN (fun i => cnt (S.kidAt i)) S.m := by
  obtain ⟨kind, n, L, H, m, kids⟩ := S
  simp only [cnt]
  rw [sumN_congr (g := fun i => cnt ((Sh.node kind n L H m kids).kidAt i)) (fun i hi => by rw [dif_pos hi, Sh.kidAt, dif_pos (show i < (Sh.node kind n L H m kids).m from hi)])]
end Go.Proofs.YtplpdikkkbiacaaGreatDoor
namespace Go.Proofs.YtplpdikkkbiacaaGreatDoor
open Go.RowKit Go.Shelf
set_option linter.unusedVariables false
set_option linter.unusedSimpArgs false

/-- a key -/
def keyV (k : Addr × Nat) : Value := .agg #[.pointer (some k.1), .int .i64 (k.2 : Int)]
/-- what a key tells lies in plain blocks -/
def KOk (w : World) (k : Addr × Nat) : Prop := Soft w k.1.block

/-- the map holds just these -/
def Km (w : World) (b : Nat) (ks : List ((Addr × Nat) × Nat)) : Prop := ∃ es c, w.heap[b]? = some (.map es c) ∧ es.toList.map (fun e => (e.key, e.val)) = ks.reverse.map (fun q => (keyV q.1, Value.int .i64 (q.2 : Int)))
theorem Km.of_block {w w' : World} {b : Nat} {ks : List ((Addr × Nat) × Nat)} (h : Km w b ks) (e : w'.heap[b]? = w.heap[b]?) : Km w' b ks := by
  obtain ⟨es, c, h1, h2⟩ := h
  exact ⟨es, c, e.trans h1, h2⟩
theorem Km.lt {w : World} {b : Nat} {ks : List ((Addr × Nat) × Nat)} (h : Km w b ks) : b < w.heap.size := by
  obtain ⟨es, c, h1, h2⟩ := h
  rcases Nat.lt_or_ge b w.heap.size with h' | h'
  · exact h'
  · simp [Array.getElem?_eq_none h'] at h1
theorem Km.below {w w' : World} {b : Nat} {ks : List ((Addr × Nat) × Nat)} (h : Km w b ks) (hb : Below w.heap.size w w') : Km w' b ks := h.of_block (hb.block b h.lt)
theorem Km.made (w : World) : Km (w.alloc (.map #[] 0)) w.heap.size [] := ⟨#[], 0, by show (w.heap.push _)[w.heap.size]? = _; simp, rfl⟩

/-- how many are around the deepest part -/
def maxN (f : Nat → Nat) : Nat → Nat
  | 0 => 0
  | k + 1 => max (maxN f k) (f k)
theorem maxN_congr {f g : Nat → Nat} : ∀ {m : Nat}, (∀ i, i < m → f i = g i) → maxN f m = maxN g m
  | 0, _ => rfl
  | m + 1, h => by simp only [maxN, maxN_congr (m := m) (fun i hi => h i (by omega)), h m (by omega)]
def hgt : Sh → Nat
  | .node _ _ _ _ m kids => maxN (fun i => if hi : i < m then 1 + hgt (kids ⟨i, hi⟩) else 0) m
theorem hgt_at (S : Sh) : hgt S = maxN (fun i => 1 + hgt (S.kidAt i)) S.m := by
  obtain ⟨kind, n, L, H, m, kids⟩ := S
  simp only [hgt]
  exact maxN_congr (fun i hi => by rw [dif_pos hi, Sh.kidAt, dif_pos (show i < (Sh.node kind n L H m kids).m from hi)])
/-- all parts are as they must be -/
def allB : Sh → Bool
  | .node kind n L H m kids => goodB kind n L H m && (List.range m).all fun i => if hi : i < m then allB (kids ⟨i, hi⟩) else true
theorem allB_at (S : Sh) : allB S = true ↔ goodS S = true ∧ ∀ i, i < S.m → allB (S.kidAt i) = true := by
  obtain ⟨kind, n, L, H, m, kids⟩ := S
  simp only [allB, Bool.and_eq_true, List.all_eq_true, List.mem_range]
  refine and_congr Iff.rfl ⟨fun h i hi => ?_, fun h i hi => ?_⟩
  · have := h i hi
    rw [dif_pos hi] at this
    rw [Sh.kidAt, dif_pos (show i < (Sh.node kind n L H m kids).m from hi)]
    exact this
  · have := h i hi
    rw [Sh.kidAt, dif_pos (show i < (Sh.node kind n L H m kids).m from hi)] at this
    rw [dif_pos hi]
    exact this
end Go.Proofs.YtplpdikkkbiacaaGreatDoor

