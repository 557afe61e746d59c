/- The walk of l2Copy. -/
import Derived.Test.YtkbhljpdneibaaaDoorDl
import Derived.Test.YtkbhljpdneibaaaDoorTc
import Derived.Test.YtkbhljpdneibaaaDoorNa
import Derived.Deep.CutRange
namespace Go.Proofs.YtkbhljpdneibaaaDoor
open Go.RowKit
set_option linter.unusedVariables false
set_option linter.unusedSimpArgs false

/-- a list of kids, as K tells them, all apart -/
def KsOf (K : Nat → Sh) (ks : List (Sh × Mx)) : Prop := ks.map Prod.fst = (List.range ks.length).map K ∧ (ks.flatMap (fun q => bl q.1 q.2)).Nodup
theorem KsOf.nil (K : Nat → Sh) : KsOf K [] := ⟨rfl, List.nodup_nil⟩
theorem KsOf.push {K : Nat → Sh} {ks : List (Sh × Mx)} (h : KsOf K ks) {S : Sh} {M : Mx} (hS : S = K ks.length) (hn : (bl S M).Nodup) (hd : ∀ q ∈ ks, ∀ x ∈ bl q.1 q.2, x ∉ bl S M) : KsOf K (ks ++ [(S, M)]) := by
  refine ⟨?_, ?_⟩
  · rw [List.map_append, h.1, List.length_append, List.length_singleton, List.range_succ, List.map_append, hS]; rfl
  · rw [List.flatMap_append, List.nodup_append]
    refine ⟨h.2, by simpa using hn, fun x hx y hy e => ?_⟩
    obtain ⟨q, hq, hxq⟩ := List.mem_flatMap.1 hx
    simp at hy
    exact hd q hq x hxq (by rw [e]; exact hy)
theorem KsOf.at {K : Nat → Sh} {ks : List (Sh × Mx)} (h : KsOf K ks) {i : Nat} {p : Sh × Mx} (hi : ks[i]? = some p) : p.1 = K i := by
  have h1 := congrArg (fun l => l[i]?) h.1
  have hlt : i < ks.length := by
    rcases Nat.lt_or_ge i ks.length with h' | h'
    · exact h'
    · rw [List.getElem?_eq_none h'] at hi; cases hi
  simp only [List.getElem?_map, hi, List.getElem?_range hlt, Option.map_some] at h1
  exact Option.some.inj h1
theorem full_eq {K : Nat → Sh} {ks : List (Sh × Mx)} (h : KsOf K ks) (k : Int) (n : Nat) (L H : Nat → Int) {m : Nat} (hm : ks.length = m) : fullS k n L H ks = .mk k n L H m K := by
  subst hm
  simp only [fullS, Sh.mk]
  congr 1
  funext i
  obtain ⟨p, hp⟩ : ∃ p, ks[i.1]? = some p := ⟨_, List.getElem?_eq_getElem i.2⟩
  rw [hp]
  exact h.at hp
theorem flat_at {α : Type} (l : List α) (d : α) (f : α → List Nat) : (List.range l.length).flatMap (fun i => f ((l[i]?).getD d)) = l.flatMap f := by
  rw [List.flatMap_def, List.flatMap_def]
  congr 1
  refine List.ext_getElem (by simp) (fun i h1 h2 => ?_)
  simp at h1 h2
  simp [h2]
theorem full_bl (k : Int) (n : Nat) (L H : Nat → Int) (sv v : Value) (ks : List (Sh × Mx)) : bl (fullS k n L H ks) (fullM sv v ks) = (if 0 < n then [blk sv] else []) ++ ((if 0 < ks.length then [blk v] else []) ++ ks.flatMap (fun q => bl q.1 q.2)) := by
  rw [fullS, bl_mk, ← flat_at ks (leafS 0 0 (fun _ => 0) (fun _ => 0), Mx.no)]; rfl
theorem full_nodup {k : Int} {n : Nat} {L H : Nat → Int} {sb soff scap g0 c lo : Nat} {sa g : Option Addr} {ks : List (Sh × Mx)} {K : Nat → Sh} (hk : KsOf K ks) (hs : 0 < n → sa = some ⟨sb, soff, none⟩ ∧ sb < lo) (hg : ∀ x, gB g = some x → lo ≤ x) (hgs : 0 < ks.length → g = some ⟨g0, 0, none⟩)
    (hks : ∀ q ∈ ks, ∀ x ∈ bl q.1 q.2, lo ≤ x ∧ gB g ≠ some x) : (bl (fullS k n L H ks) (fullM (.slice sa n scap) (.slice g ks.length c) ks)).Nodup := by
  rw [full_bl, List.nodup_append, List.nodup_append]
  refine ⟨by split <;> simp, ⟨by split <;> simp, hk.2, fun x hx y hy e => ?_⟩, fun x hx y hy e => ?_⟩
  · split at hx
    · rename_i h0
      rw [hgs h0] at hx
      simp [blk] at hx
      obtain ⟨q, hq, hy⟩ := List.mem_flatMap.1 hy
      have := (hks q hq y hy).2
      rw [hgs h0, ← e, hx] at this
      exact this rfl
    · cases hx
  · split at hx
    · rename_i h0
      obtain ⟨e1, hlt⟩ := hs h0
      rw [e1] at hx
      simp [blk] at hx
      have hy' : lo ≤ y := by
        rcases List.mem_append.1 hy with hy | hy
        · split at hy
          · rename_i h1
            rw [hgs h1] at hy
            simp [blk] at hy
            rw [hy]
            exact hg g0 (by rw [hgs h1]; rfl)
          · cases hy
        · obtain ⟨q, hq, hy⟩ := List.mem_flatMap.1 hy
          exact (hks q hq y hy).1
      omega
    · cases hx

theorem box_fst (w : World) (o1 o2 : Obj) : ((w.alloc o1).alloc o2).drew.heap[w.heap.size]? = some o1 := by
  show ((w.heap.push o1).push o2)[w.heap.size]? = some o1
  simp [Array.getElem?_push]
theorem box_snd (w : World) (o1 o2 : Obj) : ((w.alloc o1).alloc o2).drew.heap[w.heap.size + 1]? = some o2 := by
  show ((w.heap.push o1).push o2)[w.heap.size + 1]? = some o2
  have h := Array.getElem?_push_size (xs := w.heap.push o1) (x := o2)
  rw [Array.size_push] at h
  exact h
/-- what a box holds -/
theorem boxed {w : World} {b : Nat} {u0 u1 u2 : Value} (h : w.heap[b]? = some (.cells #[u0, u1, u2] 26 (0, 0))) : Hid (w.heap[b]? = some (.cells #[u0, u1, u2] 26 (0, 0))) ∧ w.cell? ⟨b, 0, none⟩ = some u0 ∧ w.cell? ⟨b, 1, none⟩ = some u1 ∧ w.cell? ⟨b, 2, none⟩ = some u2 ∧ ∀ o, w.frozen? ⟨b, o, none⟩ = false :=
  ⟨h, by simp [World.cell?, h], by simp [World.cell?, h], by simp [World.cell?, h], fun o => by simp [World.frozen?, h]⟩

/-- behind the first statement of l2Copy: a box with the kind and the copied set -/
def CutR (kind : Int) (n : Nat) (L H : Nat → Int) (W0 : World) (s3 : Value) (wc : World) : Prop := ∃ (ob : Nat) (sv : Value), s3 = .pointer (some ⟨ob, 0, none⟩) ∧ W0.heap.size ≤ ob ∧ wc.heap[ob]? = some (.cells #[.int .i64 kind, sv, .slice none 0 0] 26 (0, 0)) ∧ SetIn (fun k => (W0.heap.size ≤ k ∧ Soft wc k) ∧ k ≠ ob) wc sv n L H ∧ Below W0.heap.size W0 wc
theorem CutR.new {kind : Int} {n : Nat} {L H : Nat → Int} {W0 w' : World} {v : Value} (hown : w'.ownsRow W0.heap.size 59 2 v n (cellsV (n, L, H))) (hb : Below W0.heap.size W0 w') : CutR kind n L H W0 (.pointer (some ⟨w'.heap.size, 0, none⟩)) (w'.alloc (.cells #[.int .i64 kind, v, .slice none 0 0] 26)) := by
  obtain ⟨a, b, off, cap, e, h1, h2⟩ := SetIn.of_cells hown
  refine ⟨w'.heap.size, v, rfl, hb.size, by show (w'.heap.push _)[w'.heap.size]? = _; simp, ⟨a, b, off, cap, e, fun h => ⟨(h1 h).1, ⟨(h1 h).2.1, (h1 h).2.2.below (below_new _ _)⟩, ?_⟩, h2.below (below_new _ _)⟩, hb.trans ((below_new _ _).mono hb.size)⟩
  have := (h1 h).2.2.lt
  omega
theorem CutR.old {kind : Int} {n : Nat} {L H : Nat → Int} {W0 w' : World} {v : Value} {ob : Nat} {u0 u1 u2 : Value} (hown : w'.ownsRow W0.heap.size 59 2 v n (cellsV (n, L, H))) (hb : Below W0.heap.size W0 w') (hob : W0.heap.size ≤ ob) (hbx : w'.heap[ob]? = some (.cells #[u0, u1, u2] 26 (0, 0))) :
    CutR kind n L H W0 (.pointer (some ⟨ob, 0, none⟩)) (((w'.setCell ⟨ob, 0, none⟩ (.int .i64 kind)).setCell ⟨ob, 1, none⟩ v).setCell ⟨ob, 2, none⟩ (.slice none 0 0)) := by
  have hset : (((w'.setCell ⟨ob, 0, none⟩ (.int .i64 kind)).setCell ⟨ob, 1, none⟩ v).setCell ⟨ob, 2, none⟩ (.slice none 0 0)).heap[ob]? = some (.cells #[.int .i64 kind, v, .slice none 0 0] 26 (0, 0)) := Rb.set3 ⟨u0, u1, u2, hbx, trivial⟩ _ _ _
  have hne : ∀ g n0 cap, v = .slice (some ⟨g, 0, none⟩) n0 cap → g ≠ ob := fun g n0 cap e eg => by
    rcases hown.2 with ⟨h, _⟩ | ⟨g1, cap1, cur, e1, _, h2, _⟩
    · rw [h] at e; cases e
    · rw [e1] at e
      simp only [Value.slice.injEq, Option.some.injEq, Addr.mk.injEq] at e
      obtain ⟨⟨rfl, _⟩, _⟩ := e
      subst eg
      rw [hbx] at h2
      simp at h2
  have hs : SetIn (fun k => (W0.heap.size ≤ k ∧ Soft w' k) ∧ k ≠ ob) w' v n L H := by
    rcases hown.2 with ⟨rfl, h0⟩ | ⟨g, cap, cur, rfl, h1, h2, h3, h4, h5, h6⟩
    · exact ⟨none, 0, 0, 0, by rw [h0], fun hh => by omega, fun i hi => by omega⟩
    · obtain ⟨a, b, off, cp, e, hh1, hh2⟩ := SetIn.of_cells hown
      refine ⟨a, b, off, cp, e, fun h => ⟨(hh1 h).1, (hh1 h).2, ?_⟩, hh2⟩
      have e2 := (hh1 h).1
      subst e2
      simp only [Value.slice.injEq, Option.some.injEq, Addr.mk.injEq] at e
      obtain ⟨⟨rfl, rfl, _⟩, _⟩ := e
      exact hne g _ _ rfl
  obtain ⟨a, b, off, cap, e, h1, h2⟩ := hs
  have hk3 : ∀ k, k ≠ ob → (((w'.setCell ⟨ob, 0, none⟩ (.int .i64 kind)).setCell ⟨ob, 1, none⟩ v).setCell ⟨ob, 2, none⟩ (.slice none 0 0)).heap[k]? = w'.heap[k]? := fun k hk => keep3 w' ob 0 1 2 _ _ _ hk
  refine ⟨ob, v, rfl, hob, hset, ⟨a, b, off, cap, e, fun h => ⟨(h1 h).1, ⟨(h1 h).2.1.1, (h1 h).2.1.2.of_block (hk3 b (h1 h).2.2)⟩, (h1 h).2.2⟩, h2.keep (B := fun k => k ≠ ob) (fun h => (h1 h).2.2) (fun k hk _ => hk3 k hk)⟩, ?_⟩
  exact ((hb.setCell hob _).setCell hob _).setCell hob _

set_option maxRecDepth 100000 in
set_option maxHeartbeats 4000000 in
theorem l2Copy_any (S : Sh) : ∀ (M : Mx) (w : World), In AnyB w S M → cnt S ≤ 2097152 → Calls Tryd.prog 37 #[vx S M] w (OwnRes S w) := by
  induction S using Sh.ind with
  | h kind n L H m K ih =>
    intro M w h hcnt
    obtain ⟨sv, kv, M, rfl⟩ := Mx.cases M
    obtain ⟨a, b, off, cap, a', b', off', cap', e1, hn, hs, hl, e2, hm, hl', hk⟩ := h
    obtain rfl : sv = _ := e1
    obtain rfl : kv = _ := e2
    simp only [Mx.mk_kid] at hk
    simp only [vx, Sh.mk_kind, Mx.mk_sv, Mx.mk_kv]
    simp only [cnt_mk] at hcnt
    obtain ⟨W0, hW0⟩ : ∃ W0, W0 = (w.alloc (.cells #[.int .i64 kind, .slice a n cap, .slice a' m cap'] 26)).alloc (.cells #[.int .i64 0, .slice none 0 0, .slice none 0 0] 26) := ⟨_, rfl⟩
    have hB0 : Below w.heap.size w W0 := by rw [hW0]; exact ((Below.refl _ _).alloc (Nat.le_refl _) _).alloc (by simp) _
    have hs0 : W0.heap.size = w.heap.size + 2 := by rw [hW0]; simp
    have x0 : W0.cell? ⟨w.heap.size, 0, none⟩ = some (.int .i64 kind) := by rw [hW0]; simp [go_sem]
    have x1 : W0.cell? ⟨w.heap.size, 1, none⟩ = some (.slice a n cap) := by rw [hW0]; simp [go_sem]
    have x2 : W0.cell? ⟨w.heap.size, 2, none⟩ = some (.slice a' m cap') := by rw [hW0]; simp [go_sem]
    have HSP : Hid (Sp W0 b off n L H) := hs.below hB0
    have HB0 : Hid (Below w.heap.size w W0) := hB0
    have hx : ∀ V, Below W0.heap.size W0 V → V.cell? ⟨w.heap.size, 0, none⟩ = some (.int .i64 kind) ∧ V.cell? ⟨w.heap.size, 1, none⟩ = some (.slice a n cap) ∧ V.cell? ⟨w.heap.size, 2, none⟩ = some (.slice a' m cap') := fun V hb =>
      ⟨(hb.cell (p := ⟨_, _, none⟩) (World.block_lt_of_cell? _ _ x0)).trans x0, (hb.cell (p := ⟨_, _, none⟩) (World.block_lt_of_cell? _ _ x1)).trans x1, (hb.cell (p := ⟨_, _, none⟩) (World.block_lt_of_cell? _ _ x2)).trans x2⟩
    have HX : Hid (∀ V, Below W0.heap.size W0 V → V.cell? ⟨w.heap.size, 0, none⟩ = some (.int .i64 kind) ∧ V.cell? ⟨w.heap.size, 1, none⟩ = some (.slice a n cap) ∧ V.cell? ⟨w.heap.size, 2, none⟩ = some (.slice a' m cap')) := hx
    have y0 : ∀ o, (W0.alloc o).cell? ⟨w.heap.size, 0, none⟩ = some (.int .i64 kind) := fun o => (hx _ (below_new _ _)).1
    have y1 : ∀ o, (W0.alloc o).cell? ⟨w.heap.size, 1, none⟩ = some (.slice a n cap) := fun o => (hx _ (below_new _ _)).2.1
    have z0 : ∀ o o', ((W0.alloc o).alloc o').cell? ⟨w.heap.size, 0, none⟩ = some (.int .i64 kind) := fun o o' => (hx _ ((below_new _ _).trans ((below_new _ _).mono (by rw [size_new]; omega)))).1
    have z1 : ∀ o o', ((W0.alloc o).alloc o').cell? ⟨w.heap.size, 1, none⟩ = some (.slice a n cap) := fun o o' => (hx _ ((below_new _ _).trans ((below_new _ _).mono (by rw [size_new]; omega)))).2.1
    have F1 : Hid ((W0.alloc (.cells #[] 59)).ownsRow W0.heap.size 59 2 (.slice (some ⟨W0.heap.size, 0, none⟩) 0 0) 0 []) := World.ownsRow_lit W0 #[] 0 (Nat.le_refl _) (by unfold maxLen; omega) rfl
    have F2 : Hid (((W0.alloc (.cells #[.int .i64 0, .slice none 0 0, .slice none 0 0] 26)).alloc (.cells #[] 59)).ownsRow W0.heap.size 59 2 (.slice (some ⟨W0.heap.size + 1, 0, none⟩) 0 0) 0 []) := by
      have h := World.ownsRow_lit (base := W0.heap.size) (e := 59) (size := 2) (W0.alloc (.cells #[.int .i64 0, .slice none 0 0, .slice none 0 0] 26)) #[] 0 (by rw [size_new]; omega) (by unfold maxLen; omega) rfl
      rw [size_new] at h
      exact h
    have F3 : Hid (((W0.alloc (.cells #[] 59)).alloc (.cells #[.int .i64 0, .slice none 0 0, .slice none 0 0] 26)).ownsRow W0.heap.size 59 2 (.slice (some ⟨W0.heap.size, 0, none⟩) 0 0) 0 []) := World.ownsRow.alloc F1.out _
    have HRB0 : Hid (Rb W0 (w.heap.size + 1)) := by
      rw [Hid, hW0]
      have := Rb.new (w.alloc (.cells #[.int .i64 kind, .slice a n cap, .slice a' m cap'] 26)) (.int .i64 0) (.slice none 0 0) (.slice none 0 0)
      rwa [size_new] at this
    have HHK : Hid (∀ i, i < m → Kid w b' (off' + i * 3) (K i) (M i) ∧ In AnyB w (K i) (M i)) := hk
    have HS0 : Hid (W0.heap.size = w.heap.size + 2) := hs0
    clear hB0 hs hk hx hs0
    go_enter Tryd.func37, Tryd.ntmps37
    go_wp2_with fail
    rw [← hW0]
    clear hW0
    go_cut [3] from 5 (fun s3 wc => CutR kind n L H W0 s3 wc)
    case first =>
      go_region_law (first
        | (refine step_copy rfl _ _ rfl W0.heap.size (.slice (some ⟨W0.heap.size, 0, none⟩) 0 0) rfl F1.out a b off cap n L H rfl (fun h => (hn h).1) (HSP.out.below (below_new _ _).drew) (by omega) (by simp) ?_; intro g' n' c' w' hown hgr; have T1 : True := trivial; have hbw : Below W0.heap.size W0 w' := ((below_new W0 (.cells #[] 59)).drew).grown hgr ((below_new W0 (.cells #[] 59)).drew).size (fun k hk => by simp [Value.ownBlock] at hk; omega); obtain ⟨p0, p1, p2⟩ := HX.out w' hbw; have q0 : ∀ o, (w'.alloc o).cell? ⟨w.heap.size, 0, none⟩ = some (.int .i64 kind) := fun o => (HX.out _ (hbw.trans ((below_new _ _).mono hbw.size))).1)
        | (refine step_copy rfl _ _ rfl W0.heap.size (.slice (some ⟨W0.heap.size + 1, 0, none⟩) 0 0) rfl F2.out a b off cap n L H rfl (fun h => (hn h).1) ((HSP.out.below (below_new _ _)).below (below_new _ _).drew) (by omega) (by simp; omega) ?_; intro g' n' c' w' hown hgr; have T2 : True := trivial; have hbw : Below W0.heap.size W0 w' := (((below_new W0 (.cells #[.int .i64 0, .slice none 0 0, .slice none 0 0] 26)).trans ((below_new (W0.alloc (.cells #[.int .i64 0, .slice none 0 0, .slice none 0 0] 26)) (.cells #[] 59)).mono (by rw [size_new]; omega))).drew).grown hgr (((below_new W0 (.cells #[.int .i64 0, .slice none 0 0, .slice none 0 0] 26)).trans ((below_new (W0.alloc (.cells #[.int .i64 0, .slice none 0 0, .slice none 0 0] 26)) (.cells #[] 59)).mono (by rw [size_new]; omega))).drew).size (fun k hk => by simp [Value.ownBlock] at hk; omega); obtain ⟨p0, p1, p2⟩ := HX.out w' hbw; have q0 : ∀ o, (w'.alloc o).cell? ⟨w.heap.size, 0, none⟩ = some (.int .i64 kind) := fun o => (HX.out _ (hbw.trans ((below_new _ _).mono hbw.size))).1; obtain ⟨HBX, c0, c1, c2, cf⟩ := boxed ((hgr.block W0.heap.size (by show _ < ((W0.alloc _).alloc _).heap.size; rw [size_new, size_new]; omega) (by simp [Value.ownBlock])).trans (box_fst _ _ _)))
        | (refine step_copy rfl _ _ rfl W0.heap.size (.slice (some ⟨W0.heap.size, 0, none⟩) 0 0) rfl F3.out a b off cap n L H rfl (fun h => (hn h).1) ((HSP.out.below (below_new _ _)).below (below_new _ _).drew) (by omega) (by simp; omega) ?_; intro g' n' c' w' hown hgr; have T3 : True := trivial; have hbw : Below W0.heap.size W0 w' := (((below_new W0 (.cells #[] 59)).trans ((below_new (W0.alloc (.cells #[] 59)) (.cells #[.int .i64 0, .slice none 0 0, .slice none 0 0] 26)).mono (by rw [size_new]; omega))).drew).grown hgr (((below_new W0 (.cells #[] 59)).trans ((below_new (W0.alloc (.cells #[] 59)) (.cells #[.int .i64 0, .slice none 0 0, .slice none 0 0] 26)).mono (by rw [size_new]; omega))).drew).size (fun k hk => by simp [Value.ownBlock] at hk; omega); obtain ⟨p0, p1, p2⟩ := HX.out w' hbw; have q0 : ∀ o, (w'.alloc o).cell? ⟨w.heap.size, 0, none⟩ = some (.int .i64 kind) := fun o => (HX.out _ (hbw.trans ((below_new _ _).mono hbw.size))).1; obtain ⟨HBX, c0, c1, c2, cf⟩ := boxed ((hgr.block (W0.heap.size + 1) (by show _ < ((W0.alloc _).alloc _).heap.size; rw [size_new, size_new]; omega) (by simp [Value.ownBlock])).trans (box_snd _ _ _))))
      all_goals go_wp2_with fail
      all_goals go_meet
      all_goals first
        | (have _t := T2; exact CutR.old hown hbw (Nat.le_refl _) HBX.out)
        | (have _t := T3; exact CutR.old hown hbw (Nat.le_succ _) HBX.out)
        | (have _t := T1; exact CutR.new hown hbw)
    case rest =>
      obtain ⟨ob, sv, rfl, hob, hbx, hset, hbw⟩ := hcut
      obtain ⟨sa, sb, soff, scap, rfl, hs1, hs2⟩ := hset
      have hobl : ob < wc.heap.size := by
        rcases Nat.lt_or_ge ob wc.heap.size with h' | h'
        · exact h'
        · simp [Array.getElem?_eq_none h'] at hbx
      have HKS0 : Hid (Ks wc ob wc.heap.size kind (.slice sa n scap) [] none 0 2097152) := ⟨hbx, World.ownsRow_nil _ _ _ _, fun q hq => (by cases hq), Nat.zero_le _, hobl⟩
      have HSET0 : Hid (SetIn (fun k => ((W0.heap.size ≤ k ∧ Soft wc k) ∧ k ≠ ob) ∧ k < wc.heap.size) wc (.slice sa n scap) n L H) := ⟨sa, sb, soff, scap, rfl, fun h => ⟨(hs1 h).1, (hs1 h).2, (hs1 h).2.1.2.lt⟩, hs2⟩
      have HBW : Hid (Below W0.heap.size W0 wc) := hbw
      clear x0 x1 x2 y0 y1 z0 z1 F1 F2 F3 HSP hbx hs1 hs2 hbw
      go_wp2_with fail
      go_loopg [4] m (fun gk ix wr => ∃ (ks : List (Sh × Mx)) (g : Option Addr) (c : Nat), ix = .int .i64 (ks.length : Int) ∧ gk = m - ks.length ∧ ks.length ≤ m ∧ Ks wr ob wc.heap.size kind (.slice sa n scap) ks g c 2097152 ∧ KsOf K ks ∧ SetIn (fun k => ((W0.heap.size ≤ k ∧ Soft wr k) ∧ k ≠ ob) ∧ k < wc.heap.size) wr (.slice sa n scap) n L H ∧ Below W0.heap.size W0 wr ∧ wc.heap.size ≤ wr.heap.size)
      case atStart => exact ⟨[], none, 0, rfl, rfl, Nat.zero_le _, HKS0.out, KsOf.nil K, HSET0.out, HBW.out, Nat.le_refl _⟩
      case round =>
        clear HKS0 HSET0 HBW
        obtain ⟨ks, g, c, rfl, rfl, hkl, hks, hsum, hset, hbw, hwcr0⟩ := hrel
        have WCR : Hid (wc.heap.size ≤ wr.drew.heap.size) := hwcr0
        have WCS : Hid (∀ w6, Below wr.drew.heap.size wr.drew w6 → wc.heap.size ≤ w6.heap.size) := fun w6 hb => Nat.le_trans hwcr0 hb.size
        clear hwcr0
        obtain ⟨v0, v1, v2, vf⟩ := hks.cells
        obtain ⟨p0, p1, p2⟩ := HX.out wr hbw
        by_cases hlt : ks.length < m
        · have hltz : (ks.length : Int) < (m : Int) := by omega
          have hi0 : (0 : Int) ≤ (ks.length : Int) := by omega
          obtain ⟨hga, _⟩ := hm (by omega)
          subst hga
          obtain ⟨⟨k0, k1, k2⟩, hink⟩ := HHK.out ks.length hlt
          have hbww : Below w.heap.size w wr := HB0.out.trans (hbw.mono HB0.out.size)
          obtain ⟨r1, r2, r3, r4, r5, r6, t1, t2⟩ := hink.slices
          have q0 : wr.cell? ⟨b', off' + ks.length * 3, none⟩ = some (.int .i64 (K ks.length).kind) := (hbww.cell (p := ⟨b', _, none⟩) (World.block_lt_of_cell? _ _ k0)).trans k0
          have q1 : wr.cell? ⟨b', off' + ks.length * 3 + 1, none⟩ = some (.slice r1 r2 r3) := (hbww.cell (p := ⟨b', _, none⟩) (World.block_lt_of_cell? _ _ k1)).trans (k1.trans (by rw [t1]))
          have q2 : wr.cell? ⟨b', off' + ks.length * 3 + 2, none⟩ = some (.slice r4 r5 r6) := (hbww.cell (p := ⟨b', _, none⟩) (World.block_lt_of_cell? _ _ k2)).trans (k2.trans (by rw [t2]))
          have hck : cnt (K ks.length) ≤ 2097152 := by have := sumN_at (f := fun i => cnt (K i)) hlt; omega
          have HC : Hid (Calls Tryd.prog 37 #[.agg #[.int .i64 (K ks.length).kind, .slice r1 r2 r3, .slice r4 r5 r6]] wr.drew (OwnRes (K ks.length) wr.drew)) := by
            have h := ih ks.length hlt (M ks.length) wr.drew ((hink.below hbww).below (Below.refl _ _).drew) hck
            rw [vx, t1, t2] at h
            exact h
          have HRET : Hid (∀ e w', OwnRes (K ks.length) wr.drew e w' → ∃ r, e = .returned r) := fun e w' ⟨M, he, _⟩ => ⟨_, he⟩
          have HKS : Hid (Ks wr.drew ob wc.heap.size kind (.slice sa n scap) ks g c 2097152) := hks.below (Below.refl _ _).drew
          have HSTEP : Hid (∀ r w6, OwnRes (K ks.length) wr.drew (.returned r) w6 → ∃ (S : Sh) (M : Mx) (sa' : Option Addr) (sn sc : Nat) (ka : Option Addr) (km kc : Nat), r = .agg #[.int .i64 S.kind, .slice sa' sn sc, .slice ka km kc] ∧ wc.heap.size ≤ w6.heap.size ∧
              Hid (Ks w6 ob wc.heap.size kind (.slice sa n scap) ks g c 2097152) ∧ Hid (Below W0.heap.size W0 w6) ∧
              Hid (∀ w7, (w6.alloc (.cells #[.int .i64 S.kind, .slice sa' sn sc, .slice ka km kc] 26)).grownBy w7 (Value.ownBlock (.slice g ks.length c)) → w7.cell? ⟨ob, 2, none⟩ = some (.slice g ks.length c) ∧ w7.frozen? ⟨ob, 2, none⟩ = false) ∧
              Hid (∀ g' c' w7, w7.ownsRow wc.heap.size 26 3 (.slice (some ⟨g', 0, none⟩) (ks.length + 1) c') (ks.length + 1) (encK ks ++ [.int .i64 S.kind, .slice sa' sn sc, .slice ka km kc]) → (w6.alloc (.cells #[.int .i64 S.kind, .slice sa' sn sc, .slice ka km kc] 26)).grownBy w7 (Value.ownBlock (.slice g ks.length c)) → (some g' = Value.ownBlock (.slice g ks.length c) ∨ g' = (w6.alloc (.cells #[.int .i64 S.kind, .slice sa' sn sc, .slice ka km kc] 26)).heap.size) →
                Hid (Ks (w7.setCell ⟨ob, 2, none⟩ (.slice (some ⟨g', 0, none⟩) (ks.length + 1) c')) ob wc.heap.size kind (.slice sa n scap) (ks ++ [(S, M)]) (some ⟨g', 0, none⟩) c' 2097152 ∧ KsOf K (ks ++ [(S, M)]) ∧ SetIn (fun k => ((W0.heap.size ≤ k ∧ Soft (w7.setCell ⟨ob, 2, none⟩ (.slice (some ⟨g', 0, none⟩) (ks.length + 1) c')) k) ∧ k ≠ ob) ∧ k < wc.heap.size) (w7.setCell ⟨ob, 2, none⟩ (.slice (some ⟨g', 0, none⟩) (ks.length + 1) c')) (.slice sa n scap) n L H ∧ Below W0.heap.size W0 (w7.setCell ⟨ob, 2, none⟩ (.slice (some ⟨g', 0, none⟩) (ks.length + 1) c')) ∧ wc.heap.size ≤ (w7.setCell ⟨ob, 2, none⟩ (.slice (some ⟨g', 0, none⟩) (ks.length + 1) c')).heap.size))) := by
            rintro r w6 ⟨M1, he, ⟨hin6, hnd6⟩, hb6⟩
            obtain ⟨S, hS⟩ : ∃ S, S = K ks.length := ⟨_, rfl⟩
            rw [← hS] at he hin6 hnd6
            have hc6 : cnt S ≤ 2097152 := by rw [hS]; exact hck
            obtain ⟨sa', sn, sc, ka, km, kc, es, ek⟩ := hin6.slices
            have hv : r = vx S M1 := Ending.returned.inj he
            have hk6 := HKS.out.below hb6
            obtain ⟨X, hX⟩ : ∃ X : Obj, X = .cells #[.int .i64 S.kind, .slice sa' sn sc, .slice ka km kc] 26 := ⟨_, rfl⟩
            have hka := hk6.below (below_new w6 X)
            have hsz6 : wr.drew.heap.size ≤ w6.heap.size := hb6.size
            have hbw6 : Below W0.heap.size W0 w6 := hbw.drew.trans (hb6.mono hbw.drew.size)
            have hwc6 : wc.heap.size ≤ w6.heap.size := WCS.out w6 hb6
            refine ⟨S, M1, sa', sn, sc, ka, km, kc, by rw [hv, vx, es, ek], hwc6, hk6, hbw6, fun w7 hgr => ?_, fun g' c' w7 hown hgr hloc => ?_⟩
            · rw [← hX] at hgr
              have hob7 : w7.heap[ob]? = (w6.alloc X).heap[ob]? := hgr.block _ hka.lt (fun e => by rw [gB_eq] at e; have := hka.glt _ e.symm; omega)
              have hbx := hob7.trans hka.box
              exact ⟨by simp [World.cell?, hbx], by simp [World.frozen?, hbx]⟩
            · rw [← hX] at hgr hloc
              have hfar : ∀ k, k < wc.heap.size → w7.heap[k]? = w6.heap[k]? := fun k hk => (hgr.block k (by rw [size_new]; omega) (fun e => by rw [gB_eq] at e; have := hka.glt _ e.symm; omega)).trans ((below_new w6 X).block k (by omega))
              have hin7 : In (fun x => (wc.heap.size ≤ x ∧ Soft (w6.alloc X) x) ∧ gB g ≠ some x) (w6.alloc X) S M1 := (hin6.below (below_new w6 X)).mono (fun x hx => ⟨⟨Nat.le_trans WCR.out hx.1, hx.2.below (below_new w6 X)⟩, fun e => by have := HKS.out.glt x e; omega⟩)
              have hown' : w7.ownsRow wc.heap.size 26 3 (.slice (some ⟨g', 0, none⟩) (ks.length + 1) c') (ks.length + 1) (encK ks ++ [.int .i64 S.kind, M1.sv, M1.kv]) := by rw [es, ek]; exact hown
              refine ⟨hka.push hin7 (by omega) hown' hgr hloc, ?_, ?_, ?_, by have h2 := hgr.size; rw [size_new] at h2; simp [World.setCell]; omega⟩
              · refine hsum.push hS hnd6 (fun q hq x hx hx2 => ?_)
                have h1 := ((hks.kids q hq).bl_mem x hx).1.2.lt
                have h2 := (hin6.bl_mem x hx2).1
                have h3 : wr.drew.heap.size = wr.heap.size := rfl
                omega
              · obtain ⟨a2, b2, o2, c2, e2, h1, h2⟩ := hset
                have hk7 : ∀ k, k ≠ ob → k < wc.heap.size → (w7.setCell ⟨ob, 2, none⟩ (.slice (some ⟨g', 0, none⟩) (ks.length + 1) c')).heap[k]? = wr.heap[k]? := fun k hk hlt' => (Below.heap_setCell _ _ _ _ hk).trans ((hfar k hlt').trans (hb6.block k (Nat.lt_of_lt_of_le hlt' WCR.out)))
                exact ⟨a2, b2, o2, c2, e2, fun h => ⟨(h1 h).1, ⟨⟨(h1 h).2.1.1.1, (h1 h).2.1.1.2.of_block (hk7 b2 (h1 h).2.1.2 (h1 h).2.2)⟩, (h1 h).2.1.2⟩, (h1 h).2.2⟩, h2.keep (B := fun k => k ≠ ob ∧ k < wc.heap.size) (fun h => ⟨(h1 h).2.1.2, (h1 h).2.2⟩) (fun k hk _ => hk7 k hk.1 hk.2)⟩
              · have hbx6 := hbw6.trans ((below_new w6 X).mono hbw6.size)
                exact (hbx6.grown hgr (by rw [size_new]; have := hbw6.size; omega) (fun k hk => by rw [gB_eq] at hk; have := hka.glt k hk; omega)).setCell hob _
          have HBW : Hid (Below W0.heap.size W0 wr) := hbw
          clear hks hset hbw k0 k1 k2 hink t1 t2 ih
          go_wp2_with fail
          go_region_law (first
            | (refine step_kid rfl _ _ rfl wc.heap.size ks.length g c (encK ks) rfl (HKS6.out.below (below_new _ _)).own w6.heap.size rfl (.int .i64 S.kind) (.slice sa' sn sc) (.slice ka km kc) (by simp [go_sem]) (by simp [go_sem]) (by simp [go_sem]) (by simp [Value.oneCell']) (by omega) (by simp; omega) ?_
               intro g' c' w7 hown' hgr hloc
               obtain ⟨s2, sf⟩ := HCELL.out w7 hgr
               have HPU := HPUSH.out g' c' w7 hown' hgr hloc
               clear hown' hgr hloc)
            | (refine step_call1 rfl 37 _ 26 rfl enters37 (.agg #[.int .i64 (K ks.length).kind, .slice r1 r2 r3, .slice r4 r5 r6]) rfl HC.out HRET.out ?_
               intro r w6 hres
               obtain ⟨S, M1, sa', sn, sc, ka, km, kc, hv6, hws6, HKS6, HBW6, HCELL, HPUSH⟩ := HSTEP.out r w6 hres
               clear hres
               subst hv6
               obtain ⟨e0, e1, e2, ef⟩ := HKS6.out.cells
               have e2a : ∀ o, (w6.alloc o).cell? ⟨ob, 2, none⟩ = some (.slice g ks.length c) := fun o => (HKS6.out.below (below_new _ _)).cells.2.2.1))
          all_goals go_wp2_with fail
          all_goals
            go_roundg (m - (ks.length + 1))
            case measure => omega
            case rel => exact ⟨ks ++ [(S, M1)], some ⟨g', 0, none⟩, c', by rw [List.length_append, List.length_singleton]; go_num, by rw [List.length_append, List.length_singleton], by rw [List.length_append, List.length_singleton]; omega, HPU.out.1, HPU.out.2.1, HPU.out.2.2.1, HPU.out.2.2.2.1, HPU.out.2.2.2.2⟩
        · have hltz : ¬ ((ks.length : Int) < (m : Int)) := by omega
          have hrb := HRB0.out.of_block (hbw.block _ HRB0.out.lt)
          obtain ⟨⟨b0', d0⟩, ⟨b1', d1⟩, ⟨b2', d2⟩, df⟩ := hrb.cells
          have hlen : ks.length = m := by omega
          have HEND : Hid (In (fun x => W0.heap.size ≤ x ∧ Soft wr x) wr (fullS kind n L H ks) (fullM (.slice sa n scap) (.slice g ks.length c) ks)) := by
            obtain ⟨a2, b2, o2, c2, e2, h1, h2⟩ := hset
            exact full_in (base := wc.heap.size) kind ⟨a2, b2, o2, c2, e2, fun h => ⟨(h1 h).1, (h1 h).2.1.1⟩, h2⟩ (by omega) (by omega) hks.own (fun q hq => (hks.kids q hq).mono (fun x hx => hx.1)) (by omega)
          have HND : Hid ((bl (fullS kind n L H ks) (fullM (.slice sa n scap) (.slice g ks.length c) ks)).Nodup) := by
            obtain ⟨a2, b2, o2, c2, e2, h1, h2⟩ := hset
            have hgs : ∃ g0, 0 < ks.length → g = some ⟨g0, 0, none⟩ := by
              rcases hks.own.2 with ⟨h, h0⟩ | ⟨g', cap', cur, e', _⟩
              · exact ⟨0, fun hh => by omega⟩
              · simp only [Value.slice.injEq] at e'
                exact ⟨g', fun _ => e'.1⟩
            obtain ⟨g0, hgs⟩ := hgs
            cases e2
            exact full_nodup (sb := b2) (soff := o2) (g0 := g0) (lo := wc.heap.size) hsum (fun h => ⟨(h1 h).1, (h1 h).2.2⟩) (fun x hx => (hks.glt x hx).1) hgs (fun q hq x hx => (fun hh => ⟨hh.1.1, hh.2⟩) ((hks.kids q hq).bl_mem x hx))
          have HFE : Hid (fullS kind n L H ks = .mk kind n L H m K) := full_eq hsum kind n L H hlen
          clear hlen
          have HBB : Hid (Below W0.heap.size W0 wr) := hbw
          clear hks hset hbw hrb hsum
          go_wp2_with fail
          refine bodyPost_ret (v := .agg #[.int .i64 kind, .slice sa n scap, .slice g ks.length c]) (by simp [results, Tryd.results37, go_sem, d0, d1, d2]) rfl ⟨fullM (.slice sa n scap) (.slice g ks.length c) ks, rfl, ⟨?_, ?_⟩, ?_⟩
          · rw [← HFE.out]
            exact (soft3 (b := w.heap.size + 1) (c := W0.heap.size) (by have := HS0.out; omega) _ _ _ HEND.out).mono (fun x hx => ⟨by omega, hx.2⟩)
          · rw [← HFE.out]; exact HND.out
          · have hb := HB0.out.trans (HBB.out.mono HB0.out.size)
            exact ((hb.setCell (by simp) _).setCell (by simp) _).setCell (by simp) _
end Go.Proofs.YtkbhljpdneibaaaDoor

