/- the walk of the program's RexSame -/
import Derived.Test.YtkjfhlfakoopnaaRe
import Derived.Deep.LoopGhost
import Derived.Deep.Cut
import Derived.Deep.CutRange
namespace Go.Proofs.Ytkjfhlfakoopnaa
open Go.RowKit
set_option linter.unusedVariables false
set_option linter.unusedSimpArgs false

/-- what the program knows between two rounds -/
def Know (w : World) (S T : Sh) (st keys : List Pr) : Prop := Inv S T st keys ∧ (∀ p ∈ st, PrOk w p) ∧ (∀ q ∈ keys, WasMet w q) ∧ total st ≤ 1048577

theorem Know.rest {w : World} {S T : Sh} {st keys : List Pr} {p : Pr} (h : Know w S T (st ++ [p]) keys) (hi : Inv S T st keys) : Know w S T st keys :=
  ⟨hi, fun x hx => h.2.1 x (by simp [hx]), h.2.2.1, by have := h.2.2.2; rw [total_append] at this; omega⟩
theorem Know.leaf {w : World} {S T : Sh} {st keys : List Pr} {p : Pr} (h : Know w S T (st ++ [p]) keys) (hr : rootB p.S p.T = true) (hm : p.S.m = 0) : Know w S T st keys := h.rest (h.1.leaf hr hm)
theorem Know.wasMet {w : World} {S T : Sh} {st keys : List Pr} {p : Pr} (h : Know w S T (st ++ [p]) keys) (hr : rootB p.S p.T = true) (hm : 0 < p.S.m) : WasMet w p := ⟨h.2.1 p (by simp), hm, (rootB_iff.1 hr).2.2⟩
theorem Know.met {w : World} {S T : Sh} {st keys : List Pr} {p : Pr} (h : Know w S T (st ++ [p]) keys) (hr : rootB p.S p.T = true) (hm : 0 < p.S.m) (hk : p.key ∈ keys.map Pr.key) : Know w S T st keys := by
  obtain ⟨q, hq, he⟩ := List.mem_map.1 hk
  obtain ⟨h1, h2⟩ := WasMet.kids (h.wasMet hr hm) (h.2.2.1 q hq) he
  exact h.rest (h.1.met hr hq h1 h2)
theorem Know.new {w : World} {S T : Sh} {st keys : List Pr} {p : Pr} (h : Know w S T (st ++ [p]) keys) (hr : rootB p.S p.T = true) (hm : 0 < p.S.m) : Know w S T (st ++ p.kids p.S.m) (p :: keys) := by
  have hmm := (rootB_iff.1 hr).2.2
  refine ⟨h.1.new hr, fun x hx => ?_, fun x hx => ?_, by have := total_pop st p; have := h.2.2.2; omega⟩
  · rcases List.mem_append.1 hx with hx | hx
    · exact h.2.1 x (by simp [hx])
    · obtain ⟨i, hi, rfl⟩ := Pr.kids_mem.1 hx
      exact (h.2.1 p (by simp)).kid hi (by omega)
  · rcases List.mem_cons.1 hx with rfl | hx
    · exact h.wasMet hr hm
    · exact h.2.2.1 x hx
theorem Stk.push {w : World} {base g c n i : Nat} {st : List Pr} {p : Pr} {vs : List Value} (h : w.ownsRow base 49 6 (.slice (some ⟨g, 0, none⟩) (n + 1) c) (n + 1) (encs (st ++ p.kids i) ++ vs)) (hn : n = (st ++ p.kids i).length) (hv : (p.kid i).enc = vs) : Stk w base g c (st ++ p.kids (i + 1)) := by
  subst hv
  have e : st ++ p.kids (i + 1) = (st ++ p.kids i) ++ [p.kid i] := by rw [Pr.kids_succ, List.append_assoc]
  rw [Stk, e, encs_append _ [p.kid i], encs_one, List.length_append, List.length_singleton, ← hn]
  exact h
theorem keep5 {wr wa w5 : World} {g : Nat} (hba : Below wr.heap.size wr wa) (hgr : wa.grownBy w5 (some g)) : ∀ k, k < wr.heap.size → k ≠ g → w5.heap[k]? = wr.heap[k]? :=
  fun k hk hne => (hgr.block k (Nat.lt_of_lt_of_le hk hba.size) (fun e => hne (Option.some.inj e))).trans (hba.block k hk)
/-- a box that holds a Rex -/
def Box (w : World) (b : Nat) (k : Int) (sv kv : Value) : Prop := w.heap[b]? = some (.cells #[.int .i64 k, sv, kv] 38 (0, 0))
theorem Box.cells {w : World} {b : Nat} {k : Int} {sv kv : Value} (h : Box w b k sv kv) : w.cell? ⟨b, 0, none⟩ = some (.int .i64 k) ∧ w.cell? ⟨b, 1, none⟩ = some sv ∧ w.cell? ⟨b, 2, none⟩ = some kv := by
  simp only [Box] at h
  simp [World.cell?, h]
theorem Box.lt {w : World} {b : Nat} {k : Int} {sv kv : Value} (h : Box w b k sv kv) : b < w.heap.size := World.block_lt_of_cell? _ _ h.cells.1
theorem Box.of_block {w w' : World} {b : Nat} {k : Int} {sv kv : Value} (h : Box w b k sv kv) (e : w'.heap[b]? = w.heap[b]?) : Box w' b k sv kv := e.trans h
theorem Box.below {w w' : World} {b : Nat} {k : Int} {sv kv : Value} (h : Box w b k sv kv) (hb : Below w.heap.size w w') : Box w' b k sv kv := h.of_block (hb.block _ h.lt)
theorem Box.ne {w : World} {b g : Nat} {k : Int} {sv kv : Value} (h : Box w b k sv kv) {cur : Array Value} (hg : w.heap[g]? = some (.cells cur 49 (0, 0))) : b ≠ g := by
  intro e
  subst e
  rw [Box, hg] at h
  simp at h
theorem box_fst (w : World) (o1 o2 : Obj) : ((w.alloc o1).alloc o2).drew.heap[w.heap.size]? = some o1 := by
  show ((w.heap.push o1).push o2)[w.heap.size]? = some o1
  simp [Array.getElem?_push]
theorem box_snd (w : World) (o1 o2 : Obj) : ((w.alloc o1).alloc o2).drew.heap[w.heap.size + 1]? = some o2 := by
  show ((w.heap.push o1).push o2)[w.heap.size + 1]? = some o2
  have h := Array.getElem?_push_size (xs := w.heap.push o1) (x := o2)
  rw [Array.size_push] at h
  exact h
theorem Stk.start (w : World) (S T : Sh) (M N : Mx) (base : Nat) (hb : base ≤ w.heap.size) : Stk (w.alloc (.cells #[.int .i64 S.kind, M.sv, M.kv, .int .i64 T.kind, N.sv, N.kv] 49)) base w.heap.size 1 [⟨S, M, T, N⟩] := by
  have h := World.ownsRow_lit (base := base) (e := 49) (size := 6) w #[.int .i64 S.kind, M.sv, M.kv, .int .i64 T.kind, N.sv, N.kv] 1 hb (by unfold maxLen; omega) rfl
  exact h

set_option maxRecDepth 100000 in
set_option maxHeartbeats 2000000 in
theorem implSame_any (S : Sh) (M : Mx) (T : Sh) (N : Mx) (w : World) (h : In (Soft w) w S M) (h' : In (Soft w) w T N) (hcS : cnt S ≤ 1048576) (hcT : cnt T ≤ 1048576) :
    Calls Try.prog 14 #[vx S M, vx T N] w fun e w' => e = .returned (.bool (sameR S T)) ∧ Below w.heap.size w w' := by
  obtain ⟨a, n, c, a', m, c', e1, e2⟩ := h.slices
  obtain ⟨b, k, d, b', j, d', f1, f2⟩ := h'.slices
  obtain ⟨W, hW⟩ : ∃ W, W = (((w.alloc (.cells #[.int .i64 S.kind, .slice a n c, .slice a' m c'] 38)).alloc (.cells #[.int .i64 T.kind, .slice b k d, .slice b' j d'] 38)).alloc (.cells #[.int .i64 S.kind, .slice a n c, .slice a' m c', .int .i64 T.kind, .slice b k d, .slice b' j d'] 49)).alloc (.map #[] 0) := ⟨_, rfl⟩
  have HB : Hid (Below w.heap.size w W) := by rw [Hid, hW]; exact ((((Below.refl _ _).alloc (Nat.le_refl _) _).alloc (by simp) _).alloc (by simp; omega) _).alloc (by simp; omega) _
  have HS : Hid (Stk W w.heap.size (w.heap.size + 2) 1 [⟨S, M, T, N⟩]) := by
    have h1 := Stk.start ((w.alloc (.cells #[.int .i64 S.kind, .slice a n c, .slice a' m c'] 38)).alloc (.cells #[.int .i64 T.kind, .slice b k d, .slice b' j d'] 38)) S T M N w.heap.size (by simp; omega)
    rw [e1, e2, f1, f2] at h1
    rw [Hid, hW]
    have h2 := World.ownsRow.alloc h1 (.map #[] 0)
    simpa [Stk] using h2
  have HM : Hid (Km W (w.heap.size + 1 + 1 + 1) []) := by
    have h1 := Km.made (((w.alloc (.cells #[.int .i64 S.kind, .slice a n c, .slice a' m c'] 38)).alloc (.cells #[.int .i64 T.kind, .slice b k d, .slice b' j d'] 38)).alloc (.cells #[.int .i64 S.kind, .slice a n c, .slice a' m c', .int .i64 T.kind, .slice b k d, .slice b' j d'] 49))
    rw [Hid, hW]
    simpa using h1
  have HK : Hid (Know w S T [⟨S, M, T, N⟩] []) := ⟨Inv.start S T M N, fun p hp => by rw [List.mem_singleton.1 hp]; exact ⟨h, h', hcS, hcT⟩, fun q hq => (by cases hq), by simp only [total]; omega⟩
  rw [vx, vx, e1, e2, f1, f2]
  have hmm : ∀ V : World, (Instr.makeMap 51 none).run Try.prog V = .ok (.map (some V.heap.size)) (V.alloc (.map #[] 0)) := fun V => by simp [Instr.makeMap]
  clear h h' hcS hcT e1 e2 f1 f2
  go_enter Try.func14, Try.ntmps14
  go_wp2_with fail
  rw [← hW]
  clear hW hmm
  go_loopg [5] (total [⟨S, M, T, N⟩]) (fun gk o wr => ∃ (st keys : List Pr) (g cc : Nat), gk = total st ∧ o = .slice (some ⟨g, 0, none⟩) st.length cc ∧ Stk wr w.heap.size g cc st ∧ Km wr (w.heap.size + 1 + 1 + 1) (keys.map Pr.key) ∧ Know w S T st keys ∧ Below w.heap.size w wr)
  case atStart => exact ⟨[⟨S, M, T, N⟩], [], w.heap.size + 2, 1, rfl, rfl, HS.out, HM.out, HK.out, HB.out⟩
  case round =>
    obtain ⟨st, keys, g, cc, rfl, rfl, hst, hkm, hkn, hB⟩ := hrel
    rcases List.eq_nil_or_concat st with rfl | ⟨st, p, rfl⟩
    · have HR : Hid (sameR S T = true) := hkn.1.done
      go_wp2_with fail
      go_ret
      exact ⟨ret_bool HR.out.symm, hB⟩
    · rw [List.concat_eq_append] at *
      obtain ⟨q, hq⟩ : ∃ q, q = st.length := ⟨_, rfl⟩
      have hq1 : (st ++ [p]).length = q + 1 := by simp [hq]
      rw [hq1]
      have hpo := hkn.2.1 p (by simp)
      obtain ⟨pa, pb, pff, pc, pa', pb', pff', pc', s1, s2, s3, s4, s5, s6, s7, s8⟩ := hpo.1.parts
      obtain ⟨ta, tb, tff, tc, ta', tb', tff', tc', t1, t2, t3, t4, t5, t6, t7, t8⟩ := hpo.2.1.parts
      have c0 := hst.top 0 (by omega)
      have c1 := hst.top 1 (by omega)
      have c2 := hst.top 2 (by omega)
      have c3 := hst.top 3 (by omega)
      have c4 := hst.top 4 (by omega)
      have c5 := hst.top 5 (by omega)
      simp only [Pr.enc, s1, s5, t1, t5, ← hq, List.getElem?_cons_zero, List.getElem?_cons_succ, Nat.add_zero] at c0 c1 c2 c3 c4 c5
      obtain ⟨_, hcap, hcm, cur, hgb⟩ := hst.block
      have SETS : Hid (∀ V, Below w.heap.size w V → Calls Try.prog 19 #[.slice pa p.S.n pc, .slice ta p.T.n tc] V fun e w' => e = .returned (.bool (eqB p.S.n p.S.L p.S.H p.T.n p.T.L p.T.H)) ∧ Below V.heap.size V w') := fun V hV => by
        have hc1 := hpo.2.2.1
        have hc2 := hpo.2.2.2
        rw [cnt_at] at hc1 hc2
        exact implSetSame_any pa ta pb pff pc p.S.n tb tff tc p.T.n p.S.L p.S.H p.T.L p.T.H V (fun h => (s2 h).1) (s3.below hV) (fun h => (t2 h).1) (t3.below hV) (by omega) (by omega)
      have hqc : q + 1 ≤ cc := by rw [hq1] at hcap; exact hcap
      have hqb : q ≤ 1048577 := by have := total_len st; have := hkn.2.2.2; rw [total_append] at this; omega
      unfold maxLen at hcm
      have HQ : Hid (q = st.length) := hq
      have HPA : Hid (0 < p.S.m → pa' = some ⟨pb', pff', none⟩) := fun h => (s6 h).1
      have HTA : Hid (0 < p.T.m → ta' = some ⟨tb', tff', none⟩) := fun h => (t6 h).1
      have HKEY : Hid (p.key = (addrOf (.slice pa' p.S.m pc'), addrOf (.slice ta' p.T.m tc'), p.S.m)) := by rw [Hid, Pr.key, s5, t5]
      have HKID : Hid (∀ i V, i < p.S.m → i < p.T.m → Below w.heap.size w V → ∃ (k0 k1 : Int) (a0 b0 a1 b1 : Option Addr) (n0 c0 m0 d0 n1 c1 m1 d1 : Nat),
          V.cell? ⟨pb', pff' + i * 3, none⟩ = some (.int .i64 k0) ∧ V.cell? ⟨pb', pff' + i * 3 + 1, none⟩ = some (.slice a0 n0 c0) ∧ V.cell? ⟨pb', pff' + i * 3 + 2, none⟩ = some (.slice b0 m0 d0) ∧
          V.cell? ⟨tb', tff' + i * 3, none⟩ = some (.int .i64 k1) ∧ V.cell? ⟨tb', tff' + i * 3 + 1, none⟩ = some (.slice a1 n1 c1) ∧ V.cell? ⟨tb', tff' + i * 3 + 2, none⟩ = some (.slice b1 m1 d1) ∧
          Hid ((p.kid i).enc = [.int .i64 k0, .slice a0 n0 c0, .slice b0 m0 d0, .int .i64 k1, .slice a1 n1 c1, .slice b1 m1 d1])) := fun i V hi hj hb => by
        obtain ⟨⟨p0, p1, p2⟩, hin⟩ := s8 i hi
        obtain ⟨⟨q0, q1, q2⟩, gin⟩ := t8 i hj
        obtain ⟨r1, r2, r3, r4, r5, r6, z1, z2⟩ := hin.slices
        obtain ⟨v1, v2, v3, v4, v5, v6, u1, u2⟩ := gin.slices
        exact ⟨_, _, _, _, _, _, _, _, _, _, _, _, _, _, (hb.cell (p := ⟨pb', _, none⟩) (World.block_lt_of_cell? _ _ p0)).trans p0, (hb.cell (p := ⟨pb', _, none⟩) (World.block_lt_of_cell? _ _ p1)).trans (p1.trans (by rw [z1])), (hb.cell (p := ⟨pb', _, none⟩) (World.block_lt_of_cell? _ _ p2)).trans (p2.trans (by rw [z2])),
          (hb.cell (p := ⟨tb', _, none⟩) (World.block_lt_of_cell? _ _ q0)).trans q0, (hb.cell (p := ⟨tb', _, none⟩) (World.block_lt_of_cell? _ _ q1)).trans (q1.trans (by rw [u1])), (hb.cell (p := ⟨tb', _, none⟩) (World.block_lt_of_cell? _ _ q2)).trans (q2.trans (by rw [u2])), by rw [Hid, Pr.enc, Pr.kid, z1, z2, u1, u2]⟩
      clear s2 s3 s4 s6 s7 s8 t2 t3 t4 t6 t7 t8 hq hq1 s1 s5 t1 t5 hcap hgb
      have hgl : g < wr.heap.size := hst.lt
      have i1 : (0 : Int) ≤ (q : Int) := by omega
      have i2 : (q : Int) < ((q + 1 : Nat) : Int) := by omega
      have i3 : (q : Int) < (q : Int) + 1 := by omega
      have i4 : (q : Int) + 1 - 1 = (q : Int) := by omega
      have i5 : ((q + 1 : Nat) : Int) - 1 < ((q + 1 : Nat) : Int) := by omega
      have i6 : (0 : Int) ≤ ((q + 1 : Nat) : Int) - 1 := by omega
      have hg1 : ¬ g = wr.heap.size := by omega
      have hg2 : ¬ g = wr.heap.size + 1 := by omega
      go_wp2_with fail
      go_cut [7, 8] from 18 to 106 (fun x y wc => ∃ bx bY : Nat, x = .pointer (some ⟨bx, 0, none⟩) ∧ y = .pointer (some ⟨bY, 0, none⟩) ∧ Box wc bx p.S.kind (.slice pa p.S.n pc) (.slice pa' p.S.m pc') ∧ Box wc bY p.T.kind (.slice ta p.T.n tc) (.slice ta' p.T.m tc') ∧ Below wr.heap.size wr wc)
      case first =>
        go_region
        all_goals go_wp2_with fail
        all_goals go_meet
        case rel => exact ⟨_, _, rfl, rfl, box_fst _ _ _, box_snd _ _ _, (((Below.refl _ _).alloc (Nat.le_refl _) _).alloc (by simp) _).drew⟩
        case rel => exact ⟨_, _, rfl, rfl, box_snd _ _ _, box_fst _ _ _, (((Below.refl _ _).alloc (Nat.le_refl _) _).alloc (by simp) _).drew⟩
      case rest =>
        obtain ⟨bx, bY, rfl, rfl, hx, hy, hbw⟩ := hcut
        have HBX : Hid (Box wc bx p.S.kind (.slice pa p.S.n pc) (.slice pa' p.S.m pc')) := hx
        have HBY : Hid (Box wc bY p.T.kind (.slice ta p.T.n tc) (.slice ta' p.T.m tc')) := hy
        obtain ⟨x0, x1, x2⟩ := hx.cells
        obtain ⟨y0, y1, y2⟩ := hy.cells
        have hB2 : Below w.heap.size w wc := hB.trans (hbw.mono hB.size)
        have H14 : Hid (Calls Try.prog 19 #[.slice pa p.S.n pc, .slice ta p.T.n tc] wc fun e w' => e = .returned (.bool (eqB p.S.n p.S.L p.S.H p.T.n p.T.L p.T.H)) ∧ Below wc.heap.size wc w') := SETS.out wc hB2
        have HKN : Hid (Know w S T (st ++ [p]) keys) := hkn
        have HST2 : Hid (Stk wc w.heap.size g cc (st ++ [p])) := hst.below hbw
        have HKM2 : Hid (Km wc (w.heap.size + 1 + 1 + 1) (keys.map Pr.key)) := hkm.below hbw
        have hl1 : (0 : Int) ≤ (q : Int) := by omega
        have hl2 : (q : Int) ≤ (cc : Int) := by omega
        clear c0 c1 c2 c3 c4 c5 hx hy hst hkm hkn hg1 hg2 hgl
        by_cases hkk : p.S.kind = p.T.kind
        · have hb1 : (p.S.kind != p.T.kind) = false := by simp [hkk]
          rcases Bool.eq_false_or_eq_true (eqB p.S.n p.S.L p.S.H p.T.n p.T.L p.T.H) with he | he
          · by_cases hmm : p.S.m = p.T.m
            · have HRT : Hid (rootB p.S p.T = true) := by rw [Hid, rootB, he]; simp [hkk, hmm]
              rw [he] at H14
              rw [← hmm] at y2 HBY HKID HTA
              have HMM : Hid (p.S.m = p.T.m) := hmm
              clear hkk he hmm
              by_cases h0 : p.S.m = 0
              · have HKN3 : Hid (Know w S T st keys) := HKN.out.leaf HRT.out h0
                go_wp2_with fail
                refine H14.out.mono ?_
                rintro e w1 ⟨rfl, hb1⟩
                have x2' : w1.cell? ⟨bx, 2, none⟩ = some (.slice pa' p.S.m pc') := (hb1.cell (p := ⟨bx, 2, none⟩) HBX.out.lt).trans x2
                have y2' : w1.cell? ⟨bY, 2, none⟩ = some (.slice ta' p.S.m tc') := (hb1.cell (p := ⟨bY, 2, none⟩) HBY.out.lt).trans y2
                clear x0 x1 x2 y0 y1 y2
                go_wp2_with fail
                go_roundg (total st)
                case measure => rw [total_append, total_one]; omega
                case rel => exact ⟨st, keys, g, cc, rfl, by rw [HQ.out], (HST2.out.pop).below hb1, HKM2.out.below hb1, HKN3.out, hB2.trans (hb1.mono hB2.size)⟩
              · have hm0 : 0 < p.S.m := by omega
                have ga := HPA.out hm0
                have gc := HTA.out hm0
                subst ga gc
                have hm1 : (0 : Int) < (p.S.m : Int) := by omega
                have hm2 : ((p.S.m : Int) == 0) = false := by simp; omega
                go_wp2_with fail
                refine H14.out.mono ?_
                rintro e w1 ⟨rfl, hb1⟩
                have x2' : w1.cell? ⟨bx, 2, none⟩ = some (.slice (some ⟨pb', pff', none⟩) p.S.m pc') := (hb1.cell (p := ⟨bx, 2, none⟩) HBX.out.lt).trans x2
                have y2' : w1.cell? ⟨bY, 2, none⟩ = some (.slice (some ⟨tb', tff', none⟩) p.S.m tc') := (hb1.cell (p := ⟨bY, 2, none⟩) HBY.out.lt).trans y2
                clear x0 x1 x2 y0 y1 y2
                have hB3 : Below w.heap.size w w1 := hB2.trans (hb1.mono hB2.size)
                have x2a : ∀ o, (w1.alloc o).cell? ⟨bx, 2, none⟩ = some (.slice (some ⟨pb', pff', none⟩) p.S.m pc') := fun o => (((Below.refl _ _).alloc (Nat.le_refl _) _).cell (p := ⟨bx, 2, none⟩) (World.block_lt_of_cell? _ _ x2')).trans x2'
                have y2a : ∀ o, (w1.alloc o).cell? ⟨bY, 2, none⟩ = some (.slice (some ⟨tb', tff', none⟩) p.S.m tc') := fun o => (((Below.refl _ _).alloc (Nat.le_refl _) _).cell (p := ⟨bY, 2, none⟩) (World.block_lt_of_cell? _ _ y2')).trans y2'
                obtain ⟨KO, hKO⟩ : ∃ KO : Obj, KO = .cells #[.pointer (some ⟨pb', pff', none⟩), .pointer (some ⟨tb', tff', none⟩), .int .i64 (p.S.m : Int)] 54 := ⟨_, rfl⟩
                have hbk : Below w1.heap.size w1 (w1.alloc KO).drew := ((Below.refl _ _).alloc (Nat.le_refl _) _).drew
                have hbz : Below w1.heap.size w1 ((w1.alloc KO).alloc (.cells #[] 55)).drew := (((Below.refl _ _).alloc (Nat.le_refl _) _).alloc (by simp) _).drew
                have hkey : keyV p.key = .agg #[.pointer (some ⟨pb', pff', none⟩), .pointer (some ⟨tb', tff', none⟩), .int .i64 (p.S.m : Int)] := by rw [HKEY.out]; rfl
                have hall : ∀ V, Below w.heap.size w V → ∀ x ∈ keys.map Pr.key, KOk V x := fun V hV x hx => by
                  obtain ⟨y, hy, rfl⟩ := List.mem_map.1 hx
                  exact (HKN.out.2.2.1 y hy).key hV
                have hone : ∀ V, Below w.heap.size w V → KOk V p.key := fun V hV => (HKN.out.wasMet HRT.out hm0).key hV
                have hlk := Km.look ((HKM2.out.below hb1).below hbk) (hall _ (hB3.trans (hbk.mono hB3.size))) (hone _ (hB3.trans (hbk.mono hB3.size)))
                rw [hkey, hKO] at hlk
                by_cases hin : p.key ∈ keys.map Pr.key
                · have HKN3 : Hid (Know w S T st keys) := HKN.out.met HRT.out hm0 hin
                  rw [decide_eq_true hin] at hlk
                  rw [hKO] at hbz
                  clear hkey hall hone hin hbk hKO KO
                  go_wp2_with fail
                  go_region
                  go_wp2_with fail
                  go_roundg (total st)
                  case measure => rw [total_append, total_one]; omega
                  case rel => exact ⟨st, keys, g, cc, rfl, by rw [HQ.out], ((HST2.out.pop).below hb1).below hbz, (HKM2.out.below hb1).below hbz, HKN3.out, hB3.trans (hbz.mono hB3.size)⟩
                · have HKN3 : Hid (Know w S T (st ++ p.kids p.S.m) (p :: keys)) := HKN.out.new HRT.out hm0
                  obtain ⟨w2, hup, hkm2, hgr⟩ := Km.put ((HKM2.out.below hb1).below hbz) (hall _ (hB3.trans (hbz.mono hB3.size))) (hone _ (hB3.trans (hbz.mono hB3.size))) hin
                  rw [decide_eq_false hin] at hlk
                  rw [hkey] at hup
                  rw [hKO] at hup hgr hbz
                  clear hkey hall hone hin hbk hKO KO
                  obtain ⟨_, _, _, cur2, hcur⟩ := ((HST2.out.pop.below hb1).below hbz).block
                  have hkb := (HKM2.out.below hb1).below hbz
                  have hne : w.heap.size + 1 + 1 + 1 ≠ g := hkb.not_cells hcur
                  have hnx : w.heap.size + 1 + 1 + 1 ≠ bx := hkb.not_cells ((HBX.out.below hb1).below hbz)
                  have hny : w.heap.size + 1 + 1 + 1 ≠ bY := hkb.not_cells ((HBY.out.below hb1).below hbz)
                  have HX2 : Hid (Box w2 bx p.S.kind (.slice pa p.S.n pc) (.slice (some ⟨pb', pff', none⟩) p.S.m pc')) := ((HBX.out.below hb1).below hbz).of_block (hgr.block bx ((HBX.out.below hb1).below hbz).lt (fun e => hnx (Option.some.inj e).symm))
                  have HY2 : Hid (Box w2 bY p.T.kind (.slice ta p.T.n tc) (.slice (some ⟨tb', tff', none⟩) p.S.m tc')) := ((HBY.out.below hb1).below hbz).of_block (hgr.block bY ((HBY.out.below hb1).below hbz).lt (fun e => hny (Option.some.inj e).symm))
                  have HS2 : Hid (Stk w2 w.heap.size g cc st) := ((HST2.out.pop.below hb1).below hbz).of_block (hgr.block g ((HST2.out.pop.below hb1).below hbz).lt (fun e => hne (Option.some.inj e).symm))
                  have HK4 : Hid (Km w2 (w.heap.size + 1 + 1 + 1) ((p :: keys).map Pr.key)) := hkm2
                  have HB4 : Hid (Below w.heap.size w w2) := (hB3.trans (hbz.mono hB3.size)).grown hgr (hB3.trans (hbz.mono hB3.size)).size (fun k hk => by cases hk; omega)
                  obtain ⟨_, _, x2''⟩ := HX2.out.cells
                  clear hgr hkm2 hcur hkb hne hnx hny hbz hB3 hb1 hB2 hbw HBX HBY HST2 HKM2 H14
                  go_wp2_with fail
                  go_region
                  go_wp2_with fail
                  clear x2' y2' x2'' x2a y2a hlk hup
                  go_loopg [5, 89] p.S.m (fun gk o ix wr => ∃ (k g c : Nat), k ≤ p.S.m ∧ gk = p.S.m - k ∧ ix = .int .i64 k ∧ o = .slice (some ⟨g, 0, none⟩) (q + k) c ∧ Stk wr w.heap.size g c (st ++ p.kids k) ∧ Km wr (w.heap.size + 1 + 1 + 1) ((p :: keys).map Pr.key) ∧
                    Box wr bx p.S.kind (.slice pa p.S.n pc) (.slice (some ⟨pb', pff', none⟩) p.S.m pc') ∧ Box wr bY p.T.kind (.slice ta p.T.n tc) (.slice (some ⟨tb', tff', none⟩) p.S.m tc') ∧ Below w.heap.size w wr)
                  case atStart => exact ⟨0, g, cc, Nat.zero_le _, rfl, rfl, rfl, by simpa [Pr.kids] using HS2.out, HK4.out, HX2.out, HY2.out, HB4.out⟩
                  case round =>
                    clear HX2 HY2 HS2 HK4 HB4
                    obtain ⟨i, g2, c2, hi, rfl, rfl, rfl, hst, hkm, hbx, hby, hB5⟩ := hrel
                    by_cases hlt : i < p.S.m
                    · have hltz : (i : Int) < (p.S.m : Int) := by omega
                      have hi0 : (0 : Int) ≤ (i : Int) := by omega
                      obtain ⟨_, _, x2⟩ := hbx.cells
                      obtain ⟨_, _, y2⟩ := hby.cells
                      obtain ⟨k0, k1, a0, b0, a1, b1, n0, c0, m0, d0, n1, c1, m1, d1, p0, p1, p2, q0, q1, q2, HENC⟩ := HKID.out i wr hlt hlt hB5
                      have HOW : Hid (wr.ownsRow w.heap.size 49 6 (.slice (some ⟨g2, 0, none⟩) (q + i) c2) (q + i) (encs (st ++ p.kids i))) := by
                        have h := hst
                        rw [Stk, List.length_append, Pr.kids_len, ← HQ.out] at h
                        exact h
                      obtain ⟨_, _, _, cur3, hcur⟩ := hst.block
                      have HCUR : Hid (wr.heap[g2]? = some (.cells cur3 49 (0, 0))) := hcur
                      have hqi : q + i ≤ 4194304 := by
                        have h1 := total_len (st ++ p.kids p.S.m)
                        have h2 := HKN3.out.2.2.2
                        rw [List.length_append, Pr.kids_len, ← HQ.out] at h1
                        omega
                      have hbs : w.heap.size ≤ wr.heap.size := hB5.size
                      have HST5 : Hid (Stk wr w.heap.size g2 c2 (st ++ p.kids i)) := hst
                      have HKM5 : Hid (Km wr (w.heap.size + 1 + 1 + 1) ((p :: keys).map Pr.key)) := hkm
                      have HBX5 : Hid (Box wr bx p.S.kind (.slice pa p.S.n pc) (.slice (some ⟨pb', pff', none⟩) p.S.m pc')) := hbx
                      have HBY5 : Hid (Box wr bY p.T.kind (.slice ta p.T.n tc) (.slice (some ⟨tb', tff', none⟩) p.S.m tc')) := hby
                      have HB5 : Hid (Below w.heap.size w wr) := hB5
                      clear hst hkm hbx hby hB5 hcur
                      go_wp2_with fail
                      go_region_law (refine step_pair rfl _ _ rfl w.heap.size g2 (q + i) c2 (encs (st ++ p.kids i)) rfl (World.ownsRow.alloc HOW.out _) wr.heap.size rfl (.int .i64 k0) (.slice a0 n0 c0) (.slice b0 m0 d0) (.int .i64 k1) (.slice a1 n1 c1) (.slice b1 m1 d1) (by simp [go_sem]) (by simp [go_sem]) (by simp [go_sem]) (by simp [go_sem]) (by simp [go_sem]) (by simp [go_sem]) (by simp [Value.oneCell']) hqi (by simp; omega) ?_; intro g' c' w5 hown' hgr hloc)
                      all_goals go_wp2_with fail
                      all_goals
                        go_roundg (p.S.m - (i + 1))
                        case measure => omega
                        case rel =>
                          have hba : Below wr.heap.size wr (wr.alloc (.cells #[.int .i64 k0, .slice a0 n0 c0, .slice b0 m0 d0, .int .i64 k1, .slice a1 n1 c1, .slice b1 m1 d1] 49)).drew := ((Below.refl _ _).alloc (Nat.le_refl _) _).drew
                          have hk5 := keep5 hba hgr
                          exact ⟨i + 1, g', c', by omega, rfl, by go_num, rfl, Stk.push hown' (by rw [List.length_append, Pr.kids_len, HQ.out]) HENC.out, HKM5.out.of_block (hk5 _ HKM5.out.lt (HKM5.out.not_cells HCUR.out)),
                            HBX5.out.of_block (hk5 _ HBX5.out.lt (HBX5.out.ne HCUR.out)), HBY5.out.of_block (hk5 _ HBY5.out.lt (HBY5.out.ne HCUR.out)), (HB5.out.trans (hba.mono hbs)).grown hgr (HB5.out.trans (hba.mono hbs)).size (fun x hx => by cases hx; exact HST5.out.block.1)⟩
                    · obtain rfl : i = p.S.m := by omega
                      have hltz : ¬ ((p.S.m : Int) < (p.S.m : Int)) := by omega
                      go_wp2_with fail
                      go_roundg (total (st ++ p.kids p.S.m))
                      case measure => exact total_pop st p
                      case rel => exact ⟨st ++ p.kids p.S.m, p :: keys, g2, c2, rfl, by rw [List.length_append, Pr.kids_len, HQ.out], hst, hkm, HKN3.out, hB5⟩
            · have HR : Hid (sameR S T = false) := HKN.out.1.apart (rootB_m hmm)
              have hb2 : ((p.S.m : Int) != (p.T.m : Int)) = true := by simp; omega
              rw [he] at H14
              clear hkk he hmm
              go_wp2_with fail
              refine H14.out.mono ?_
              rintro e w1 ⟨rfl, hb1⟩
              have x2' : w1.cell? ⟨bx, 2, none⟩ = some (.slice pa' p.S.m pc') := (hb1.cell (p := ⟨bx, 2, none⟩) HBX.out.lt).trans x2
              have y2' : w1.cell? ⟨bY, 2, none⟩ = some (.slice ta' p.T.m tc') := (hb1.cell (p := ⟨bY, 2, none⟩) HBY.out.lt).trans y2
              clear x0 x1 x2 y0 y1 y2
              go_wp2_with fail
              go_ret
              exact ⟨ret_bool HR.out.symm, hB2.trans (hb1.mono hB2.size)⟩
          · have HR : Hid (sameR S T = false) := HKN.out.1.apart (rootB_set he)
            rw [he] at H14
            clear hkk he
            go_wp2_with fail
            refine H14.out.mono ?_
            rintro e w1 ⟨rfl, hb1⟩
            go_wp2_with fail
            go_ret
            exact ⟨ret_bool HR.out.symm, hB2.trans (hb1.mono hB2.size)⟩
        · have hb1 : (p.S.kind != p.T.kind) = true := by simp [hkk]
          have HR : Hid (sameR S T = false) := HKN.out.1.apart (rootB_kind hkk)
          clear hkk
          go_wp2_with fail
          go_ret
          exact ⟨ret_bool HR.out.symm, hB2⟩
end Go.Proofs.Ytkjfhlfakoopnaa

