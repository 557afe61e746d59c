/- the walk of add -/
import Derived.Test.YtplpdikkkbiacaaGreatDoorMg
namespace Go.Proofs.YtplpdikkkbiacaaGreatDoor
open Go.RowKit
set_option linter.unusedVariables false
set_option linter.unusedSimpArgs false

/-- the matcher holds these parts -/
def St (mb : Nat) (s : ByteArray) (bm : Nat) (w : World) (g : Option Addr) (c : Nat) (ps : List Pt) : Prop :=
  Mt w mb s (.slice g ps.length c) bm ∧ w.ownsRow (mb + 1) 151 4 (.slice g ps.length c) ps.length (encs ps)
/-- what is known of a part -/
def PtOk (mb : Nat) (w : World) (q : Pt) : Prop := In (· < mb) w q.S q.M ∧ (∃ d, formB d q.S = true) ∧ cnt q.S ≤ 1048576 ∧ q.k0 ≤ 4194304 ∧ q.k1 ≤ 4194304
def AddOk (S : Sh) (mb : Nat) (w : World) (ps qs : List Pt) : Prop :=
  0 < qs.length ∧ qs.length ≤ szT S ∧ Good (ps ++ qs) ∧ (∃ q : Pt, (ps ++ qs)[ps.length + qs.length - 1]? = some q ∧ q.S = S) ∧ ∀ q ∈ qs, PtOk mb w q
def AddRes (S : Sh) (mb : Nat) (s : ByteArray) (bm : Nat) (ps : List Pt) (g : Option Addr) (c : Nat) (w : World) (e : Ending) (w' : World) : Prop :=
  ∃ (qs : List Pt) (g' : Option Addr) (c' : Nat), e = .returned (.int .i64 ((ps.length + qs.length - 1 : Nat) : Int)) ∧ St mb s bm w' g' c' (ps ++ qs) ∧ Kp mb (.slice g ps.length c) (.slice g' (ps ++ qs).length c') w w' ∧ AddOk S mb w ps qs

/-- the part that is being made -/
def ptf (kind : Int) (sv : Value) (k0 k1 : Nat) (j : Nat) : Value := if j = 0 then .int .i64 kind else if j = 1 then sv else if j = 2 then .int .i64 (k0 : Int) else .int .i64 (k1 : Int)
/-- behind some of the kids -/
def LoopOk (K : Nat → Sh) (mb : Nat) (w : World) (ps qs : List Pt) (j k0 k1 : Nat) : Prop :=
  qs.length ≤ sumN (fun i => szT (K i)) j ∧ Good (ps ++ qs) ∧ (∀ i, i < j → ∃ q : Pt, (ps ++ qs)[if i = 0 then k0 else k1]? = some q ∧ q.S = K i) ∧ (∀ q ∈ qs, PtOk mb w q) ∧ k0 ≤ 4194304 ∧ k1 ≤ 4194304

theorem St.below {mb : Nat} {s : ByteArray} {bm : Nat} {w w' : World} {g : Option Addr} {c : Nat} {ps : List Pt} (h : St mb s bm w g c ps) (hb : Below w.heap.size w w') : St mb s bm w' g c ps := by
  obtain ⟨h1, h2⟩ := h
  refine ⟨h1.keep (hb.block _ (World.rowIs.lt h1)), h2.kept (row := none) ⟨hb.os, hb.tape, hb.output, hb.size, fun k hk _ => hb.block k hk⟩ ?_⟩
  cases hh : Value.ownBlock (.slice g ps.length c) with
  | none => exact .inl rfl
  | some k => exact .inr (by simp)
theorem St.far {mb : Nat} {s : ByteArray} {bm : Nat} {w : World} {g : Option Addr} {c : Nat} {ps : List Pt} (h : St mb s bm w g c ps) : ∀ k, Value.ownBlock (.slice g ps.length c) = some k → mb < k ∧ k < w.heap.size := fun k hk => by
  have := h.2.lt k hk
  omega

theorem St.set {mb : Nat} {s : ByteArray} {bm : Nat} {w : World} {g : Option Addr} {c : Nat} {ps : List Pt} (h : St mb s bm w g c ps) {pb o : Nat} (v : Value) (hne : mb ≠ pb) (hne2 : some pb ≠ Value.ownBlock (.slice g ps.length c)) : St mb s bm (w.setCell ⟨pb, o, none⟩ v) g c ps :=
  ⟨World.rowIs.setOther h.1 hne v, h.2.kept (row := some pb) ⟨rfl, rfl, rfl, by simp [World.setCell], fun k hk hk' => Below.heap_setCell _ _ _ _ (fun e => hk' (by rw [e]))⟩ (.inr (fun e => hne2 e.symm))⟩
theorem St.after {mb : Nat} {s : ByteArray} {bm : Nat} {w W w1 : World} {g : Option Addr} {c : Nat} {ps : List Pt} (h : St mb s bm w g c ps) (hb : Below w.heap.size w W) (hgr : W.grownBy w1 (Value.ownBlock (.slice g ps.length c))) : Mt w1 mb s (.slice g ps.length c) bm :=
  (h.below hb).1.keep (hgr.block mb (World.rowIs.lt (h.below hb).1) (fun e => by have := h.far mb e.symm; omega))
theorem Kp.append {mb : Nat} {p1 : Value} {w wr W w1 : World} {g g' : Option Addr} {q q' c c' : Nat} (h : Kp mb p1 (.slice g q c) w wr) (hb : Below wr.heap.size wr W) (hgr : W.grownBy w1 (Value.ownBlock (.slice g q c))) (hloc : Value.ownBlock (.slice g' q' c') = Value.ownBlock (.slice g q c) ∨ Value.ownBlock (.slice g' q' c') = some W.heap.size) (o : Nat) (v : Value) :
    Kp mb p1 (.slice g' q' c') w (w1.setCell ⟨mb, o, none⟩ v) := by
  have h2 : Kp mb (.slice g q c) (.slice g' q' c') W (w1.setCell ⟨mb, o, none⟩ v) :=
    ⟨hgr.os, hgr.tape, hgr.output, Nat.le_trans hgr.size (by simp [World.setCell]), fun k hk hm ho => (Below.heap_setCell _ _ _ _ (fun e => hm e)).trans (hgr.block k hk ho), hloc.imp id (fun e k hk => by rw [e] at hk; cases hk; exact Nat.le_refl _)⟩
  exact (h.trans (Kp.of_below hb)).trans h2
theorem St.pushed {mb : Nat} {s : ByteArray} {bm : Nat} {w1 : World} {q c1 g' c' : Nat} {g1 : Option Addr} {ps : List Pt} {P : Pt} (hmt : Mt w1 mb s (.slice g1 q c1) bm) (hown : w1.ownsRow (mb + 1) 151 4 (.slice (some ⟨g', 0, none⟩) (q + 1) c') (q + 1) (encs ps ++ P.enc)) (hq : ps.length = q) :
    St mb s bm (w1.setCell ⟨mb, 1, none⟩ (.slice (some ⟨g', 0, none⟩) (q + 1) c')) (some ⟨g', 0, none⟩) c' (ps ++ [P]) := by
  have hl : (ps ++ [P]).length = q + 1 := by simp [hq]
  unfold St
  rw [hl, encs_append, encs_one]
  refine ⟨hmt.set, hown.kept (row := some mb) ⟨rfl, rfl, rfl, by simp [World.setCell], fun k hk hk' => Below.heap_setCell _ _ _ _ (fun e => hk' (by rw [e]))⟩ (.inr (fun e => ?_))⟩
  have := (hown.lt g' rfl).1
  have e' : g' = mb := Option.some.inj e
  omega
theorem AddOk.of {kind : Int} {n : Nat} {L H : Nat → Int} {m : Nat} {K : Nat → Sh} {mb : Nat} {w : World} {ps qs : List Pt} {k0 k1 : Nat} {M : Mx} (hm : m ≤ 2) (h : LoopOk K mb w ps qs m k0 k1) (hok : PtOk mb w ⟨.mk kind n L H m K, M, 0, 0⟩) :
    AddOk (.mk kind n L H m K) mb w ps (qs ++ [⟨.mk kind n L H m K, M, k0, k1⟩]) := by
  obtain ⟨l1, l2, l3, l4, l5, l6⟩ := h
  refine ⟨by simp, by rw [szT_mk]; simp; omega, ?_, ⟨⟨.mk kind n L H m K, M, k0, k1⟩, ?_, rfl⟩, fun q hq => ?_⟩
  · rw [← List.append_assoc]
    refine l2.push (fun i hi => ?_)
    obtain ⟨q, hq, e⟩ := l3 i hi
    exact ⟨q, hq, e.trans (Sh.mk_kid hi).symm⟩
  · rw [← List.append_assoc, List.getElem?_append_right (by simp), show ps.length + (qs ++ [(⟨.mk kind n L H m K, M, k0, k1⟩ : Pt)]).length - 1 - (ps ++ qs).length = 0 by simp]
    rfl
  · rcases List.mem_append.1 hq with hq | hq
    · exact l4 q hq
    · simp only [List.mem_singleton] at hq
      subst hq
      exact ⟨hok.1, hok.2.1, hok.2.2.1, l5, l6⟩
theorem Kp.set {mb : Nat} {p1 p2 : Value} {w w' : World} (h : Kp mb p1 p2 w w') {pb o : Nat} (v : Value) (hpb : w.heap.size ≤ pb) : Kp mb p1 p2 w (w'.setCell ⟨pb, o, none⟩ v) :=
  ⟨h.os, h.tape, h.output, Nat.le_trans h.size (by simp [World.setCell]), fun k hk hm ho => (Below.heap_setCell _ _ _ _ (fun e => by simp at e; omega)).trans (h.far k hk hm ho), h.own⟩
theorem PtOk.back {mb : Nat} {w W : World} {q : Pt} (h : PtOk mb W q) (hb : Below mb w W) : PtOk mb w q := ⟨h.1.keep (fun k hk _ => (hb.block k hk).symm), h.2⟩
theorem ptf_set {w : World} {pb : Nat} {kind : Int} {sv : Value} {k0 k1 j num : Nat} (h : w.rowIs pb 151 4 (ptf kind sv k0 k1)) (hj : j < 2) :
    (w.setCell ⟨pb, 2 + j, none⟩ (.int .i64 (num : Int))).rowIs pb 151 4 (ptf kind sv (if j = 0 then num else k0) (if j = 0 then k1 else num)) := by
  refine (h.set (2 + j) _).congr (fun i hi => ?_)
  have h1 : j = 0 ∨ j = 1 := by omega
  have h2 : i = 0 ∨ i = 1 ∨ i = 2 ∨ i = 3 := by omega
  rcases h1 with rfl | rfl <;> rcases h2 with rfl | rfl | rfl | rfl <;> simp [ptf]
theorem LoopOk.next {K : Nat → Sh} {mb : Nat} {w W : World} {ps qs qs' : List Pt} {j k0 k1 : Nat} (h : LoopOk K mb w ps qs j k0 k1) (hj : j < 2) (hb : Below mb w W) (h' : AddOk (K j) mb W (ps ++ qs) qs') (hlen : (ps ++ qs).length + szT (K j) ≤ 4194304) :
    LoopOk K mb w ps (qs ++ qs') (j + 1) (if j = 0 then (ps ++ qs).length + qs'.length - 1 else k0) (if j = 0 then k1 else (ps ++ qs).length + qs'.length - 1) := by
  obtain ⟨l1, l2, l3, l4, l5, l6⟩ := h
  obtain ⟨r0, r1, r2, r3, r4⟩ := h'
  rw [List.append_assoc] at r2 r3
  refine ⟨by simp only [List.length_append, sumN]; omega, r2, fun i hi => ?_, fun q hq => ?_, by split <;> omega, by split <;> omega⟩
  · have h1 : j = 0 ∨ j = 1 := by omega
    rcases h1 with rfl | rfl
    · obtain rfl : i = 0 := by omega
      simpa using r3
    · have h2 : i = 0 ∨ i = 1 := by omega
      rcases h2 with rfl | rfl
      · obtain ⟨q, hq, e⟩ := l3 0 (by omega)
        refine ⟨q, ?_, e⟩
        rw [← List.append_assoc]
        exact get_old (by simpa using hq)
      · simpa using r3
  · rcases List.mem_append.1 hq with hq | hq
    · exact l4 q hq
    · exact (r4 q hq).back hb

set_option maxRecDepth 100000 in
set_option maxHeartbeats 4000000 in
theorem add_node (kind : Int) (n : Nat) (L H : Nat → Int) (m : Nat) (K : Nat → Sh) (M : Nat → Mx) (a : Option Addr) (cap : Nat) (a' : Option Addr) (b' off' cap' : Nat) (hm2 : m ≤ 2)
    (mb : Nat) (s : ByteArray) (bm : Nat) (ps : List Pt) (g : Option Addr) (c : Nat) (w : World) (hga : 0 < m → a' = some ⟨b', off', none⟩)
    (HK : Hid (∀ i, i < m → ∀ W, Below mb w W → ∃ (k0 : Int) (a0 b0 : Option Addr) (n0 c0 m0 d0 : Nat), W.cell? ⟨b', off' + i * 3, none⟩ = some (.int .i64 k0) ∧ W.cell? ⟨b', off' + i * 3 + 1, none⟩ = some (.slice a0 n0 c0) ∧ W.cell? ⟨b', off' + i * 3 + 2, none⟩ = some (.slice b0 m0 d0) ∧
      ∀ (s : ByteArray) (bm : Nat) (ps : List Pt) (g : Option Addr) (c : Nat) (W' : World), Below mb w W' → ps.length + szT (K i) ≤ 4194304 → Good ps → mb < W'.heap.size → St mb s bm W' g c ps → Calls Tryz.prog 69 #[.pointer (some ⟨mb, 0, none⟩), .agg #[.int .i64 k0, .slice a0 n0 c0, .slice b0 m0 d0]] W' (AddRes (K i) mb s bm ps g c W')))
    (HOK : Hid (PtOk mb w ⟨.mk kind n L H m K, .mk (.slice a n cap) (.slice a' m cap') M, 0, 0⟩)) (hlen : ps.length + szT (.mk kind n L H m K) ≤ 4194304) (HG : Hid (Good ps)) (hmb : mb < w.heap.size) (HST : Hid (St mb s bm w g c ps)) :
    Calls Tryz.prog 69 #[.pointer (some ⟨mb, 0, none⟩), .agg #[.int .i64 kind, .slice a n cap, .slice a' m cap']] w (AddRes (.mk kind n L H m K) mb s bm ps g c w) := by
  rw [szT_mk] at hlen
  go_enter Tryz.func69, Tryz.ntmps69
  go_wp2_with fail
  go_loopw [16] (fun i wr => ∃ (j : Nat) (qs : List Pt) (g1 : Option Addr) (c1 k0 k1 : Nat), j ≤ m ∧ i = .int .i64 j ∧ Hid (St mb s bm wr g1 c1 (ps ++ qs)) ∧ Hid (Kp mb (.slice g ps.length c) (.slice g1 (ps ++ qs).length c1) w wr) ∧
    Hid (wr.rowIs (w.heap.size + 1) 151 4 (ptf kind (.slice a n cap) k0 k1)) ∧ Hid (some (w.heap.size + 1) ≠ Value.ownBlock (.slice g1 (ps ++ qs).length c1)) ∧ Hid (LoopOk K mb w ps qs j k0 k1)) (fun i _ => m - (intOf i).toNat)
  case atStart =>
    have hB : Below w.heap.size w ((w.alloc (.cells #[.int .i64 kind, .slice a n cap, .slice a' m cap'] 50)).alloc (.cells #[.int .i64 kind, .slice a n cap, .int .i64 0, .int .i64 0] 151)) := ((Below.refl _ _).alloc (Nat.le_refl _) _).alloc (by simp) _
    refine ⟨0, [], g, c, 0, 0, Nat.zero_le _, rfl, ?_, ?_, ?_, ?_, ?_⟩
    · rw [Hid, List.append_nil]; exact HST.out.below hB
    · rw [Hid, List.append_nil]; exact Kp.of_below hB
    · have := World.rowIs_alloc (w.alloc (.cells #[.int .i64 kind, .slice a n cap, .slice a' m cap'] 50)) #[.int .i64 kind, .slice a n cap, .int .i64 0, .int .i64 0] 151 (ptf kind (.slice a n cap) 0 0) (fun i hi => by
        have : i = 0 ∨ i = 1 ∨ i = 2 ∨ i = 3 := by simp at hi; omega
        rcases this with rfl | rfl | rfl | rfl <;> rfl)
      simpa [Hid] using this
    · rw [Hid, List.append_nil]
      intro e
      have := (HST.out.far _ e.symm).2
      omega
    · exact ⟨by simp [sumN], by rw [List.append_nil]; exact HG.out, fun i hi => absurd hi (Nat.not_lt_zero _), fun q hq => by simp at hq, by omega, by omega⟩
  case round =>
    obtain ⟨j, qs, g1, c1, k0, k1, hj, rfl, HST1, HKP, HPB, HNE, HLO⟩ := hrel
    have hBm : Below mb w wr := HKP.out.below hmb (fun k hk => (HST.out.far k hk).1)
    have hsz : w.heap.size + 1 < wr.heap.size := World.rowIs.lt HPB.out
    by_cases hlt : j < m
    · obtain rfl := hga (by omega)
      have hltz : (j : Int) < (m : Int) := by omega
      obtain ⟨kk, a0, b0, n0, c0, m0, d0, x0, x1, x2, hrec⟩ := HK.out j hlt wr hBm
      have hal : Below wr.heap.size wr (wr.alloc (.cells #[.int .i64 kk, .slice a0 n0 c0, .slice b0 m0 d0] 50)) := (Below.refl _ _).alloc (Nat.le_refl _) _
      have hmbr : mb ≤ wr.heap.size := by omega
      have hBa : Below mb w (wr.alloc (.cells #[.int .i64 kk, .slice a0 n0 c0, .slice b0 m0 d0] 50)) := hBm.trans (hal.mono hmbr)
      have HREC : Hid (Calls Tryz.prog 69 #[.pointer (some ⟨mb, 0, none⟩), .agg #[.int .i64 kk, .slice a0 n0 c0, .slice b0 m0 d0]] (wr.alloc (.cells #[.int .i64 kk, .slice a0 n0 c0, .slice b0 m0 d0] 50)) (AddRes (K j) mb s bm (ps ++ qs) g1 c1 (wr.alloc (.cells #[.int .i64 kk, .slice a0 n0 c0, .slice b0 m0 d0] 50)))) :=
        hrec s bm (ps ++ qs) g1 c1 _ hBa (by rw [List.length_append]; have := HLO.out.1; have := sumN_at (f := fun i => szT (K i)) hlt; omega) HLO.out.2.1 (by simp; omega) (HST1.out.below hal)
      clear hrec
      go_wp2_with fail
      refine HREC.out.mono ?_
      rintro e w1 ⟨qs', g2, c2, rfl, hst2, hkp2, hok2⟩
      have HK2 : Hid (Kp mb (.slice g1 (ps ++ qs).length c1) (.slice g2 (ps ++ qs ++ qs').length c2) (wr.alloc (.cells #[.int .i64 kk, .slice a0 n0 c0, .slice b0 m0 d0] 50)) w1) := hkp2
      have HS2 : Hid (St mb s bm w1 g2 c2 (ps ++ qs ++ qs')) := hst2
      have HO2 : Hid (AddOk (K j) mb (wr.alloc (.cells #[.int .i64 kk, .slice a0 n0 c0, .slice b0 m0 d0] 50)) (ps ++ qs) qs') := hok2
      have hpb1 : w1.rowIs (w.heap.size + 1) 151 4 (ptf kind (.slice a n cap) k0 k1) := (World.rowIs.alloc HPB.out _).of_block (hkp2.far _ (by simp; omega) (by omega) HNE.out)
      have HP1 : Hid (w1.rowIs (w.heap.size + 1) 151 4 (ptf kind (.slice a n cap) k0 k1)) := hpb1
      have e2 := hpb1.cell (i := 2 + j) (by omega)
      have f2 := hpb1.frozen (2 + j)
      clear hkp2 hst2 hok2 hpb1
      have hj2 : (j : Int) < 2 := by omega
      go_wp2_with fail
      go_roundw
      case rel =>
        have hne2 : some (w.heap.size + 1) ≠ Value.ownBlock (.slice g2 (ps ++ qs ++ qs').length c2) := by
          rcases HK2.out.own with e | e
          · rw [e]; exact HNE.out
          · intro e'
            have := e _ e'.symm
            simp at this
            omega
        have hall : Kp mb (.slice g ps.length c) (.slice g2 (ps ++ qs ++ qs').length c2) w w1 := (HKP.out.trans (Kp.of_below hal)).trans HK2.out
        have hlo := HLO.out.next (by omega) hBa HO2.out (by rw [List.length_append]; have := HLO.out.1; have := sumN_at (f := fun i => szT (K i)) hlt; omega)
        rw [List.length_append] at hlo
        refine ⟨j + 1, qs ++ qs', g2, c2, _, _, by omega, by go_num, ?_, ?_, ptf_set HP1.out (by omega), ?_, hlo⟩
        · rw [Hid, ← List.append_assoc]; exact HS2.out.set _ (by omega) hne2
        · rw [Hid, ← List.append_assoc]; exact hall.set _ (by omega)
        · rw [Hid, ← List.append_assoc]; exact hne2
      case measure => simp [intOf]; omega
    · have hltz : ¬ ((j : Int) < (m : Int)) := by omega
      obtain rfl : j = m := by omega
      have q1 := HST1.out.1.c1
      have f1 : wr.frozen? ⟨mb, 1, none⟩ = false := World.rowIs.frozen HST1.out.1 1
      have p0 := World.rowIs.cell HPB.out (i := 0) (by omega)
      have p1 := World.rowIs.cell HPB.out (i := 1) (by omega)
      have p2 := World.rowIs.cell HPB.out (i := 2) (by omega)
      have p3 := World.rowIs.cell HPB.out (i := 3) (by omega)
      simp only [ptf] at p0 p1 p2 p3
      simp only [if_true, Nat.reduceEqDiff, if_false, reduceIte, Nat.one_ne_zero] at p0 p1 p2 p3
      obtain ⟨q, hq⟩ : ∃ q, (ps ++ qs).length = q := ⟨_, rfl⟩
      have hq2 : q ≤ 4194304 := by rw [← hq, List.length_append]; have := HLO.out.1; omega
      have HOW : Hid (wr.ownsRow (mb + 1) 151 4 (.slice g1 q c1) q (encs (ps ++ qs))) := by rw [Hid, ← hq]; exact HST1.out.2
      rw [hq] at q1
      have HQ : Hid ((ps ++ qs).length = q) := hq
      clear hq
      have hbW : Below wr.heap.size wr (wr.drew.alloc (.cells #[.int .i64 kind, .slice a n cap, .int .i64 (k0 : Int), .int .i64 (k1 : Int)] 151)) := (Below.refl _ _).drew.alloc (Nat.le_refl _) _
      have HBW : Hid (Below wr.heap.size wr (wr.drew.alloc (.cells #[.int .i64 kind, .slice a n cap, .int .i64 (k0 : Int), .int .i64 (k1 : Int)] 151))) := hbW
      have HMT : Hid (∀ w1, (wr.drew.alloc (.cells #[.int .i64 kind, .slice a n cap, .int .i64 (k0 : Int), .int .i64 (k1 : Int)] 151)).grownBy w1 (Value.ownBlock (.slice g1 q c1)) → Mt w1 mb s (.slice g1 q c1) bm) := fun w1 hgr => by
        have := HST1.out.after (w1 := w1) hbW (by rw [HQ.out]; exact hgr)
        rwa [HQ.out] at this
      have q1a : (wr.alloc (.cells #[.int .i64 kind, .slice a n cap, .int .i64 (k0 : Int), .int .i64 (k1 : Int)] 151)).cell? ⟨mb, 1, none⟩ = some (.slice g1 q c1) := (((Below.refl wr.heap.size wr).alloc (Nat.le_refl _) _).cell (p := ⟨mb, 1, none⟩) (World.block_lt_of_cell? _ _ q1)).trans q1
      clear hbW
      go_wp2_with fail
      go_region_law (refine step_part rfl _ _ rfl mb q g1 c1 (encs (ps ++ qs)) rfl (World.ownsRow.alloc HOW.out _) wr.heap.size rfl (.int .i64 kind) (.slice a n cap) (.int .i64 (k0 : Int)) (.int .i64 (k1 : Int)) (by simp [go_sem]) (by simp [go_sem]) (by simp [go_sem]) (by simp [go_sem]) (by simp [Value.oneCell']) hq2 (by simp; omega) ?_; intro g' c' w1 hown' hgr hloc; have hmt := HMT.out w1 hgr; have z1 := hmt.c1; have z2 := World.rowIs.frozen hmt 1)
      all_goals go_wp2_with fail
      all_goals
        go_ret
        refine ⟨qs ++ [⟨.mk kind n L H j K, .mk (.slice a n cap) (.slice a' j cap') M, k0, k1⟩], some ⟨g', 0, none⟩, c', ?_, ?_, ?_, AddOk.of hm2 HLO.out HOK.out⟩
        · have hq := HQ.out
          simp at hq
          simp [go_sem, hq]
        · rw [← List.append_assoc]
          exact St.pushed hmt hown' HQ.out
        · have hk := HKP.out
          rw [HQ.out] at hk
          have hl : (ps ++ (qs ++ [(⟨.mk kind n L H j K, .mk (.slice a n cap) (.slice a' j cap') M, k0, k1⟩ : Pt)])).length = q + 1 := by rw [← List.append_assoc, List.length_append, HQ.out]; rfl
          rw [hl]
          exact hk.append HBW.out hgr (by rcases hloc with e | e; exact .inl e; exact .inr (congrArg some e)) _ _
end Go.Proofs.YtplpdikkkbiacaaGreatDoor

