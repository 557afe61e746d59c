/- The matcher in memory, and the laws that its walks want. -/
import Derived.Test.YtplpdikkkbiacaaGreatDoorTf
import Derived.Test.YtplpdikkkbiacaaGreatDoorMe
import Derived.Maps.AppendAt
import Derived.Deep.RegionLaw
namespace Go.Proofs.YtplpdikkkbiacaaGreatDoor
open Go.RowKit
set_option linter.unusedVariables false
set_option linter.unusedSimpArgs false

theorem good_kids {kind : Int} {n : Nat} {L H : Nat → Int} {m : Nat} (h : goodB kind n L H m = true) : kidsOf kind = (m : Int) := by
  simp only [goodB, Bool.and_eq_true, beq_iff_eq] at h
  exact h.1.1
theorem form_kid {d : Nat} {kind : Int} {n : Nat} {L H : Nat → Int} {m : Nat} {K : Nat → Sh} (h : formB (d + 1) (.mk kind n L H m K) = true) : goodB kind n L H m = true ∧ ∀ i, i < m → formB d (K i) = true := by
  simp only [formB_mk, Bool.and_eq_true, List.all_eq_true, List.mem_range] at h
  exact h
end Go.Proofs.YtplpdikkkbiacaaGreatDoor
namespace Go.Proofs.YtplpdikkkbiacaaGreatDoor
open Go.RowKit
set_option linter.unusedVariables false
set_option linter.unusedSimpArgs false

theorem kids_cases {kind : Int} {m : Nat} (h : kidsOf kind = (m : Int)) : (kind = 1 ∧ m = 0) ∨ (kind = 2 ∧ m = 0) ∨ (kind = 3 ∧ m = 2) ∨ (kind = 4 ∧ m = 2) ∨ (kind = 5 ∧ m = 1) ∨ (kind = 6 ∧ m = 2) ∨ (kind = 7 ∧ m = 1) := by
  unfold kidsOf at h
  split at h
  · omega
  · split at h
    · omega
    · split at h <;> omega

theorem l3Is_any (S : Sh) : ∀ (d : Nat) (M : Mx) (w : World), formB d S = true → In AnyB w S M → cnt S ≤ 1048576 → L3 w (vx S M) (lkB S) := by
  induction S using Sh.ind with
  | h kind n L H m K ih =>
    intro d M w hf hin hcnt s w1 hs hb1
    replace hin := hin.below hb1
    cases d with
    | zero => simp [formB] at hf
    | succ d =>
      obtain ⟨hg, hk⟩ := form_kid hf
      obtain ⟨sv, kv, M, rfl⟩ := Mx.cases M
      obtain ⟨a, b, off, cap, a', b', off', cap', e1, hn, hsp, hl, e2, hm, hl', hkid⟩ := hin
      obtain rfl : sv = _ := e1
      obtain rfl : kv = _ := e2
      simp only [Mx.mk_kid] at hkid
      simp only [vx, Sh.mk_kind, Mx.mk_sv, Mx.mk_kv]
      simp only [cnt_mk] at hcnt
      have HK : ∀ i, i < m → ∃ (k0 : Int) (a0 b0 : Option Addr) (n0 c0 m0 d0 : Nat), w1.cell? ⟨b', off' + i * 3, none⟩ = some (.int .i64 k0) ∧ w1.cell? ⟨b', off' + i * 3 + 1, none⟩ = some (.slice a0 n0 c0) ∧ w1.cell? ⟨b', off' + i * 3 + 2, none⟩ = some (.slice b0 m0 d0) ∧
          L3 w1 (.agg #[.int .i64 k0, .slice a0 n0 c0, .slice b0 m0 d0]) (lkB (K i)) := fun i hi => by
        obtain ⟨⟨x0, x1, x2⟩, hin0⟩ := hkid i hi
        have h3 := ih i hi d (M i) w1 (hk i hi) hin0 (by have := sumN_at (f := fun i => cnt (K i)) hi; omega)
        obtain ⟨p, q, r, p', q', r', z1, z2⟩ := hin0.slices
        rw [z1] at x1
        rw [z2] at x2
        rw [vx, z1, z2] at h3
        exact ⟨_, _, _, _, _, _, _, x0, x1, x2, h3⟩
      rcases kids_cases (good_kids hg) with ⟨rfl, rfl⟩ | ⟨rfl, rfl⟩ | ⟨rfl, rfl⟩ | ⟨rfl, rfl⟩ | ⟨rfl, rfl⟩ | ⟨rfl, rfl⟩ | ⟨rfl, rfl⟩
      · exact l3Is_1 n L H 0 K a b off cap a' cap' s hs w1 (fun h => (hn h).1) hsp (by omega)
      · exact l3Is_2 n L H 0 K a cap a' cap' s w1
      · obtain rfl := (hm (by omega)).1
        obtain ⟨k0, a0, b0, n0, c0, m0, d0, x0, x1, x2, h0⟩ := HK 0 (by omega)
        obtain ⟨k1, a1, b1, n1, c1, m1, d1, y0, y1, y2, h1⟩ := HK 1 (by omega)
        simp only [Nat.zero_mul, Nat.add_zero, Nat.one_mul] at x0 x1 x2 y0 y1 y2
        rw [lk_3]
        exact l3Is_3 n a cap b' off' cap' s hs w1 k0 a0 b0 n0 c0 m0 d0 _ x0 x1 x2 h0 k1 a1 b1 n1 c1 m1 d1 _ y0 y1 y2 h1
      · obtain rfl := (hm (by omega)).1
        obtain ⟨k0, a0, b0, n0, c0, m0, d0, x0, x1, x2, h0⟩ := HK 0 (by omega)
        obtain ⟨k1, a1, b1, n1, c1, m1, d1, y0, y1, y2, h1⟩ := HK 1 (by omega)
        simp only [Nat.zero_mul, Nat.add_zero, Nat.one_mul] at x0 x1 x2 y0 y1 y2
        rw [lk_4]
        exact l3Is_4 n a cap b' off' cap' s hs w1 k0 a0 b0 n0 c0 m0 d0 _ x0 x1 x2 h0 k1 a1 b1 n1 c1 m1 d1 _ y0 y1 y2 h1
      · obtain rfl := (hm (by omega)).1
        obtain ⟨k0, a0, b0, n0, c0, m0, d0, x0, x1, x2, h0⟩ := HK 0 (by omega)
        simp only [Nat.zero_mul, Nat.add_zero, Nat.one_mul] at x0 x1 x2
        rw [lk_5]
        exact l3Is_5 n a cap b' off' cap' s hs w1 k0 a0 b0 n0 c0 m0 d0 _ x0 x1 x2 h0
      · obtain rfl := (hm (by omega)).1
        obtain ⟨k0, a0, b0, n0, c0, m0, d0, x0, x1, x2, h0⟩ := HK 0 (by omega)
        obtain ⟨k1, a1, b1, n1, c1, m1, d1, y0, y1, y2, h1⟩ := HK 1 (by omega)
        simp only [Nat.zero_mul, Nat.add_zero, Nat.one_mul] at x0 x1 x2 y0 y1 y2
        rw [lk_6]
        exact l3Is_6 n a cap b' off' cap' s hs w1 k0 a0 b0 n0 c0 m0 d0 _ x0 x1 x2 h0 k1 a1 b1 n1 c1 m1 d1 _ y0 y1 y2 h1
      · obtain rfl := (hm (by omega)).1
        obtain ⟨k0, a0, b0, n0, c0, m0, d0, x0, x1, x2, h0⟩ := HK 0 (by omega)
        simp only [Nat.zero_mul, Nat.add_zero, Nat.one_mul] at x0 x1 x2
        rw [lk_7]
        exact l3Is_7 n a cap b' off' cap' s hs w1 k0 a0 b0 n0 c0 m0 d0 _ x0 x1 x2 h0

theorem okR_form {S : Sh} (h : okR S = true) : formB 8 S = true := by
  simp only [okR, Bool.and_eq_true] at h
  exact h.1

end Go.Proofs.YtplpdikkkbiacaaGreatDoor
namespace Go.Proofs.YtplpdikkkbiacaaGreatDoor
open Go.RowKit
set_option linter.unusedVariables false
set_option linter.unusedSimpArgs false

/-- a part: the Rex, where it lies, the numbers of its kids -/
structure Pt where
  S : Sh
  M : Mx
  k0 : Nat
  k1 : Nat
def Pt.kd (p : Pt) (i : Nat) : Nat := if i = 0 then p.k0 else p.k1
def Pt.enc (p : Pt) : List Value := [.int .i64 p.S.kind, p.M.sv, .int .i64 (p.k0 : Int), .int .i64 (p.k1 : Int)]
def encs (ps : List Pt) : List Value := ps.flatMap Pt.enc
theorem encs_append (ps qs : List Pt) : encs (ps ++ qs) = encs ps ++ encs qs := by simp [encs]
theorem encs_one (p : Pt) : encs [p] = p.enc := by simp [encs]
theorem encs_at {ps : List Pt} : ∀ {j : Nat} {p : Pt}, ps[j]? = some p → ∀ i, i < 4 → (encs ps)[j * 4 + i]? = p.enc[i]? := by
  induction ps with
  | nil => intro j p h; simp at h
  | cons q ps ih =>
    intro j p h i hi
    simp only [encs, List.flatMap_cons]
    cases j with
    | zero =>
      simp at h; subst h
      rw [Nat.zero_mul, Nat.zero_add, List.getElem?_append_left (by simp [Pt.enc]; omega)]
    | succ j =>
      rw [List.getElem?_append_right (by simp [Pt.enc]; omega)]
      rw [show (j + 1) * 4 + i - q.enc.length = j * 4 + i by simp [Pt.enc]; omega]
      exact ih (by simpa using h) i hi

/-- the kid at a place -/
def Sh.kid (S : Sh) (i : Nat) : Sh := if hi : i < S.m then S.kids ⟨i, hi⟩ else S
theorem Sh.mk_kid {kind : Int} {n : Nat} {L H : Nat → Int} {m : Nat} {K : Nat → Sh} {i : Nat} (hi : i < m) : (Sh.mk kind n L H m K).kid i = K i := by
  unfold Sh.kid
  rw [dif_pos (show i < (Sh.mk kind n L H m K).m from hi)]
  rfl
/-- kids have lower numbers, and are what they must be -/
def Good (ps : List Pt) : Prop := ∀ (j : Nat) (p : Pt), ps[j]? = some p → ∀ i, i < p.S.m → p.kd i < j ∧ ∃ q : Pt, ps[p.kd i]? = some q ∧ q.S = p.S.kid i
theorem Good.nil : Good [] := fun j p h => by simp at h
theorem get_old {ps qs : List Pt} {j : Nat} {p : Pt} (h : ps[j]? = some p) : (ps ++ qs)[j]? = some p := by
  rw [List.getElem?_append_left (List.getElem?_eq_some_iff.1 h).1]; exact h
theorem Good.push {ps : List Pt} (h : Good ps) {p : Pt} (hp : ∀ i, i < p.S.m → ∃ q : Pt, ps[p.kd i]? = some q ∧ q.S = p.S.kid i) : Good (ps ++ [p]) := by
  intro j q hq i hi
  by_cases hj : j < ps.length
  · rw [List.getElem?_append_left hj] at hq
    obtain ⟨h1, r, hr, e⟩ := h j q hq i hi
    exact ⟨h1, r, get_old hr, e⟩
  · rw [List.getElem?_append_right (by omega)] at hq
    have : j - ps.length = 0 := by
      by_cases e : j - ps.length = 0
      · exact e
      · rw [List.getElem?_cons, if_neg e] at hq; simp at hq
    rw [this] at hq
    simp at hq
    subst hq
    obtain ⟨r, hr, e⟩ := hp i hi
    have := (List.getElem?_eq_some_iff.1 hr).1
    exact ⟨by omega, r, get_old hr, e⟩

/-- how many parts a Rex has -/
def szT : Sh → Nat
  | .node _ _ _ _ m kids => 1 + sumN (fun i => if hi : i < m then szT (kids ⟨i, hi⟩) else 0) m
theorem szT_mk (kind : Int) (n : Nat) (L H : Nat → Int) (m : Nat) (K : Nat → Sh) : szT (.mk kind n L H m K) = 1 + sumN (fun i => szT (K i)) m := by
  simp only [Sh.mk, szT]
  rw [sumN_congr (g := fun i => szT (K i)) (fun i hi => by rw [dif_pos hi])]
theorem sumN_le_add {f g : Nat → Nat} : ∀ {m : Nat}, (∀ i, i < m → f i ≤ g i + 1) → sumN f m ≤ sumN g m + m
  | 0, _ => by simp [sumN]
  | m + 1, h => by
    have h1 := sumN_le_add (f := f) (g := g) (m := m) (fun i hi => h i (by omega))
    have h2 := h m (by omega)
    simp only [sumN]; omega
theorem szT_le (S : Sh) : szT S ≤ cnt S + 1 := by
  induction S using Sh.ind with
  | h kind n L H m K ih =>
    rw [szT_mk, cnt_mk]
    have := sumN_le_add (f := fun i => szT (K i)) (g := fun i => cnt (K i)) (m := m) ih
    omega

/-- the matcher's three cells -/
def mtf (s : ByteArray) (pv : Value) (bm : Nat) (j : Nat) : Value := if j = 0 then .string s else if j = 1 then pv else .map (some bm)
def Mt (w : World) (mb : Nat) (s : ByteArray) (pv : Value) (bm : Nat) : Prop := w.rowIs mb 123 3 (mtf s pv bm)
theorem Mt.c0 {w : World} {mb : Nat} {s : ByteArray} {pv : Value} {bm : Nat} (h : Mt w mb s pv bm) : w.cell? ⟨mb, 0, none⟩ = some (.string s) := h.cell (i := 0) (by omega)
theorem Mt.c1 {w : World} {mb : Nat} {s : ByteArray} {pv : Value} {bm : Nat} (h : Mt w mb s pv bm) : w.cell? ⟨mb, 1, none⟩ = some pv := h.cell (i := 1) (by omega)
theorem Mt.c2 {w : World} {mb : Nat} {s : ByteArray} {pv : Value} {bm : Nat} (h : Mt w mb s pv bm) : w.cell? ⟨mb, 2, none⟩ = some (.map (some bm)) := h.cell (i := 2) (by omega)
theorem Mt.set {w : World} {mb : Nat} {s : ByteArray} {pv pv' : Value} {bm : Nat} (h : Mt w mb s pv bm) : Mt (w.setCell ⟨mb, 1, none⟩ pv') mb s pv' bm := by
  refine (World.rowIs.set h 1 pv').congr (fun i hi => ?_)
  have : i = 0 ∨ i = 1 ∨ i = 2 := by omega
  rcases this with rfl | rfl | rfl <;> simp [mtf]
theorem Mt.keep {w w' : World} {mb : Nat} {s : ByteArray} {pv : Value} {bm : Nat} (h : Mt w mb s pv bm) (e : w'.heap[mb]? = w.heap[mb]?) : Mt w' mb s pv bm := World.rowIs.of_block h e

/-- nothing but the matcher's cells and its row of parts turns -/
structure Kp (mb : Nat) (pv pv' : Value) (w w' : World) : Prop where
  os : w'.os = w.os
  tape : w'.tape = w.tape
  output : w'.output = w.output
  size : w.heap.size ≤ w'.heap.size
  far : ∀ k, k < w.heap.size → k ≠ mb → some k ≠ pv.ownBlock → w'.heap[k]? = w.heap[k]?
  own : pv'.ownBlock = pv.ownBlock ∨ ∀ g, pv'.ownBlock = some g → w.heap.size ≤ g
theorem Kp.refl (mb : Nat) (pv : Value) (w : World) : Kp mb pv pv w w := ⟨rfl, rfl, rfl, Nat.le_refl _, fun _ _ _ _ => rfl, .inl rfl⟩
theorem Kp.trans {mb : Nat} {p1 p2 p3 : Value} {w1 w2 w3 : World} (h : Kp mb p1 p2 w1 w2) (h' : Kp mb p2 p3 w2 w3) : Kp mb p1 p3 w1 w3 := by
  refine ⟨h'.os.trans h.os, h'.tape.trans h.tape, h'.output.trans h.output, Nat.le_trans h.size h'.size, fun k hk hm ho => ?_, ?_⟩
  · refine (h'.far k (Nat.lt_of_lt_of_le hk h.size) hm ?_).trans (h.far k hk hm ho)
    rcases h.own with e | e
    · rw [e]; exact ho
    · intro e'
      have := e k e'.symm
      omega
  · rcases h'.own with e | e
    · rw [e]; exact h.own
    · exact .inr (fun g hg => Nat.le_trans h.size (e g hg))
theorem Kp.of_below {mb : Nat} {pv : Value} {w w' : World} (h : Below w.heap.size w w') : Kp mb pv pv w w' := ⟨h.os, h.tape, h.output, h.size, fun k hk _ _ => h.block k hk, .inl rfl⟩
theorem Kp.below {mb : Nat} {pv pv' : Value} {w w' : World} (h : Kp mb pv pv' w w') (hmb : mb < w.heap.size) (hp : ∀ k, pv.ownBlock = some k → mb < k) : Below mb w w' :=
  ⟨h.os, h.tape, h.output, h.size, fun k hk => h.far k (by omega) (by omega) (fun e => by have := hp k e.symm; omega)⟩

theorem Tryz.info151 : (Tryz.prog.info? 151).map (fun i => (i.zero, i.size, i.bytes)) = some (some (.agg #[.int .i64 0, .slice none 0 0, .int .i64 0, .int .i64 0]), 4, 48) := by kernel_rfl

/-- a part put behind the others, as one step of a region that draws -/
theorem step_part {ops : Array Oper} {o : Oper} {a : Act} {w : World} {K : Act → World → Prop} {Q : Exit → Act → World → Prop} {E : Prop}
    (hg : o.guard = none) (s x : Operand) (hop : o.op = Op.call { callee := Callee.builtin Builtin.append, args := #[s, x], argTypes := #[121, 121] })
    (mb q : Nat) (g : Option Addr) (c : Nat) (xs : List Value) (hs : a.eval s = .slice g q c) (hown : w.ownsRow (mb + 1) 151 4 (.slice g q c) q xs)
    (b : Nat) (hx : a.eval x = .slice (some ⟨b, 0, none⟩) 1 1) (v0 v1 v2 v3 : Value) (c0 : w.cell? ⟨b, 0, none⟩ = some v0) (c1 : w.cell? ⟨b, 1, none⟩ = some v1) (c2 : w.cell? ⟨b, 2, none⟩ = some v2) (c3 : w.cell? ⟨b, 3, none⟩ = some v3)
    (h1 : ∀ u ∈ [v0, v1, v2, v3], u.oneCell' = true) (hq : q ≤ 4194304) (hbase : mb + 1 ≤ w.heap.size)
    (hK : ∀ g' c' w', w'.ownsRow (mb + 1) 151 4 (.slice (some ⟨g', 0, none⟩) (q + 1) c') (q + 1) (xs ++ [v0, v1, v2, v3]) → w.grownBy w' (Value.ownBlock (.slice g q c)) → (some g' = Value.ownBlock (.slice g q c) ∨ g' = w.heap.size) →
      K (a.put o.dst (.slice (some ⟨g', 0, none⟩) (q + 1) c')) w') :
    if Region.wanted o (yielded ops a.tmps) = true then Oper.wp Tryz.prog o a w K Q else E := by
  have hw : Region.wanted o (yielded ops a.tmps) = true := by simp [Region.wanted, hg]
  rw [if_pos hw]
  obtain ⟨i0, hi, hz0, hz1, hz2⟩ := info_parts Tryz.info151
  obtain ⟨v', w', hrun, r1, r2, r3, r4⟩ := run_append_own_at (P := Tryz.prog) w (mb + 1) 121 o.type 151 i0 _ 4 48 Tryz.underlying121 hi hz0 hz1 hz2 (by simp [Value.cells]) (by omega) (.slice g q c) q xs hown ⟨b, 0, none⟩ 1 1 [v0, v1, v2, v3] rfl
    (fun j u hj => by
      match j, hj with
      | 0, hj => simp at hj; subst hj; simpa [Addr.add] using c0
      | 1, hj => simp at hj; subst hj; simpa [Addr.add] using c1
      | 2, hj => simp at hj; subst hj; simpa [Addr.add] using c2
      | 3, hj => simp at hj; subst hj; simpa [Addr.add] using c3
      | n + 4, hj => simp at hj) h1 (by unfold maxLen; omega) (by omega) hbase
  have hform : ∃ g' c', v' = .slice (some ⟨g', 0, none⟩) (q + 1) c' := by
    rcases r1.2 with ⟨_, h⟩ | ⟨g', cap, cur, e, _⟩
    · omega
    · exact ⟨g', cap, e⟩
  obtain ⟨g', c', rfl⟩ := hform
  unfold Oper.wp
  simp [execOp, hop, resolve, invoke, builtin, hs, hx, hrun, Result.andThen]
  refine hK g' c' w' r1 r2 ?_
  rcases r4 with h | h
  · exact .inl h
  · exact .inr (Option.some.inj h)
end Go.Proofs.YtplpdikkkbiacaaGreatDoor

