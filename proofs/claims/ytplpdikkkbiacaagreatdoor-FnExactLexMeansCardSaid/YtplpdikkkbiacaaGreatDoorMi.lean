/- add at every Rex; the map of what is known, by part and place -/
import Derived.Test.YtplpdikkkbiacaaGreatDoorMh
import Derived.Maps.OwnOps
import Derived.Maps.Views
import Derived.DeepKeys4
namespace Go.Proofs.YtplpdikkkbiacaaGreatDoor
open Go.RowKit
set_option linter.unusedVariables false
set_option linter.unusedSimpArgs false

theorem kids_le2 {kind : Int} {n : Nat} {L H : Nat → Int} {m : Nat} (h : goodB kind n L H m = true) : m ≤ 2 := by
  have := kids_cases (good_kids h)
  omega

theorem add_any (S : Sh) : ∀ (d : Nat) (M : Mx) (mb : Nat) (s : ByteArray) (bm : Nat) (ps : List Pt) (g : Option Addr) (c : Nat) (w : World), formB d S = true → In (· < mb) w S M → cnt S ≤ 1048576 →
    ps.length + szT S ≤ 4194304 → Good ps → mb < w.heap.size → St mb s bm w g c ps → Calls Tryz.prog 69 #[.pointer (some ⟨mb, 0, none⟩), vx S M] w (AddRes S mb s bm ps g c w) := by
  induction S using Sh.ind with
  | h kind n L H m K ih =>
    intro d M mb s bm ps g c w hf hin hcnt hlen hgood hmb hst
    cases d with
    | zero => simp [formB] at hf
    | succ d =>
      have hok : PtOk mb w ⟨.mk kind n L H m K, M, 0, 0⟩ := ⟨hin, ⟨_, hf⟩, hcnt, Nat.zero_le _, Nat.zero_le _⟩
      obtain ⟨hg, hk⟩ := form_kid hf
      obtain ⟨sv, kv, M, rfl⟩ := Mx.cases M
      obtain ⟨a, b, off, cap, a', b', off', cap', e1, hn, hsp, hl, e2, hm, hl', hkid⟩ := hin
      obtain rfl : sv = _ := e1
      obtain rfl : kv = _ := e2
      simp only [Mx.mk_kid] at hkid
      simp only [vx, Sh.mk_kind, Mx.mk_sv, Mx.mk_kv]
      simp only [cnt_mk] at hcnt
      refine add_node kind n L H m K M a cap a' b' off' cap' (kids_le2 hg) mb s bm ps g c w (fun h => (hm h).1) (fun i hi W hW => ?_) hok hlen hgood hmb hst
      obtain ⟨⟨x0, x1, x2⟩, hin0⟩ := hkid i hi
      obtain ⟨p, q, r, p', q', r', z1, z2⟩ := hin0.slices
      have hb' : b' < mb := (hm (by omega)).2
      refine ⟨_, p, p', q, r, q', r', (hW.cell (p := ⟨b', _, none⟩) hb').trans x0, (hW.cell (p := ⟨b', _, none⟩) hb').trans (x1.trans (by rw [z1])), (hW.cell (p := ⟨b', _, none⟩) hb').trans (x2.trans (by rw [z2])), fun s bm ps g c W' hW' hl2 hg2 hmb2 hst2 => ?_⟩
      have := ih i hi d (M i) mb s bm ps g c W' (hk i hi) (hin0.keep (fun k hk _ => hW'.block k hk)) (by have := sumN_at (f := fun i => cnt (K i)) hi; omega) hl2 hg2 hmb2 hst2
      rw [vx, z1, z2] at this
      exact this

/-! the map -/
theorem laid0 : laidOutB Tryz.prog = true := by kernel_rfl
theorem keyed66 : Maps.Keyed Tryz.prog 126 := Maps.Keyed.of_law (deep_law_laid laid0 (m := 5) (by omega) (of_decide_eq_true (by kernel_rfl)) (by kernel_rfl) (by kernel_rfl))
theorem zero44 (w : World) : (zeroValue 93).run Tryz.prog w = .ok (.int .u16 0) w := by
  have h : (Tryz.prog.info? 93).map (fun i => (i.zero, i.size, i.bytes)) = some (some (.int .u16 0), 1, 2) := by kernel_rfl
  obtain ⟨i0, hi, hz0, hz1, hz2⟩ := info_parts h
  simp [zeroValue, typeInfo, hi, hz0]
/-- a part's number and a place, as a key -/
def kl (i j : Nat) : Lit := .string (keyBytes [.int .i64 (i : Int), .int .i64 (j : Int)])
theorem size121 : Tryz.prog.types.size = 225 := by kernel_rfl
theorem cells66 : Tryz.prog.cellsOf 126 = 2 := by kernel_rfl
theorem cells3 : Tryz.prog.cellsOf 3 = 1 := by kernel_rfl
theorem kt66 : Tryz.prog.keyType 126 = true := by kernel_rfl
theorem wf_i64 (i : Nat) (h : i ≤ 9223372036854775807) : (Lit.int .i64 (i : Int)).wf = true := by
  have e1 : IntKind.i64.min = -9223372036854775808 := by decide
  have e2 : IntKind.i64.max = 9223372036854775807 := by decide
  simp [Lit.wf, e1, e2]
  omega
theorem keyOf_pair {P : Program} {k : TypeId} {f0 f1 : Field} (hu : P.underlying k = some (.struct #[f0, f1])) (hk : P.keyType k = true) (hc : P.cellsOf k = 2) {d : Nat} (hts : P.types.size = d + 1)
    (t0 : f0.type = 3) (o0 : f0.offset = 0) (n0 : (f0.name != "_") = true) (t1 : f1.type = 3) (o1 : f1.offset = 1) (n1 : (f1.name != "_") = true) (h3 : P.underlying 3 = some (.int .i64)) (hc3 : P.cellsOf 3 = 1) {i j : Int} (w1 : (Lit.int .i64 i).wf = true) (w2 : (Lit.int .i64 j).wf = true) :
    keyOf P k (.agg #[.int .i64 i, .int .i64 j]) = some (.string (keyBytes [.int .i64 i, .int .i64 j])) := by
  simp only [bne_iff_ne, ne_eq] at n0 n1
  simp [keyOf, hu, hk, Value.formed, hc, Value.cells, hts, Program.keyLits, t0, t1, o0, o1, n0, n1, hc3, h3, w1, w2]
theorem kl_eq (i j : Nat) (hi : i ≤ 9223372036854775807) (hj : j ≤ 9223372036854775807) : keyOf Tryz.prog 126 (.agg #[.int .i64 (i : Int), .int .i64 (j : Int)]) = some (kl i j) :=
  keyOf_pair (d := 224) Tryz.underlying126 kt66 cells66 size121 rfl rfl rfl rfl rfl rfl Tryz.underlying3 cells3 (wf_i64 i hi) (wf_i64 j hj)
theorem kl_ne {i j i' j' : Nat} (hi : i ≤ 9223372036854775807) (hj : j ≤ 9223372036854775807) (hi' : i' ≤ 9223372036854775807) (hj' : j' ≤ 9223372036854775807) (h : ¬ (i = i' ∧ j = j')) : kl i j ≠ kl i' j' := by
  intro e
  have h1 := kl_eq i j hi hj
  have h2 := kl_eq i' j' hi' hj'
  rw [e] at h1
  have := keyed66.inj h1 h2
  simp at this
  omega

/-- what is known: by part and place the places where it ends -/
def Mp (w : World) (b n : Nat) (F : Nat → Nat → Nat → Bool) : Prop := ∃ D : DataW Unit, w.ownsMap Tryz.prog 126 (plainElem Tryz.prog 93) b n D ∧ ∀ p i, p ≤ 4194304 → i ≤ 12 → D.atKey (kl p i) (.lit (.int .u16 0)) = .lit (.int .u16 (pw (F p i) : Int))
theorem Mp.look {w : World} {b n : Nat} {F : Nat → Nat → Nat → Bool} (h : Mp w b n F) {p i : Nat} (hp : p ≤ 4194304) (hi : i ≤ 12) : (Instr.lookup 120 (.map (some b)) (.agg #[.int .i64 (p : Int), .int .i64 (i : Int)]) false).run Tryz.prog w = .ok (.int .u16 (pw (F p i) : Int)) w := by
  obtain ⟨D, hown, hD⟩ := h
  obtain ⟨c, hrun, hat, _⟩ := hown.lookup_int keyed66 Tryz.underlying120 Tryz.underlying93 (zero44 w) (kl_eq p i (by omega) (by omega))
  rw [hD p i hp hi] at hat
  have : (pw (F p i) : Int) = c := by simpa using hat
  rw [this]; exact hrun
theorem Mp.kept {w w' : World} {b n : Nat} {F : Nat → Nat → Nat → Bool} (h : Mp w b n F) (hb : Below w.heap.size w w') : Mp w' b n F := by
  obtain ⟨D, hown, hD⟩ := h
  exact ⟨D, hown.kept (row := none) ⟨hb.os, hb.tape, hb.output, hb.size, fun k hk _ => hb.block k hk⟩ (by simp), hD⟩
theorem Mp.made (w : World) : Mp (w.alloc (.map #[] 0)) w.heap.size 0 (fun _ _ _ => false) :=
  ⟨.map [], World.ownsMap_made w _ _ _, fun p i _ _ => by rw [pw_none]; rfl⟩
theorem Mp.put {w : World} {b n : Nat} {F : Nat → Nat → Nat → Bool} (h : Mp w b n F) (hn : n ≤ 1000000000000) {p i : Nat} (hp : p ≤ 4194304) (hi : i ≤ 12) (B : Nat → Bool) :
    ∃ w', (Instr.mapUpdate 120 (.map (some b)) (.agg #[.int .i64 (p : Int), .int .i64 (i : Int)]) (.int .u16 (pw B : Int))).run Tryz.prog w = .ok () w' ∧ Mp w' b (n + 1) (fun p' i' => if p' = p ∧ i' = i then B else F p' i') ∧ w.grownBy w' (some b) := by
  obtain ⟨D, hown, hD⟩ := h
  have hwf : (Lit.int .u16 (pw B : Int)).wf = true := by
    have := pw_lt B
    have e1 : IntKind.u16.min = 0 := by decide
    have e2 : IntKind.u16.max = 65535 := by decide
    simp [Lit.wf, e1, e2]
    omega
  obtain ⟨w', hrun, hown', hgr⟩ := hown.update keyed66 Tryz.underlying120 (by unfold maxLen; omega) (kl_eq p i (by omega) (by omega)) (plainElem_int Tryz.underlying93 hwf)
  refine ⟨w', hrun, ⟨_, hown', fun p' i' hp' hi' => ?_⟩, hgr⟩
  by_cases e : p' = p ∧ i' = i
  · obtain ⟨rfl, rfl⟩ := e
    simp only [and_self, if_true]
    obtain ⟨es, _, _, _, _, rfl⟩ := hown
    exact Maps.atKey_put_same ⟨_, rfl⟩ (keyed66.key (kl_eq p' i' (by omega) (by omega))) _ _
  · simp only [if_neg e]
    rw [Maps.atKey_put_other (kl_ne (by omega) (by omega) (by omega) (by omega) e)]
    exact hD p' i' hp' hi'
end Go.Proofs.YtplpdikkkbiacaaGreatDoor

