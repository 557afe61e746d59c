/- the walk of run -/
import Derived.Test.YtplpdikkkbiacaaGreatDoorMk
namespace Go.Proofs.YtplpdikkkbiacaaGreatDoor
open Go.RowKit
set_option linter.unusedVariables false
set_option linter.unusedSimpArgs false

/-- what is told of the part at p, place i, is right -/
def Tell (t : List UInt8) (ps : List Pt) (F : Nat → Nat → Nat → Bool) (p i : Nat) : Prop := ∀ P : Pt, ps[p]? = some P → ∀ j, F p i j = EB t P.S i j
/-- all is known of the places from k on, and, at the place ahead of them, of the parts below x -/
def Know (t : List UInt8) (ps : List Pt) (F : Nat → Nat → Nat → Bool) (k x : Nat) : Prop := ∀ p i, i ≤ t.length → (k ≤ i ∨ i + 1 = k ∧ p < x) → Tell t ps F p i

theorem Sh.of_mk (S : Sh) : ∃ (n : Nat) (L H : Nat → Int) (K : Nat → Sh), S = Sh.mk S.kind n L H S.m K ∧ n = S.n ∧ L = S.L ∧ H = S.H ∧ ∀ i, i < S.m → S.kid i = K i := by
  obtain ⟨kind, n, L, H, m, K, e, hK⟩ := S.cases
  subst e
  exact ⟨n, L, H, K, rfl, rfl, rfl, rfl, fun i hi => Sh.mk_kid hi⟩

theorem find_right {t : List UInt8} {ps : List Pt} {F : Nat → Nat → Nat → Bool} {i x : Nat} {P : Pt} (hi : i ≤ t.length) (hgood : Good ps) (hP : ps[x]? = some P) (hk : kidsOf P.S.kind = (P.S.m : Int)) (hF : Know t ps F (i + 1) x) :
    ∀ j, findB t P.S.kind P.S.n P.S.L P.S.H P.k0 P.k1 F x i j = EB t P.S i j := by
  intro j
  obtain ⟨n, L, H, K, e, en, eL, eH, hK⟩ := P.S.of_mk
  have hkid : ∀ r, r < P.S.m → P.kd r < x ∧ ∀ y, y ≤ t.length → i ≤ y → ∀ j, F (P.kd r) y j = EB t (K r) y j := fun r hr => by
    obtain ⟨h1, Q, hQ, eQ⟩ := hgood x P hP r hr
    refine ⟨h1, fun y hy hiy j => ?_⟩
    have := hF (P.kd r) y hy (by omega) Q hQ j
    rw [this, eQ, hK r hr]
  rw [← en, ← eL, ← eH]
  have hk0 : 0 < P.S.m → ∀ y, y ≤ t.length → i ≤ y → ∀ j, F P.k0 y j = EB t (K 0) y j := fun h => (hkid 0 h).2
  have hk1 : 1 < P.S.m → ∀ y, y ≤ t.length → i ≤ y → ∀ j, F P.k1 y j = EB t (K 1) y j := fun h => (hkid 1 h).2
  have hself : ∀ y, y ≤ t.length → i < y → ∀ j, F x y j = EB t P.S y j := fun y hy hiy j => hF x y hy (by omega) P hP j
  generalize hkk : P.S.kind = kind at *
  generalize hmm : P.S.m = m at *
  rcases kids_cases hk with ⟨rfl, rfl⟩ | ⟨rfl, rfl⟩ | ⟨rfl, rfl⟩ | ⟨rfl, rfl⟩ | ⟨rfl, rfl⟩ | ⟨rfl, rfl⟩ | ⟨rfl, rfl⟩
  · show byteB t n L H i j = _
    rw [e, Bool.eq_iff_iff, EB_1]
    simp only [byteB, Bool.and_eq_true, beq_iff_eq]
    cases t[i]? <;> simp
  · show (j == i) = _
    rw [e, EB_2 t n L H 0 K i j hi]
  · show behB (F P.k0 i) (F P.k1) (t.length + 1) j = _
    rw [e, EB_3, behB, Bool.eq_iff_iff]
    simp only [List.any_eq_true, List.mem_range, Bool.and_eq_true]
    constructor
    · rintro ⟨y, hy, h1, h2⟩
      rw [hk0 (by omega) i hi (Nat.le_refl _)] at h1
      have hb := EB_iff.1 h1
      rw [hk1 (by omega) y (by omega) hb.1] at h2
      exact ⟨y, hy, h1, h2⟩
    · rintro ⟨y, hy, h1, h2⟩
      have hb := EB_iff.1 h1
      refine ⟨y, hy, ?_, ?_⟩
      · rw [hk0 (by omega) i hi (Nat.le_refl _)]; exact h1
      · rw [hk1 (by omega) y (by omega) hb.1]; exact h2
  · show (F P.k0 i j || F P.k1 i j) = _
    rw [e, EB_4, hk0 (by omega) i hi (Nat.le_refl _), hk1 (by omega) i hi (Nat.le_refl _)]
  · show ((j == i) || behB (fun x => F P.k0 i x && !(x == i)) (F x) (t.length + 1) j) = _
    rw [e, EB_5 t n L H K i j hi, ← e]
    congr 1
    rw [behB, Bool.eq_iff_iff]
    simp only [List.any_eq_true, List.mem_range, Bool.and_eq_true, Bool.not_eq_true', beq_eq_false_iff_ne]
    constructor
    · rintro ⟨y, hy, ⟨h1, hne⟩, h2⟩
      rw [hk0 (by omega) i hi (Nat.le_refl _)] at h1
      have hb := EB_iff.1 h1
      rw [hself y (by omega) (by omega)] at h2
      exact ⟨y, hy, ⟨h1, hne⟩, h2⟩
    · rintro ⟨y, hy, ⟨h1, hne⟩, h2⟩
      have hb := EB_iff.1 h1
      refine ⟨y, hy, ⟨?_, hne⟩, ?_⟩
      · rw [hk0 (by omega) i hi (Nat.le_refl _)]; exact h1
      · rw [hself y (by omega) (by omega)]; exact h2
  · show (F P.k0 i j && F P.k1 i j) = _
    rw [e, EB_6, hk0 (by omega) i hi (Nat.le_refl _), hk1 (by omega) i hi (Nat.le_refl _)]
  · show (fromB i (t.length + 1) j && !F P.k0 i j) = _
    rw [e, EB_7, hk0 (by omega) i hi (Nat.le_refl _)]
    congr 1
    rw [fromB, Bool.eq_iff_iff]
    simp
    omega

theorem Know.step {t : List UInt8} {ps : List Pt} {F : Nat → Nat → Nat → Bool} {i x : Nat} {B : Nat → Bool} (hF : Know t ps F (i + 1) x) (hB : ∀ P : Pt, ps[x]? = some P → ∀ j, B j = EB t P.S i j) :
    Know t ps (fun p' i' => if p' = x ∧ i' = i then B else F p' i') (i + 1) (x + 1) := by
  intro p y hy h P hP j
  by_cases e : p = x ∧ y = i
  · obtain ⟨rfl, rfl⟩ := e
    simp only [and_self, if_true]
    exact hB P hP j
  · simp only [if_neg e]
    exact hF p y hy (by omega) P hP j
theorem Know.down {t : List UInt8} {ps : List Pt} {F : Nat → Nat → Nat → Bool} {i : Nat} (hF : Know t ps F (i + 1) ps.length) : Know t ps F i 0 := by
  intro p y hy h P hP j
  have := (List.getElem?_eq_some_iff.1 hP).1
  exact hF p y hy (by omega) P hP j
theorem Know.start (t : List UInt8) (ps : List Pt) (F : Nat → Nat → Nat → Bool) : Know t ps F (t.length + 1) 0 := fun p i hi h => by omega

/-- a block that holds a map holds no cells -/
theorem cell_keep {w w' : World} {bm : Nat} (hm : ∃ es c, w.heap[bm]? = some (.map es c)) (hg : w.grownBy w' (some bm)) {a : Addr} {v : Value} (h : w.cell? a = some v) : w'.cell? a = some v :=
  hg.cell h (fun e => by
    obtain ⟨es, c, hb⟩ := hm
    have e' : a.block = bm := Option.some.inj e
    unfold World.cell? at h
    rw [e', hb] at h
    simp at h)
theorem Mp.block {w : World} {b n : Nat} {F : Nat → Nat → Nat → Bool} (h : Mp w b n F) : ∃ es c, w.heap[b]? = some (.map es c) := by
  obtain ⟨D, ⟨es, c, hb, _⟩, _⟩ := h
  exact ⟨es, c, hb⟩
theorem Sp.map {w w' : World} {bm b off n : Nat} {L H : Nat → Int} (h : Sp w b off n L H) (hm : ∃ es c, w.heap[bm]? = some (.map es c)) (hg : w.grownBy w' (some bm)) : Sp w' b off n L H := fun i hi =>
  ⟨cell_keep hm hg (h i hi).1, cell_keep hm hg (h i hi).2⟩
theorem Grown.trans {a b c : World} {r : Option Nat} (h : a.grownBy b r) (h' : b.grownBy c r) : a.grownBy c r :=
  ⟨h'.os.trans h.os, h'.tape.trans h.tape, h'.output.trans h.output, Nat.le_trans h.size h'.size, fun k hk hr => (h'.block k (Nat.lt_of_lt_of_le hk h.size) hr).trans (h.block k hk hr)⟩
theorem Grown.below {a b : World} {r : Option Nat} (h : Below a.heap.size a b) : a.grownBy b r := ⟨h.os, h.tape, h.output, h.size, fun k hk _ => h.block k hk⟩
end Go.Proofs.YtplpdikkkbiacaaGreatDoor
namespace Go.Proofs.YtplpdikkkbiacaaGreatDoor
open Go.RowKit
set_option linter.unusedVariables false
set_option linter.unusedSimpArgs false

def PtAt (w : World) (gp x : Nat) (P : Pt) : Prop := w.cell? ⟨gp, x * 4, none⟩ = some (.int .i64 P.S.kind) ∧ w.cell? ⟨gp, x * 4 + 1, none⟩ = some P.M.sv ∧ w.cell? ⟨gp, x * 4 + 2, none⟩ = some (.int .i64 (P.k0 : Int)) ∧ w.cell? ⟨gp, x * 4 + 3, none⟩ = some (.int .i64 (P.k1 : Int))
/-- the matcher in memory, as run and find read it -/
def Rd (w : World) (mb bm : Nat) (s : ByteArray) (gp c : Nat) (ps : List Pt) : Prop :=
  w.cell? ⟨mb, 0, none⟩ = some (.string s) ∧ w.cell? ⟨mb, 1, none⟩ = some (.slice (some ⟨gp, 0, none⟩) ps.length c) ∧ w.cell? ⟨mb, 2, none⟩ = some (.map (some bm)) ∧ (∀ x P, ps[x]? = some P → PtAt w gp x P) ∧ ∀ P ∈ ps, PtOk mb w P
/-- .. and the sets of its parts -/
def Rs (w : World) (ps : List Pt) : Prop := ∀ P ∈ ps, ∃ (a : Option Addr) (b off cap : Nat), P.M.sv = .slice a P.S.n cap ∧ (0 < P.S.n → a = some ⟨b, off, none⟩) ∧ Sp w b off P.S.n P.S.L P.S.H

theorem Rs.of {mb : Nat} {w : World} {ps : List Pt} (h : ∀ P ∈ ps, PtOk mb w P) : Rs w ps := fun P hP => by
  obtain ⟨hin, _⟩ := h P hP
  obtain ⟨S, M, k0, k1⟩ := P
  obtain ⟨kind, n, L, H, m, kids⟩ := S
  obtain ⟨a, b, off, cap, a', b', off', cap', e1, hn, hsp, _⟩ := hin
  exact ⟨a, b, off, cap, e1, fun h => (hn h).1, hsp⟩

theorem find_at (mb bm N : Nat) (s : ByteArray) (hs : s.size ≤ 12) (gp c : Nat) (ps : List Pt) (hlen : ps.length ≤ 4194304) (w0 w : World) (hgood : Good ps) (hrd : Rd w0 mb bm s gp c ps) (hrs : Rs w0 ps) (hm : ∃ es c, w0.heap[bm]? = some (.map es c)) (hg : w0.grownBy w (some bm))
    (F : Nat → Nat → Nat → Bool) (HM : Mp w bm N F) (i x : Nat) (hi : i ≤ s.size) (hx : x < ps.length) (hF : Know (tx s) ps F (i + 1) x) :
    ∃ B : Nat → Bool, (∀ P : Pt, ps[x]? = some P → ∀ j, B j = EB (tx s) P.S i j) ∧ Calls Tryz.prog 81 #[.pointer (some ⟨mb, 0, none⟩), .int .i64 x, .int .i64 i] w fun e w' => e = .returned (.int .u16 (pw B)) ∧ Below w.heap.size w w' := by
  obtain ⟨P, hP⟩ : ∃ P, ps[x]? = some P := ⟨ps[x], List.getElem?_eq_getElem hx⟩
  have hmem : P ∈ ps := List.mem_of_getElem? hP
  obtain ⟨r0, r1, r2, r3, r4⟩ := hrd
  obtain ⟨p0, p1, p2, p3⟩ := r3 x P hP
  obtain ⟨hin, ⟨d, hf⟩, hcnt, hk0, hk1⟩ := r4 P hmem
  obtain ⟨a, b, off, cap, e1, hga, hsp⟩ := hrs P hmem
  rw [e1] at p1
  obtain ⟨n, L, H, K, e, en, eL, eH, hK⟩ := P.S.of_mk
  have hkids : kidsOf P.S.kind = (P.S.m : Int) := by
    cases d with
    | zero => simp [formB] at hf
    | succ d => rw [e] at hf; exact good_kids (form_kid hf).1
  have hnn : P.S.n ≤ 1048576 := by
    rw [e, cnt_mk] at hcnt; omega
  refine ⟨findB (tx s) P.S.kind P.S.n P.S.L P.S.H P.k0 P.k1 F x i, fun P' hP' j => ?_, ?_⟩
  · rw [hP] at hP'
    cases hP'
    exact find_right (by rw [← tx_size]; exact hi) hgood hP hkids hF j
  · exact find_any mb bm N s hs P.S.kind (by have := kids_cases hkids; omega) a b off cap P.S.n P.S.L P.S.H P.k0 P.k1 gp ps.length c x i hx hlen hk0 hk1 hi F w (cell_keep hm hg r0) (cell_keep hm hg r1) (cell_keep hm hg r2)
      (cell_keep hm hg p0) (cell_keep hm hg p1) (cell_keep hm hg p2) (cell_keep hm hg p3) HM hga (hsp.map hm hg) hnn

def RunRes (mb bm : Nat) (s : ByteArray) (ps : List Pt) (w : World) (e : Ending) (w' : World) : Prop :=
  e = .returned (.tuple #[]) ∧ w.grownBy w' (some bm) ∧ ∃ N F, Mp w' bm N F ∧ Know (tx s) ps F 0 0

set_option maxRecDepth 100000 in
set_option maxHeartbeats 4000000 in
theorem run_any (mb bm : Nat) (s : ByteArray) (hs : s.size ≤ 12) (gp c : Nat) (ps : List Pt) (hlen : ps.length ≤ 4194304) (w : World) (HG : Hid (Good ps)) (HRD : Hid (Rd w mb bm s gp c ps)) (HM0 : Hid (Mp w bm 0 (fun _ _ _ => false))) :
    Calls Tryz.prog 70 #[.pointer (some ⟨mb, 0, none⟩)] w (RunRes mb bm s ps w) := by
  have HSZ : Hid (s.size = (tx s).length) := tx_size s
  have HBM : Hid (∃ es c, w.heap[bm]? = some (.map es c)) := HM0.out.block
  have HRS : Hid (Rs w ps) := Rs.of HRD.out.2.2.2.2
  obtain ⟨q, hq⟩ : ∃ q, ps.length = q := ⟨_, rfl⟩
  have HQ : Hid (ps.length = q) := hq
  have HCL : Hid (∀ W, w.grownBy W (some bm) → W.cell? ⟨mb, 0, none⟩ = some (.string s) ∧ W.cell? ⟨mb, 1, none⟩ = some (.slice (some ⟨gp, 0, none⟩) q c) ∧ W.cell? ⟨mb, 2, none⟩ = some (.map (some bm))) := fun W hg =>
    ⟨cell_keep HBM.out hg HRD.out.1, by rw [← HQ.out]; exact cell_keep HBM.out hg HRD.out.2.1, cell_keep HBM.out hg HRD.out.2.2.1⟩
  clear hq
  obtain ⟨c0, c1, c2⟩ := HCL.out w ⟨rfl, rfl, rfl, Nat.le_refl _, fun _ _ _ => rfl⟩
  go_enter Tryz.func70, Tryz.ntmps70
  go_wp2_with fail
  clear c0 c1 c2
  go_loopw [2] (fun o wr => ∃ (k n : Nat) (F : Nat → Nat → Nat → Bool), k ≤ s.size + 1 ∧ o = .int .i64 ((k : Int) - 1) ∧ Hid (w.grownBy wr (some bm)) ∧ Hid (Mp wr bm n F) ∧ Hid (Know (tx s) ps F k 0) ∧ n + k * 4194304 ≤ 100000000) (fun o _ => (intOf o + 1).toNat)
  case atStart => exact ⟨s.size + 1, 0, _, Nat.le_refl _, by go_num, ⟨rfl, rfl, rfl, Nat.le_refl _, fun _ _ _ => rfl⟩, HM0, by rw [Hid, HSZ.out]; exact Know.start _ _ _, by omega⟩
  case round =>
    obtain ⟨k, n, F, hk, rfl, HGR, HM, HK, hnn⟩ := hrel
    obtain ⟨c0, c1, c2⟩ := HCL.out wr HGR.out
    by_cases hlt : 1 ≤ k
    · obtain ⟨i, rfl⟩ : ∃ i, k = i + 1 := ⟨k - 1, by omega⟩
      have hie : ((i + 1 : Nat) : Int) - 1 = (i : Int) := by omega
      rw [hie]
      clear hie
      have hz : (0 : Int) ≤ (i : Int) := by omega
      go_wp2_with fail
      go_loopw [18] (fun o wq => ∃ (x n' : Nat) (F' : Nat → Nat → Nat → Bool), x ≤ q ∧ o = .int .i64 x ∧ Hid (w.grownBy wq (some bm)) ∧ Hid (Mp wq bm n' F') ∧ Hid (Know (tx s) ps F' (i + 1) x) ∧ n' ≤ n + x) (fun o _ => q - (intOf o).toNat)
      case atStart => exact ⟨0, n, F, Nat.zero_le _, rfl, HGR, HM, HK, by omega⟩
      case round =>
        clear HGR HM HK c0 c1 c2
        obtain ⟨x, n', F', hx, rfl, HGR, HM, HK, hn'⟩ := hrel
        obtain ⟨c0, c1, c2⟩ := HCL.out wr HGR.out
        by_cases hxq : x < q
        · have hxz : (x : Int) < (q : Int) := by omega
          have hgd : w.grownBy wr.drew (some bm) := ⟨HGR.out.os, HGR.out.tape, HGR.out.output, HGR.out.size, HGR.out.block⟩
          have HQL : Hid (q ≤ 4194304) := by rw [Hid, ← HQ.out]; exact hlen
          have hql := HQL.out
          obtain ⟨B, hB, hcall⟩ := find_at mb bm n' s hs gp c ps hlen w wr.drew HG.out HRD.out HRS.out HBM.out hgd F' HM.out i x (by omega) (by rw [HQ.out]; exact hxq) HK.out
          have HF : Hid (Calls Tryz.prog 81 #[.pointer (some ⟨mb, 0, none⟩), .int .i64 x, .int .i64 i] wr.drew fun e w' => e = .returned (.int .u16 (pw B)) ∧ Below wr.drew.heap.size wr.drew w') := hcall
          have HB : Hid (∀ P : Pt, ps[x]? = some P → ∀ j, B j = EB (tx s) P.S i j) := hB
          have HUP : Hid (∀ w1, Below wr.drew.heap.size wr.drew w1 → ∃ w2, (Instr.mapUpdate 120 (.map (some bm)) (.agg #[.int .i64 (x : Int), .int .i64 (i : Int)]) (.int .u16 (pw B : Int))).run Tryz.prog w1 = .ok () w2 ∧ Mp w2 bm (n' + 1) (fun p' i' => if p' = x ∧ i' = i then B else F' p' i') ∧ w1.grownBy w2 (some bm)) := fun w1 hb =>
            (Mp.kept (w := wr.drew) HM.out hb).put (by have := HQL.out; omega) (by have := HQL.out; omega) (by omega) B
          have HCW : Hid (∀ w1, Below wr.drew.heap.size wr.drew w1 → w1.cell? ⟨mb, 2, none⟩ = some (.map (some bm))) := fun w1 hb => (HCL.out w1 (Grown.trans hgd (Grown.below hb))).2.2
          have HGD : Hid (w.grownBy wr.drew (some bm)) := hgd
          clear hcall hB hgd c0 c1
          go_wp2_with fail
          go_region_with (go_at_call 81; refine HF.out.mono ?_; rintro e w1 ⟨rfl, hb1⟩; obtain ⟨w2, hup, hmp2, hgr2⟩ := HUP.out w1 hb1; have e2 := HCW.out w1 hb1)
          all_goals go_wp2_with fail
          all_goals
            go_roundw
            case rel => exact ⟨x + 1, n' + 1, _, by omega, by go_num, Grown.trans (Grown.trans HGD.out (Grown.below hb1)) hgr2, hmp2, HK.out.step HB.out, by omega⟩
            case measure => simp [intOf]; omega
        · have hxz : ¬ ((x : Int) < (q : Int)) := by omega
          obtain rfl : x = q := by omega
          have HK2 : Hid (Know (tx s) ps F' i 0) := by
            have h := HK.out
            rw [← HQ.out] at h
            exact h.down
          have HQL : Hid (x ≤ 4194304) := by rw [Hid, ← HQ.out]; exact hlen
          go_wp2_with fail
          go_roundw
          case rel => exact ⟨i, n', F', by omega, by go_num, HGR, HM, HK2, by have := HQL.out; omega⟩
          case measure => simp [intOf]
    · have hz : ¬ ((0 : Int) ≤ (k : Int) - 1) := by omega
      obtain rfl : k = 0 := by omega
      go_wp2_with fail
      go_end0
      exact ⟨rfl, HGR.out, n, F, HM.out, HK.out⟩
end Go.Proofs.YtplpdikkkbiacaaGreatDoor

