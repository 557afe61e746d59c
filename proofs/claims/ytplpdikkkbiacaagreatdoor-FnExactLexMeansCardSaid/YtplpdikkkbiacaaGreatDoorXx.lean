/- as Nn, and texts stay texts: the walks of markSpanS, markRexS; of markRuleS -/
import Derived.Test.YtplpdikkkbiacaaGreatDoorDl
import Derived.Test.YtplpdikkkbiacaaGreatDoorUb
import Derived.Test.YtplpdikkkbiacaaGreatDoorNb
namespace Go.Proofs.YtplpdikkkbiacaaGreatDoor
open Go.RowKit Go.Shelf
set_option linter.unusedVariables false
set_option linter.unusedSimpArgs false

/-- numbers alone turn, and those in the blocks from lo to hi alone -/
structure Marks (lo hi : Nat) (w w' : World) : Prop where
  os : w'.os = w.os
  tape : w'.tape = w.tape
  output : w'.output = w.output
  size : w.heap.size ≤ w'.heap.size
  far : ∀ k, k < w.heap.size → (k < lo ∨ hi ≤ k) → w'.heap[k]? = w.heap[k]?
  ints : ∀ p x, w.cell? p = some (.int .i64 x) → ∃ y, w'.cell? p = some (.int .i64 y)
  sl : ∀ p a n c, w.cell? p = some (.slice a n c) → w'.cell? p = some (.slice a n c)
  fr : ∀ p : Addr, p.block < w.heap.size → w'.frozen? p = w.frozen? p
  st : ∀ p s, w.cell? p = some (.string s) → ∃ y, w'.cell? p = some (.string y)
theorem Marks.refl (lo hi : Nat) (w : World) : Marks lo hi w w := ⟨rfl, rfl, rfl, Nat.le_refl _, fun _ _ _ => rfl, fun p x h => ⟨x, h⟩, fun _ _ _ _ h => h, fun _ _ => rfl, fun p s h => ⟨s, h⟩⟩
theorem Marks.some {lo hi : Nat} {w w' : World} (h : Marks lo hi w w') {p : Addr} {v : Value} (hv : (∃ x, v = .int .i64 x) ∨ ∃ a n c, v = .slice a n c) (hc : w.cell? p = some v) : ∃ v', w'.cell? p = some v' ∧ ((∃ x, v' = .int .i64 x) ∨ ∃ a n c, v' = .slice a n c) := by
  rcases hv with ⟨x, rfl⟩ | ⟨a, n, c, rfl⟩
  · obtain ⟨y, hy⟩ := h.ints p x hc
    exact ⟨_, hy, .inl ⟨y, rfl⟩⟩
  · exact ⟨_, h.sl p a n c hc, .inr ⟨a, n, c, rfl⟩⟩
theorem Marks.trans {lo hi : Nat} {a b c : World} (h : Marks lo hi a b) (k : Marks lo hi b c) : Marks lo hi a c :=
  ⟨k.os.trans h.os, k.tape.trans h.tape, k.output.trans h.output, Nat.le_trans h.size k.size, fun j hj hf => (k.far j (Nat.lt_of_lt_of_le hj h.size) hf).trans (h.far j hj hf),
   fun p x hp => (let ⟨y, hy⟩ := h.ints p x hp; k.ints p y hy), fun p a n c hp => k.sl p a n c (h.sl p a n c hp), fun p hp => (k.fr p (Nat.lt_of_lt_of_le hp h.size)).trans (h.fr p hp), fun p s hp => (let ⟨y, hy⟩ := h.st p s hp; k.st p y hy)⟩
/-- of a cell that holds a number -/
def Num (w : World) (p : Addr) : Prop := ∃ x, w.cell? p = some (.int .i64 x) ∧ w.frozen? p = false
theorem Num.marks {lo hi : Nat} {w w' : World} {p : Addr} (h : Num w p) (hm : Marks lo hi w w') : Num w' p := by
  obtain ⟨x, h1, h2⟩ := h
  obtain ⟨y, hy⟩ := hm.ints p x h1
  exact ⟨y, hy, (hm.fr p (World.block_lt_of_cell? _ _ h1)).trans h2⟩
theorem Marks.below {lo hi : Nat} {w w' : World} (hb : Below w.heap.size w w') : Marks lo hi w w' :=
  ⟨hb.os, hb.tape, hb.output, hb.size, fun k hk _ => hb.block k hk, fun p x h => ⟨x, (hb.cell (World.block_lt_of_cell? _ _ h)).trans h⟩, fun p a n c h => (hb.cell (World.block_lt_of_cell? _ _ h)).trans h, fun p h => hb.frozen h, fun p s h => ⟨s, (hb.cell (World.block_lt_of_cell? _ _ h)).trans h⟩⟩
theorem Marks.frozen_set {w : World} (p q : Addr) (v : Value) : (w.setCell p v).frozen? q = w.frozen? q := World.frozen?_setCell ..
theorem Marks.set {lo hi : Nat} {w w' : World} (h : Marks lo hi w w') {p : Addr} (hp : Num w' p) (h1 : lo ≤ p.block) (h2 : p.block < hi) (y : Int) : Marks lo hi w (w'.setCell p (.int .i64 y)) := by
  obtain ⟨x, hx, _⟩ := hp
  have same := World.cell?_setCell_same (v := .int .i64 y) w' p hx
  refine ⟨h.os, h.tape, h.output, by simp [World.setCell]; exact h.size, fun k hk hf => (Below.heap_setCell _ _ _ _ (fun e => by omega)).trans (h.far k hk hf), fun q z hq => ?_, fun q a n c hq => ?_, fun q hq => (Marks.frozen_set p q _).trans (h.fr q hq), fun q s hq => ?_⟩
  · by_cases e : p = q
    · subst e; exact ⟨y, same⟩
    · obtain ⟨z', hz⟩ := h.ints q z hq
      exact ⟨z', (World.cell?_setCell_other w' p q _ e).trans hz⟩
  · have hq' := h.sl q a n c hq
    by_cases e : p = q
    · subst e; rw [hx] at hq'; cases hq'
    · exact (World.cell?_setCell_other w' p q _ e).trans hq'
  · obtain ⟨s', hq'⟩ := h.st q s hq
    by_cases e : p = q
    · subst e; rw [hx] at hq'; cases hq'
    · exact ⟨s', (World.cell?_setCell_other w' p q _ e).trans hq'⟩
theorem Marks.setS {lo hi : Nat} {w w' : World} (h : Marks lo hi w w') {p : Addr} {s0 : ByteArray} (hx : w'.cell? p = Option.some (.string s0)) (h1 : lo ≤ p.block) (h2 : p.block < hi) (y : ByteArray) : Marks lo hi w (w'.setCell p (.string y)) := by
  have same := World.cell?_setCell_same (v := Value.string y) w' p hx
  refine ⟨h.os, h.tape, h.output, by simp [World.setCell]; exact h.size, fun k hk hf => (Below.heap_setCell _ _ _ _ (fun e => by omega)).trans (h.far k hk hf), fun q z hq => ?_, fun q a n c hq => ?_, fun q hq => (Marks.frozen_set p q _).trans (h.fr q hq), fun q s hq => ?_⟩
  · obtain ⟨z', hz⟩ := h.ints q z hq
    by_cases e : p = q
    · subst e; rw [hx] at hz; cases hz
    · exact ⟨z', (World.cell?_setCell_other w' p q _ e).trans hz⟩
  · have hq' := h.sl q a n c hq
    by_cases e : p = q
    · subst e; rw [hx] at hq'; cases hq'
    · exact (World.cell?_setCell_other w' p q _ e).trans hq'
  · by_cases e : p = q
    · subst e; exact ⟨y, same⟩
    · obtain ⟨s', hq'⟩ := h.st q s hq
      exact ⟨s', (World.cell?_setCell_other w' p q _ e).trans hq'⟩

set_option maxHeartbeats 1000000 in
theorem markS_any (lo hi : Nat) (a : Option Addr) (b off cap n : Nat) (k0 : Int) (w : World) (hga : 0 < n → a = some ⟨b, off, none⟩ ∧ lo ≤ b ∧ b < hi) (hc : ∀ i, i < n → Num w ⟨b, off + i * 2, none⟩ ∧ Num w ⟨b, off + i * 2 + 1, none⟩) (hk0 : 0 ≤ k0) (hk1 : k0 ≤ 100000000) (hn : n ≤ 4194304) :
    Calls Tryz.prog 26 #[.slice a n cap, .int .i64 k0] w fun e w' => e = .returned (.int .i64 (k0 + 2 * n)) ∧ Marks lo hi w w' := by
  have HC : Hid (∀ i, i < n → Num w ⟨b, off + i * 2, none⟩ ∧ Num w ⟨b, off + i * 2 + 1, none⟩) := hc
  clear hc
  go_enter Tryz.func26, Tryz.ntmps26
  go_wp2
  go_loopw [1, 5] (fun t i wr => ∃ k : Nat, k ≤ n ∧ i = .int .i64 k ∧ t = .int .i64 (k0 + 2 * k) ∧ Hid (Marks lo hi w wr)) (fun _ i _ => n - (intOf i).toNat)
  case atStart => exact ⟨0, by omega, rfl, by simp, Marks.refl _ _ _⟩
  case round =>
    obtain ⟨k, hk, rfl, rfl, HM⟩ := hrel
    by_cases hlt : k < n
    · have hltz : (k : Int) < (n : Int) := by omega
      obtain ⟨rfl, hlo, hhi⟩ := hga (by omega)
      have n0 := (HC.out k hlt).1.marks HM.out
      have m1 := HM.out.set n0 hlo hhi (k0 + 2 * (k : Int))
      have n1 := (HC.out k hlt).2.marks m1
      have HM2 : Hid _ := m1.set n1 hlo hhi (k0 + 2 * (k : Int) + 1)
      obtain ⟨x0, c0, f0⟩ := n0
      obtain ⟨x1, c1, f1⟩ := n1
      clear m1
      go_wp2
      go_roundw
      case rel => exact ⟨k + 1, by omega, by go_num, by go_num, HM2⟩
      case measure => simp [intOf]; omega
    · go_wp2
      go_ret
      obtain rfl : k = n := by omega
      exact ⟨rfl, HM.out⟩

theorem mk_n (S : Sh) : 2 * S.n ≤ mk S := by
  obtain ⟨kd, n2, L2, H2, m2, K2, rfl, _⟩ := Sh.cases S
  rw [mk_mk]; simp only [Sh.mk]; omega
/-- blocks of one's own -/
def Mine (lo hi : Nat) (w : World) (k : Nat) : Prop := lo ≤ k ∧ k < hi ∧ ∀ o, w.frozen? ⟨k, o, none⟩ = false
theorem num_sp {lo hi : Nat} {w : World} {b off n : Nat} {L H : Nat → Int} (h : Sp w b off n L H) (hB : 0 < n → Mine lo hi w b) : ∀ i, i < n → Num w ⟨b, off + i * 2, none⟩ ∧ Num w ⟨b, off + i * 2 + 1, none⟩ := fun i hi =>
  ⟨⟨_, (h i hi).1, (hB (by omega)).2.2 _⟩, ⟨_, (h i hi).2, (hB (by omega)).2.2 _⟩⟩

set_option maxRecDepth 100000 in
set_option maxHeartbeats 2000000 in
theorem markRexS_any (lo hi : Nat) (w0 : World) (S : Sh) : ∀ (M : Mx) (k0 : Int) (w : World), In (Mine lo hi w0) w0 S M → cnt S ≤ 1048576 → Marks lo hi w0 w → 0 ≤ k0 → k0 + (mk S - 2 * S.n : Nat) ≤ 100000000 →
    Calls Tryz.prog 27 #[M.kv, .int .i64 k0] w fun e w' => e = .returned (.int .i64 (k0 + (mk S - 2 * S.n : Nat))) ∧ Marks lo hi w w' := by
  induction S using Sh.ind with
  | h kind n L H m K ih =>
    intro M k0 w h hcnt hM hk0 hk1
    obtain ⟨sv, kv, M, rfl⟩ := Mx.cases M
    obtain ⟨a, b, off, cap, a', b', off', cap', e1, hn, hs, hl, e2, hm, hl', hk⟩ := h
    obtain rfl : sv = _ := e1
    obtain rfl : kv = _ := e2
    simp only [Mx.mk_kid] at hk
    simp only [Mx.mk_kv]
    have emk : (mk (Sh.mk kind n L H m K) - 2 * (Sh.mk kind n L H m K).n) = sumN (fun i => 1 + mk (K i)) m := by rw [mk_mk]; simp only [Sh.mk]; omega
    rw [emk] at hk1 ⊢
    rw [cnt_mk] at hcnt
    have HM0 : Hid (Marks lo hi w0 w) := hM
    have hm20 : m ≤ 1048576 := by omega
    have HB : Hid (∀ j, j ≤ m → k0 + (sumN (fun i => 1 + mk (K i)) j : Nat) ≤ 100000000) := fun j hj => by
      have h1 := sumN_le (f := fun i => 1 + mk (K i)) hj
      omega
    have HIH : Hid (∀ i, i < m → ∀ k1 w1, Marks lo hi w0 w1 → 0 ≤ k1 → k1 ≤ k0 + (1 + 2 * (K i).n + sumN (fun i => 1 + mk (K i)) i : Nat) → Calls Tryz.prog 27 #[(M i).kv, .int .i64 k1] w1 fun e w' => e = .returned (.int .i64 (k1 + (mk (K i) - 2 * (K i).n : Nat))) ∧ Marks lo hi w1 w') := fun i hi' k1 w1 hm1 h0 h1 =>
      ih i hi' (M i) k1 w1 (hk i hi').2 (by have := sumN_at (f := fun i => cnt (K i)) hi'; omega) hm1 h0 (by
        have e1 := sumN_at (f := fun i => 1 + mk (K i)) hi'
        have e3 := mk_n (K i)
        omega)
    have HSET : Hid (∀ i, i < m → ∃ a b off cap, (M i).sv = .slice a (K i).n cap ∧ 2 * (K i).n ≤ mk (K i) ∧ (K i).n ≤ 1048576 ∧ ∀ k1 w1, Marks lo hi w0 w1 → 0 ≤ k1 → k1 ≤ 100000000 → Calls Tryz.prog 26 #[.slice a (K i).n cap, .int .i64 k1] w1 fun e w' => e = .returned (.int .i64 (k1 + 2 * (K i).n)) ∧ Marks lo hi w1 w') := fun i hi' => by
      obtain ⟨kd, n2, L2, H2, m2, K2, he, _⟩ := Sh.cases (K i)
      obtain ⟨sv2, kv2, M2, hm2⟩ := Mx.cases (M i)
      have hin := (hk i hi').2
      have hc2 := sumN_at (f := fun i => cnt (K i)) hi'
      rw [he, hm2] at hin
      rw [he, hm2]
      rw [he, cnt_mk] at hc2
      obtain ⟨a, b, off, cap, a', b', off', cap', e1, hn, hs, _⟩ := hin
      refine ⟨a, b, off, cap, e1, ?_, ?_, fun k1 w1 hm1 h0 h1 => ?_⟩
      · rw [mk_mk]; simp only [Sh.mk]; omega
      · simp only [Sh.mk]; omega
      · refine markS_any lo hi a b off cap n2 k1 w1 (fun h => ⟨(hn h).1, (hn h).2.1, (hn h).2.2.1⟩) (fun j hj => ?_) h0 h1 (by omega)
        obtain ⟨q1, q2⟩ := num_sp hs (fun h => (hn h).2) j hj
        exact ⟨q1.marks hm1, q2.marks hm1⟩
    have HK : Hid (∀ i, i < m → Kid w0 b' (off' + i * 3) (K i) (M i) ∧ Num w0 ⟨b', off' + i * 3, none⟩) := fun i hi' => ⟨(hk i hi').1, _, (hk i hi').1.1, (hm (by omega)).2.2.2 _⟩
    have HKV : Hid (∀ i, i < m → ∃ a n c, (M i).kv = .slice a n c) := fun i hi' => by
      obtain ⟨_, _, _, a', n', c', _, h2⟩ := (hk i hi').2.slices
      exact ⟨a', n', c', h2⟩
    have hmb : 0 < m → lo ≤ b' ∧ b' < hi := fun h => ⟨(hm h).2.1, (hm h).2.2.1⟩
    have hma : 0 < m → a' = some ⟨b', off', none⟩ := fun h => (hm h).1
    clear ih hk hs hn hl hl' hcnt hk1 hM hm
    go_enter Tryz.func27, Tryz.ntmps27
    go_wp2_with fail
    go_loopw [1, 5] (fun t i wr => ∃ (j : Nat) (q : Int), j ≤ m ∧ i = .int .i64 j ∧ t = .int .i64 q ∧ Hid (q = k0 + (sumN (fun i => 1 + mk (K i)) j : Nat)) ∧ Hid (Marks lo hi w wr ∧ Marks lo hi w0 wr)) (fun _ i _ => m - (intOf i).toNat)
    case atStart => exact ⟨0, k0, Nat.zero_le _, rfl, rfl, by simp [Hid, sumN], Marks.refl _ _ _, HM0.out⟩
    case round =>
      obtain ⟨j, q, hj, rfl, rfl, HQ, HM⟩ := hrel
      by_cases hlt : j < m
      · obtain rfl := hma (by omega)
        obtain ⟨hlo, hhi⟩ := hmb (by omega)
        have hltz : (j : Int) < (m : Int) := by omega
        obtain ⟨sa, sb, so, sc, esv, hmn, hsn, HCS⟩ := HSET.out j hlt
        obtain ⟨ka, kn, kc, ekv⟩ := HKV.out j hlt
        have HI := HIH.out j hlt
        rw [ekv] at HI
        obtain ⟨⟨c1, c2, c3⟩, hnum⟩ := HK.out j hlt
        rw [esv] at c2
        rw [ekv] at c3
        have n0 := hnum.marks HM.out.2
        have hB1 := HB.out (j + 1) hlt
        simp only [sumN] at hB1
        obtain ⟨sn, hsn'⟩ : ∃ sn : Nat, (K j).n = sn := ⟨_, rfl⟩
        obtain ⟨mj, hmj⟩ : ∃ mj : Nat, mk (K j) = mj := ⟨_, rfl⟩
        obtain ⟨sj, hsj⟩ : ∃ sj : Nat, sumN (fun i => 1 + mk (K i)) j = sj := ⟨_, rfl⟩
        have hnext : (sumN (fun i => 1 + mk (K i)) (j + 1)) = sj + (1 + mj) := by simp only [sumN, hsj, hmj]
        simp only [hsn', hmj, hsj] at HI HCS hsn hmn c2 hB1 HQ
        have hq0 : 0 ≤ q := by have := HQ.out; omega
        have hq1 : q + 1 + mj ≤ 100000000 := by have := HQ.out; omega
        have m1 : Marks lo hi w0 (wr.setCell ⟨b', off' + j * 3, none⟩ (.int .i64 q)) := HM.out.2.set n0 hlo hhi q
        have m1' : Marks lo hi w (wr.setCell ⟨b', off' + j * 3, none⟩ (.int .i64 q)) := HM.out.1.set n0 hlo hhi q
        have d2 := m1.sl _ _ _ _ c2
        obtain ⟨x0, d1, f1⟩ := n0
        have HI' : Hid (∀ (k1 : Int) w1, Marks lo hi w0 w1 → 0 ≤ k1 → k1 ≤ k0 + (1 + 2 * sn + sj : Nat) → Calls Tryz.prog 27 #[.slice ka kn kc, .int .i64 k1] w1 fun e w' => e = .returned (.int .i64 (k1 + (mj - 2 * sn : Nat))) ∧ Marks lo hi w1 w') := HI
        have HCS' : Hid (Calls Tryz.prog 26 #[.slice sa sn sc, .int .i64 (q + 1)] (wr.setCell ⟨b', off' + j * 3, none⟩ (.int .i64 q)) fun e w' => e = .returned (.int .i64 (q + 1 + 2 * sn)) ∧ Marks lo hi (wr.setCell ⟨b', off' + j * 3, none⟩ (.int .i64 q)) w') := HCS (q + 1) _ m1 (by omega) (by omega)
        have HM1 : Hid _ := And.intro m1 m1'
        have HC3 : Hid (∀ w1, Marks lo hi w0 w1 → w1.cell? ⟨b', off' + j * 3 + 2, none⟩ = some (.slice ka kn kc)) := fun w1 h => h.sl _ _ _ _ c3
        clear c1 c2 c3 hnum HI HCS m1 m1' HM esv ekv
        go_wp2_with fail
        refine HCS'.out.mono ?_
        rintro e w2 ⟨rfl, hm2⟩
        have m2 : Marks lo hi w0 w2 := HM1.out.1.trans hm2
        have m2' : Marks lo hi w w2 := HM1.out.2.trans hm2
        have d3 := HC3.out _ m2
        have HC4 : Hid (Calls Tryz.prog 27 #[.slice ka kn kc, .int .i64 (q + 1 + 2 * sn)] w2 fun e w' => e = .returned (.int .i64 (q + 1 + 2 * sn + (mj - 2 * sn : Nat))) ∧ Marks lo hi w2 w') := HI'.out (q + 1 + 2 * sn) w2 m2 (by omega) (by have := HQ.out; omega)
        have HM2 : Hid _ := And.intro m2 m2'
        clear hm2 m2 m2'
        go_wp2_with fail
        refine HC4.out.mono ?_
        rintro e w3 ⟨rfl, hm3⟩
        have HM3 : Hid _ := And.intro (HM2.out.1.trans hm3) (HM2.out.2.trans hm3)
        clear hm3
        go_wp2_with fail
        go_roundw
        case rel => exact ⟨j + 1, _, by omega, by go_num, rfl, by rw [Hid, hnext]; have := HQ.out; omega, HM3.out.2, HM3.out.1⟩
        case measure => simp [intOf]; omega
      · go_wp2_with fail
        go_ret
        obtain rfl : j = m := by omega
        exact ⟨ret_int HQ.out, HM.out.1⟩

/-- what the marks of a Rex do, part by part -/
theorem rex_marks (lo hi : Nat) (S : Sh) (M : Mx) (w : World) (h : In (Mine lo hi w) w S M) (hcnt : cnt S ≤ 1048576) : ∃ (a : Option Addr) (n c : Nat) (a' : Option Addr) (m c' z : Nat), M.sv = .slice a n c ∧ M.kv = .slice a' m c' ∧ 2 * n + z = mk S ∧
    (∀ (k1 : Int) w1, Marks lo hi w w1 → 0 ≤ k1 → k1 ≤ 90000000 → Calls Tryz.prog 26 #[.slice a n c, .int .i64 k1] w1 fun e w' => e = .returned (.int .i64 (k1 + 2 * n)) ∧ Marks lo hi w1 w') ∧
    (∀ (k1 : Int) w1, Marks lo hi w w1 → 0 ≤ k1 → k1 ≤ 90000000 → Calls Tryz.prog 27 #[.slice a' m c', .int .i64 k1] w1 fun e w' => e = .returned (.int .i64 (k1 + z)) ∧ Marks lo hi w1 w') := by
  have hmk := mk_le S
  have hmn := mk_n S
  have H41 := fun (k1 : Int) w1 (hm : Marks lo hi w w1) (h0 : 0 ≤ k1) (h1 : k1 ≤ 90000000) => markRexS_any lo hi w S M k1 w1 h hcnt hm h0 (by omega)
  obtain ⟨kind, n, L, H, m, K, rfl, _⟩ := Sh.cases S
  obtain ⟨sv, kv, Mk, rfl⟩ := Mx.cases M
  obtain ⟨a, b, off, cap, a', b', off', cap', e1, hn, hs, hl, e2, hm, hl', hk⟩ := h
  obtain rfl : sv = _ := e1
  obtain rfl : kv = _ := e2
  rw [show (Sh.mk kind n L H m K).n = n from rfl] at H41 hmn
  have hn20 : n ≤ 4194304 := by rw [cnt_mk] at hcnt; omega
  refine ⟨a, n, cap, a', m, cap', mk (Sh.mk kind n L H m K) - 2 * n, rfl, rfl, by omega, fun k1 w1 hm1 h0 h1 => ?_, H41⟩
  exact markS_any lo hi a b off cap n k1 w1 (fun h => ⟨(hn h).1, (hn h).2.1, (hn h).2.2.1⟩) (fun j hj => by
      obtain ⟨q1, q2⟩ := num_sp hs (fun h => (hn h).2) j hj
      exact ⟨q1.marks hm1, q2.marks hm1⟩) h0 (by omega) hn20

set_option maxRecDepth 100000 in
set_option maxHeartbeats 4000000 in
theorem markRuleS_any (lo hi : Nat) (a : Option Addr) (b off n cap : Nat) (N : Nat → ByteArray) (K : Nat → Sh) (M : Nat → Mx) (w : World) (hga : 0 < n → a = some ⟨b, off, none⟩ ∧ lo ≤ b ∧ b < hi) (hf : ∀ o, w.frozen? ⟨b, o, none⟩ = false) (hR : RulesIn (Mine lo hi w) w b off n N K M) (hn : n ≤ 1048576)
    (hc : cntS N K n ≤ 1048576) :
    Calls Tryz.prog 10 #[.slice a n cap, .int .i64 1] w fun e w' => (∃ k : Nat, e = .returned (.int .i64 k)) ∧ Marks lo hi w w' := by
  have HK : Hid (∀ k, k < n → cntS N K (k + 1) ≤ 1048576 ∧ cntS N K (k + 1) = cntS N K k + cntU (N k) (K k)) := fun k hk => ⟨Nat.le_trans (sumN_le (f := fun i => cntU (N i) (K i)) (show k + 1 ≤ n by omega)) hc, rfl⟩
  have HX : Hid (∀ k, k < n → ∃ (a1 : Option Addr) (n1 c1 : Nat) (a2 : Option Addr) (n2 c2 z : Nat), 2 * n1 + z ≤ 2 * cnt (K k) ∧
    (∀ V, Marks lo hi w V → (∃ s, V.cell? ⟨b, off + k * 4, none⟩ = some (.string s)) ∧ Num V ⟨b, off + k * 4 + 1, none⟩ ∧ V.cell? ⟨b, off + k * 4 + 2, none⟩ = some (.slice a1 n1 c1) ∧ V.cell? ⟨b, off + k * 4 + 3, none⟩ = some (.slice a2 n2 c2) ∧ V.frozen? ⟨b, off + k * 4, none⟩ = false) ∧
    (∀ (k1 : Int) w1, Marks lo hi w w1 → 0 ≤ k1 → k1 ≤ 90000000 → Calls Tryz.prog 26 #[.slice a1 n1 c1, .int .i64 k1] w1 fun e w' => e = .returned (.int .i64 (k1 + 2 * n1)) ∧ Marks lo hi w1 w') ∧
    (∀ (k1 : Int) w1, Marks lo hi w w1 → 0 ≤ k1 → k1 ≤ 90000000 → Calls Tryz.prog 27 #[.slice a2 n2 c2, .int .i64 k1] w1 fun e w' => e = .returned (.int .i64 (k1 + z)) ∧ Marks lo hi w1 w')) := fun k hk => by
    obtain ⟨hat, hin⟩ := hR k hk
    have h1 := HK k hk
    obtain ⟨a1, n1, c1, a2, n2, c2, z, es, ek, e2, g1, g2⟩ := rex_marks lo hi (K k) (M k) w hin (by have := h1.2; unfold cntU at this; omega)
    obtain ⟨d0, d1, d2, d3⟩ := hat.cells
    rw [es] at d2
    rw [ek] at d3
    have := mk_le (K k)
    exact ⟨a1, n1, c1, a2, n2, c2, z, by omega, fun V hV => ⟨hV.st _ _ d0, Num.marks ⟨_, d1, hf _⟩ hV, hV.sl _ _ _ _ d2, hV.sl _ _ _ _ d3, (hV.fr _ (World.block_lt_of_cell? _ _ d0)).trans (hf _)⟩, g1, g2⟩
  clear hR hf hc
  go_enter Tryz.func10, Tryz.ntmps10
  go_wp2_with fail
  go_loopw [1, 5] (fun t i wr => ∃ (k x : Nat), k ≤ n ∧ i = .int .i64 k ∧ t = .int .i64 x ∧ x ≤ 1 + 2 * k + 2 * cntS N K k ∧ cntS N K k ≤ 1048576 ∧ Hid (Marks lo hi w wr)) (fun _ i _ => n - (intOf i).toNat)
  case atStart => exact ⟨0, 1, Nat.zero_le _, rfl, rfl, by omega, Nat.zero_le _, Marks.refl _ _ _⟩
  case round =>
    obtain ⟨k, x, hk, rfl, rfl, hx, hkc, HM⟩ := hrel
    by_cases hlt : k < n
    · obtain ⟨rfl, hlo, hhi⟩ := hga (by omega)
      have hltz : (k : Int) < (n : Int) := by omega
      obtain ⟨a1, n1, c1, a2, n2, c2, z, hz, HV, HS, HR⟩ := HX.out k hlt
      have HV : Hid _ := HV
      have HS : Hid _ := HS
      have HR : Hid _ := HR
      obtain ⟨hk1, hk2⟩ := HK.out k hlt
      unfold cntU at hk2
      go_wp2_with fail
      refine (markText_any (x : Int) wr (by omega) (by omega)).mono ?_
      rintro e w1 ⟨⟨s, rfl⟩, hb1⟩
      have HM1 : Hid (Marks lo hi w w1) := HM.out.trans (.below hb1)
      obtain ⟨⟨s0, p0⟩, q0, p2, p3, f0⟩ := HV.out w1 HM1.out
      have HM2 : Hid (Marks lo hi w (w1.setCell ⟨b, off + k * 4, none⟩ (.string s))) := HM1.out.setS p0 hlo hhi s
      obtain ⟨_, q1, p2', p3', _⟩ := HV.out _ HM2.out
      have HM3 : Hid (Marks lo hi w ((w1.setCell ⟨b, off + k * 4, none⟩ (.string s)).setCell ⟨b, off + k * 4 + 1, none⟩ (.int .i64 ((x : Int) + 1)))) := HM2.out.set q1 hlo hhi _
      obtain ⟨_, _, r2, r3, _⟩ := HV.out _ HM3.out
      obtain ⟨y1, q1, f1⟩ := q1
      clear p2 p3 p2' p3' q0 hb1
      go_wp2_with fail
      refine (HS.out ((x : Int) + 1 + 1) _ HM3.out (by omega) (by omega)).mono ?_
      rintro e w2 ⟨rfl, hm2⟩
      have HM4 : Hid (Marks lo hi w w2) := HM3.out.trans hm2
      obtain ⟨_, _, _, t3, _⟩ := HV.out _ HM4.out
      clear hm2 r2 r3 p0 q1
      go_wp2_with fail
      refine (HR.out ((x : Int) + 1 + 1 + 2 * n1) _ HM4.out (by omega) (by omega)).mono ?_
      rintro e w3 ⟨rfl, hm3⟩
      have HM5 : Hid (Marks lo hi w w3) := HM4.out.trans hm3
      clear hm3 t3
      go_wp2_with fail
      go_roundw
      case rel => exact ⟨k + 1, x + 1 + 1 + 2 * n1 + z, by omega, by go_num, by go_num, by omega, by omega, HM5.out⟩
      case measure => simp [intOf]; omega
    · have hltz : ¬ (k : Int) < (n : Int) := by omega
      go_wp2_with fail
      go_ret
      exact ⟨⟨x, rfl⟩, HM.out⟩
end Go.Proofs.YtplpdikkkbiacaaGreatDoor

