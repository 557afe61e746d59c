/- What marking makes of a Rex whose lists are all apart: the walks of markSpanS, markRexS, markRex, heldSpanS, heldRexS, heldRex. -/
import Derived.Test.YtiphmmgfmiiilaaDoorNa
namespace Go.Proofs.YtiphmmgfmiiilaaDoor
open Go.RowKit
set_option linter.unusedVariables false
set_option linter.unusedSimpArgs false

theorem Soft.frozen {w : World} {k : Nat} (h : Soft w k) (o : Nat) : w.frozen? ⟨k, o, none⟩ = false := by
  obtain ⟨cs, t, h⟩ := h
  simp [World.frozen?, h]

/-- nothing turns but in the blocks of T; plain blocks stay plain -/
structure Turn (T : Nat → Prop) (w w' : World) : Prop where
  os : w'.os = w.os
  tape : w'.tape = w.tape
  output : w'.output = w.output
  size : w.heap.size ≤ w'.heap.size
  far : ∀ k, k < w.heap.size → ¬ T k → w'.heap[k]? = w.heap[k]?
  soft : ∀ k, Soft w k → Soft w' k
theorem Turn.refl (T : Nat → Prop) (w : World) : Turn T w w := ⟨rfl, rfl, rfl, Nat.le_refl _, fun _ _ _ => rfl, fun _ h => h⟩
theorem Turn.trans {T : Nat → Prop} {a b c : World} (h : Turn T a b) (k : Turn T b c) : Turn T a c :=
  ⟨k.os.trans h.os, k.tape.trans h.tape, k.output.trans h.output, Nat.le_trans h.size k.size, fun j hj hf => (k.far j (Nat.lt_of_lt_of_le hj h.size) hf).trans (h.far j hj hf), fun j hj => k.soft j (h.soft j hj)⟩
theorem Turn.mono {T T' : Nat → Prop} {a b : World} (h : Turn T a b) (hT : ∀ k, T k → T' k) : Turn T' a b := ⟨h.os, h.tape, h.output, h.size, fun j hj hf => h.far j hj (fun e => hf (hT j e)), h.soft⟩
theorem Turn.below {T : Nat → Prop} {w w' : World} (hb : Below w.heap.size w w') : Turn T w w' := ⟨hb.os, hb.tape, hb.output, hb.size, fun k hk _ => hb.block k hk, fun k h => h.below hb⟩
theorem Turn.toBelow {T : Nat → Prop} {w w' : World} {n : Nat} (h : Turn T w w') (hT : ∀ k, T k → n ≤ k) (hn : n ≤ w.heap.size) : Below n w w' := ⟨h.os, h.tape, h.output, h.size, fun k hk => h.far k (by omega) (fun e => by have := hT k e; omega)⟩
theorem Turn.set {T : Nat → Prop} {w w' : World} (h : Turn T w w') {p : Addr} (hp : T p.block) (v : Value) : Turn T w (w'.setCell p v) :=
  ⟨h.os, h.tape, h.output, by simp [World.setCell]; exact h.size, fun k hk hf => (Below.heap_setCell _ _ _ _ (fun e => hf (by rw [e]; exact hp))).trans (h.far k hk hf), fun k hk => (h.soft k hk).set p v⟩

/-- the spans as marked from k on -/
def mkL (k : Int) (i : Nat) : Int := k + 2 * i
def mkH (k : Int) (i : Nat) : Int := k + 2 * i + 1

set_option maxHeartbeats 1000000 in
theorem markX_any (a : Option Addr) (b off cap n : Nat) (L H : Nat → Int) (k0 : Int) (w : World) (hga : 0 < n → a = some ⟨b, off, none⟩ ∧ Soft w b) (hc : Sp w b off n L H) (hk0 : 0 ≤ k0) (hk1 : k0 ≤ 100000000) (hn : n ≤ 4194304) :
    Calls Tryd.prog 23 #[.slice a n cap, .int .i64 k0] w fun e w' => e = .returned (.int .i64 (k0 + 2 * n)) ∧ Sp w' b off n (mkL k0) (mkH k0) ∧ Turn (fun x => 0 < n ∧ x = b) w w' := by
  have HC : Hid (Sp w b off n L H) := hc
  clear hc
  go_enter Tryd.func23, Tryd.ntmps23
  go_wp2
  go_loopw [1, 5] (fun t i wr => ∃ k : Nat, k ≤ n ∧ i = .int .i64 k ∧ t = .int .i64 (k0 + 2 * k) ∧ Hid (Sp wr b off k (mkL k0) (mkH k0) ∧ (∀ i, i < n → k ≤ i → wr.cell? ⟨b, off + i * 2, none⟩ = some (.int .i64 (L i)) ∧ wr.cell? ⟨b, off + i * 2 + 1, none⟩ = some (.int .i64 (H i))) ∧ Turn (fun x => 0 < n ∧ x = b) w wr)) (fun _ i _ => n - (intOf i).toNat)
  case atStart => exact ⟨0, by omega, rfl, by simp, fun i hi => absurd hi (Nat.not_lt_zero _), fun i hi _ => HC.out i hi, Turn.refl _ _⟩
  case round =>
    obtain ⟨k, hk, rfl, rfl, HM⟩ := hrel
    by_cases hlt : k < n
    · have hltz : (k : Int) < (n : Int) := by omega
      obtain ⟨rfl, hsoft⟩ := hga (by omega)
      obtain ⟨hd, hr, ht⟩ := HM.out
      obtain ⟨c0, c1⟩ := hr k hlt (Nat.le_refl _)
      have f0 := (ht.soft _ hsoft).frozen (off + k * 2)
      have f1 := (ht.soft _ hsoft).frozen (off + k * 2 + 1)
      have g1 : (wr.setCell ⟨b, off + k * 2, none⟩ (.int .i64 (k0 + 2 * (k : Int)))).cell? ⟨b, off + k * 2 + 1, none⟩ = some (.int .i64 (H k)) := (World.cell?_setCell_other wr _ _ _ (by simp)).trans c1
      have HM2 : Hid (Sp ((wr.setCell ⟨b, off + k * 2, none⟩ (.int .i64 (k0 + 2 * (k : Int)))).setCell ⟨b, off + k * 2 + 1, none⟩ (.int .i64 (k0 + 2 * (k : Int) + 1))) b off (k + 1) (mkL k0) (mkH k0) ∧ (∀ i, i < n → k + 1 ≤ i → ((wr.setCell ⟨b, off + k * 2, none⟩ (.int .i64 (k0 + 2 * (k : Int)))).setCell ⟨b, off + k * 2 + 1, none⟩ (.int .i64 (k0 + 2 * (k : Int) + 1))).cell? ⟨b, off + i * 2, none⟩ = some (.int .i64 (L i)) ∧ ((wr.setCell ⟨b, off + k * 2, none⟩ (.int .i64 (k0 + 2 * (k : Int)))).setCell ⟨b, off + k * 2 + 1, none⟩ (.int .i64 (k0 + 2 * (k : Int) + 1))).cell? ⟨b, off + i * 2 + 1, none⟩ = some (.int .i64 (H i))) ∧ Turn (fun x => 0 < n ∧ x = b) w ((wr.setCell ⟨b, off + k * 2, none⟩ (.int .i64 (k0 + 2 * (k : Int)))).setCell ⟨b, off + k * 2 + 1, none⟩ (.int .i64 (k0 + 2 * (k : Int) + 1)))) := by
        have oth : ∀ o, o ≠ off + k * 2 → o ≠ off + k * 2 + 1 → ((wr.setCell ⟨b, off + k * 2, none⟩ (.int .i64 (k0 + 2 * (k : Int)))).setCell ⟨b, off + k * 2 + 1, none⟩ (.int .i64 (k0 + 2 * (k : Int) + 1))).cell? ⟨b, o, none⟩ = wr.cell? ⟨b, o, none⟩ := fun o h1 h2 =>
          (World.cell?_setCell_other _ _ _ _ (by simp <;> omega)).trans (World.cell?_setCell_other _ _ _ _ (by simp <;> omega))
        refine ⟨fun i hi => ?_, fun i hi hki => ?_, (ht.set (by simp <;> omega) _).set (by simp <;> omega) _⟩
        · by_cases e : i = k
          · subst e
            refine ⟨?_, ?_⟩
            · rw [World.cell?_setCell_other _ _ _ _ (by simp)]
              exact World.cell?_setCell_same' _ _ _ (by rw [c0]; rfl)
            · exact World.cell?_setCell_same' _ _ _ (by rw [g1]; rfl)
          · rw [oth _ (by omega) (by omega), oth _ (by omega) (by omega)]
            exact hd i (by omega)
        · rw [oth _ (by omega) (by omega), oth _ (by omega) (by omega)]
          exact hr i hi (by omega)
      clear hd hr ht HM
      go_wp2
      go_roundw
      case rel => exact ⟨k + 1, by omega, by go_num, by go_num, HM2⟩
      case measure => simp [intOf]; omega
    · go_wp2
      go_ret
      obtain rfl : k = n := by omega
      exact ⟨rfl, HM.out.1, HM.out.2.2⟩

set_option maxHeartbeats 1000000 in
theorem heldX_any (a : Option Addr) (b off cap n : Nat) (k0 : Int) (w : World) (hga : 0 < n → a = some ⟨b, off, none⟩) (hc : Sp w b off n (mkL k0) (mkH k0)) (hk0 : 0 ≤ k0) (hk1 : k0 ≤ 100000000) (hn : n ≤ 4194304) :
    Calls Tryd.prog 25 #[.slice a n cap, .int .i64 k0] w fun e w' => e = .returned (.int .i64 (k0 + 2 * n)) ∧ w' = w := by
  have HC : Hid (Sp w b off n (mkL k0) (mkH k0)) := hc
  clear hc
  go_enter Tryd.func25, Tryd.ntmps25
  go_wp2
  go_loop [1, 5] (fun t i => ∃ k : Nat, k ≤ n ∧ i = .int .i64 k ∧ t = .int .i64 (k0 + 2 * k)) (fun _ i => n - (intOf i).toNat)
  case atStart => exact ⟨0, by omega, rfl, by simp⟩
  case round =>
    obtain ⟨k, hk, rfl, rfl⟩ := hrel
    by_cases hlt : k < n
    · have hltz : (k : Int) < (n : Int) := by omega
      obtain rfl := hga (by omega)
      obtain ⟨c0, c1⟩ := HC.out k hlt
      have t0 : ((mkL k0 k) != (k0 + 2 * (k : Int))) = false := by simp [mkL]
      have t1 : ((mkH k0 k) != (k0 + 2 * (k : Int) + 1)) = false := by simp [mkH]
      go_wp2
      go_round
      case rel => exact ⟨k + 1, by omega, by go_num, by go_num⟩
      case measure => simp [intOf]; omega
    · go_wp2
      go_ret
      obtain rfl : k = n := by omega
      exact ⟨rfl, rfl⟩

/-- how many numbers are marked -/
def mk : Sh → Nat
  | .node _ n _ _ m kids => 2 * n + sumN (fun i => if hi : i < m then 1 + mk (kids ⟨i, hi⟩) else 0) m
theorem mk_mk (kind : Int) (n : Nat) (L H : Nat → Int) (m : Nat) (K : Nat → Sh) : mk (.mk kind n L H m K) = 2 * n + sumN (fun i => 1 + mk (K i)) m := by
  simp only [Sh.mk, mk]
  rw [sumN_congr (g := fun i => 1 + mk (K i)) (fun i hi => by rw [dif_pos hi])]
theorem sumN_two (f g : Nat → Nat) : ∀ m, (∀ i, i < m → f i ≤ 2 * g i) → sumN (fun i => 1 + f i) m ≤ m + 2 * sumN g m
  | 0, _ => by simp [sumN]
  | m + 1, h => by
    have h1 := sumN_two f g m (fun i hi => h i (by omega))
    have h2 := h m (by omega)
    simp only [sumN]; omega
theorem mk_le (S : Sh) : mk S ≤ 2 * cnt S := by
  induction S using Sh.ind with
  | h kind n L H m K ih =>
    rw [mk_mk, cnt_mk]
    have := sumN_two (fun i => mk (K i)) (fun i => cnt (K i)) m ih
    omega
/-- the same, of another kind -/
def Sh.setKind (S : Sh) (k : Int) : Sh := .node k S.n S.L S.H S.m S.kids
/-- a Rex as marked from k on -/
def mkd : Int → Sh → Sh
  | k, .node kind n _ _ m kids => .node kind n (mkL k) (mkH k) m (fun i => (mkd (k + 2 * n + (sumN (fun j => if hj : j < m then 1 + mk (kids ⟨j, hj⟩) else 0) i.1 : Nat) + 1) (kids i)).setKind (k + 2 * n + (sumN (fun j => if hj : j < m then 1 + mk (kids ⟨j, hj⟩) else 0) i.1 : Nat)))
/-- where the marks of kid i begin -/
def mkAt (k : Int) (n : Nat) (K : Nat → Sh) (i : Nat) : Int := k + 2 * n + (sumN (fun j => 1 + mk (K j)) i : Nat)
theorem mkd_mk (k : Int) (kind : Int) (n : Nat) (L H : Nat → Int) (m : Nat) (K : Nat → Sh) : mkd k (.mk kind n L H m K) = .mk kind n (mkL k) (mkH k) m (fun i => (mkd (mkAt k n K i + 1) (K i)).setKind (mkAt k n K i)) := by
  simp only [Sh.mk, mkd, mkAt]
  congr 1
  funext i
  have e : sumN (fun j => if hj : j < m then 1 + mk (K j) else 0) i.1 = sumN (fun j => 1 + mk (K j)) i.1 := sumN_congr (fun j hj => by rw [dif_pos (by omega)])
  rw [e]
theorem In.kind {B : Nat → Prop} {w : World} {S : Sh} {M : Mx} (k : Int) (h : In B w S M) : In B w (S.setKind k) M := by
  obtain ⟨kind, n, L, H, m, kids⟩ := S
  exact h

/-- the kids of a Rex lie there -/
def Ksin (w : World) (S : Sh) (M : Mx) : Prop := ∃ (a' : Option Addr) (b' off' cap' : Nat), M.kv = .slice a' S.m cap' ∧ (0 < S.m → a' = some ⟨b', off', none⟩ ∧ Soft w b') ∧
  ∀ i, i < S.m → Kid w b' (off' + i * 3) (S.kidAt i) (M.kid i) ∧ In (Soft w) w (S.kidAt i) (M.kid i)
theorem Ksin.keep {w w' : World} {S : Sh} {M : Mx} (h : Ksin w S M) (hk : ∀ x ∈ blK S M, x < w.heap.size → w'.heap[x]? = w.heap[x]?) (hs : ∀ k, Soft w k → Soft w' k) : Ksin w' S M := by
  obtain ⟨a', b', off', cap', e, hm, hh⟩ := h
  refine ⟨a', b', off', cap', e, fun h => ⟨(hm h).1, hs _ (hm h).2⟩, fun i hi => ⟨(hh i hi).1.keep (fun hlt => hk b' ?_ hlt), (((hh i hi).2.keepBl (fun x hx hlt => hk x ?_ hlt))).mono hs⟩⟩
  · rw [blK, if_pos (show 0 < S.m by omega), e, (hm (by omega)).1]; simp [blk]
  · exact List.mem_append.2 (.inr (List.mem_flatMap.2 ⟨i, List.mem_range.2 hi, hx⟩))
theorem In.ksin {w : World} {S : Sh} {M : Mx} (h : In (Soft w) w S M) : Ksin w S M := by
  obtain ⟨a, b, off, cap, a', b', off', cap', e1, hn, hs, hl, e2, hm, hl', hk⟩ := h.parts
  exact ⟨a', b', off', cap', e2, hm, hk⟩

set_option maxRecDepth 100000 in
set_option maxHeartbeats 4000000 in
theorem markRexS_own (S : Sh) : ∀ (M : Mx) (k : Int) (w : World), Ksin w S M → (blK S M).Nodup → cnt S ≤ 4194304 → 0 ≤ k → k + (mk S : Nat) ≤ 100000000 →
    Calls Tryd.prog 24 #[M.kv, .int .i64 (k + 2 * S.n)] w fun e w' => e = .returned (.int .i64 (k + (mk S : Nat))) ∧ Ksin w' (mkd k S) M ∧ Turn (· ∈ blK S M) w w' := by
  induction S using Sh.ind with
  | h kind n L H m K ih =>
    intro M k w h hnd hcnt hk0 hk1
    obtain ⟨a', b', off', cap', e2, hm, hk⟩ := h
    rw [show (Sh.mk kind n L H m K).m = m from rfl] at e2 hm hk
    rw [show (Sh.mk kind n L H m K).n = n from rfl]
    have hkK : ∀ i, i < m → Kid w b' (off' + i * 3) (K i) (M.kid i) ∧ In (Soft w) w (K i) (M.kid i) := fun i hi => by
      have := hk i hi
      rwa [Sh.kidAt_mk kind n L H m K hi] at this
    have eT : ∀ x, x ∈ blK (.mk kind n L H m K) M ↔ (0 < m ∧ x = b') ∨ ∃ i, i < m ∧ x ∈ bl (K i) (M.kid i) := fun x => by
      rw [blK_mk, List.mem_append, List.mem_flatMap]
      refine or_congr ?_ ⟨fun ⟨i, hi, hx⟩ => ⟨i, List.mem_range.1 hi, hx⟩, fun ⟨i, hi, hx⟩ => ⟨i, List.mem_range.2 hi, hx⟩⟩
      by_cases h0 : 0 < m
      · rw [if_pos h0, e2, (hm h0).1]; simp [blk, h0]
      · rw [if_neg h0]; simp [h0]
    rw [blK_mk] at hnd
    rw [List.nodup_append] at hnd
    obtain ⟨_, hnd2, hnd3⟩ := hnd
    obtain ⟨hndk, hap⟩ := apart_of hnd2
    have hbk : ∀ i, i < m → b' ∉ bl (K i) (M.kid i) := fun i hi hx => by
      have h0 : 0 < m := by omega
      refine hnd3 b' ?_ b' (List.mem_flatMap.2 ⟨i, List.mem_range.2 hi, hx⟩) rfl
      rw [if_pos h0, e2, (hm h0).1]; simp [blk]
    rw [mk_mk] at hk1 ⊢
    rw [cnt_mk] at hcnt
    rw [mkd_mk]
    have HT : Hid (∀ x, x ∈ blK (.mk kind n L H m K) M ↔ (0 < m ∧ x = b') ∨ ∃ i, i < m ∧ x ∈ bl (K i) (M.kid i)) := eT
    have HAP : Hid ((∀ i, i < m → (bl (K i) (M.kid i)).Nodup) ∧ (∀ i j, i < m → j < m → i ≠ j → ∀ x ∈ bl (K i) (M.kid i), x ∉ bl (K j) (M.kid j)) ∧ ∀ i, i < m → b' ∉ bl (K i) (M.kid i)) := ⟨hndk, hap, hbk⟩
    have HB : Hid (∀ j, j ≤ m → mkAt k n K j ≤ 100000000 ∧ 0 ≤ mkAt k n K j) := fun j hj => by
      have h1 := sumN_le (f := fun i => 1 + mk (K i)) hj
      unfold mkAt
      omega
    have HIH : Hid (∀ i, i < m → ∀ (k1 : Int) w1, Ksin w1 (K i) (M.kid i) → 0 ≤ k1 → k1 + (mk (K i) : Nat) ≤ 100000000 → Calls Tryd.prog 24 #[(M.kid i).kv, .int .i64 (k1 + 2 * (K i).n)] w1 fun e w' => e = .returned (.int .i64 (k1 + (mk (K i) : Nat))) ∧ Ksin w' (mkd k1 (K i)) (M.kid i) ∧ Turn (· ∈ blK (K i) (M.kid i)) w1 w') := fun i hi k1 w1 h1 h0 h2 =>
      ih i hi (M.kid i) k1 w1 h1 (by have := hndk i hi; rw [bl_eq] at this; exact (List.nodup_append.1 this).2.1) (by have := sumN_at (f := fun i => cnt (K i)) hi; omega) h0 h2
    have hma : 0 < m → a' = some ⟨b', off', none⟩ := fun h => (hm h).1
    have hmb : 0 < m → Soft w b' := fun h => (hm h).2
    have HKW : Hid (∀ i, i < m → Kid w b' (off' + i * 3) (K i) (M.kid i) ∧ In (Soft w) w (K i) (M.kid i)) := hkK
    have hm20 : m ≤ 4194304 := by omega
    have HCN : Hid (∀ i, i < m → cnt (K i) ≤ 4194304) := fun i hi => by have := sumN_at (f := fun i => cnt (K i)) hi; omega
    have E2 : Hid (M.kv = .slice a' m cap') := e2
    have hstart : (k + 2 * (n : Int)) = mkAt k n K 0 := by simp [mkAt, sumN]
    have HEND : Hid (k + ((2 * n + sumN (fun i => 1 + mk (K i)) m : Nat) : Int) = mkAt k n K m) := by rw [Hid, mkAt]; omega
    rw [hstart, e2]
    clear ih hk hkK hcnt hk1 hm eT hnd2 hnd3 hndk hap hbk e2 hstart
    go_enter Tryd.func24, Tryd.ntmps24
    go_wp2_with fail
    go_loopw [1, 5] (fun t i wr => ∃ (j : Nat) (q : Int), j ≤ m ∧ i = .int .i64 j ∧ t = .int .i64 q ∧ Hid (q = mkAt k n K j) ∧
        Hid ((∀ i, i < m → i < j → Kid wr b' (off' + i * 3) ((mkd (mkAt k n K i + 1) (K i)).setKind (mkAt k n K i)) (M.kid i) ∧ In (Soft wr) wr (mkd (mkAt k n K i + 1) (K i)) (M.kid i)) ∧ (∀ i, i < m → j ≤ i → Kid wr b' (off' + i * 3) (K i) (M.kid i) ∧ In (Soft wr) wr (K i) (M.kid i)) ∧ Turn (· ∈ blK (.mk kind n L H m K) M) w wr)) (fun _ i _ => m - (intOf i).toNat)
    case atStart => exact ⟨0, mkAt k n K 0, Nat.zero_le _, rfl, rfl, rfl, fun i _ h0 => absurd h0 (Nat.not_lt_zero _), fun i hi _ => HKW.out i hi, Turn.refl _ _⟩
    case round =>
      obtain ⟨j, q, hj, rfl, rfl, HQ, HM⟩ := hrel
      by_cases hlt : j < m
      · obtain rfl := hma (by omega)
        have hltz : (j : Int) < (m : Int) := by omega
        obtain ⟨hdone, hrest, hturn⟩ := HM.out
        obtain ⟨⟨c1, c2, c3⟩, hinj⟩ := hrest j hlt (Nat.le_refl _)
        obtain ⟨sa, sb, so, sc, ka, kb, ko, kc, esv, hsn, hsp, hsl, ekv, hkm, hkl, hkk⟩ := hinj.parts
        rw [esv] at c2
        rw [ekv] at c3
        have hsb : Soft wr b' := hturn.soft _ (hmb (by omega))
        have f1 := hsb.frozen (off' + j * 3)
        obtain ⟨hB1, hB0⟩ := HB.out j (by omega)
        obtain ⟨hB2, _⟩ := HB.out (j + 1) (by omega)
        have hnext : mkAt k n K (j + 1) = mkAt k n K j + 1 + (mk (K j) : Nat) := by simp only [mkAt, sumN]; omega
        have hmn : 2 * (K j).n ≤ mk (K j) := by
          obtain ⟨kd, n2, L2, H2, m2, K2, he, _⟩ := Sh.cases (K j)
          rw [he, mk_mk]; simp only [Sh.mk]; omega
        have hq0 : 0 ≤ q := by have := HQ.out; omega
        have hq1 : q + 1 + (mk (K j) : Nat) ≤ 100000000 := by have := HQ.out; omega
        have hsn20 : (K j).n ≤ 4194304 := by
          have := HCN.out j hlt
          obtain ⟨kd, n2, L2, H2, m2, K2, he, _⟩ := Sh.cases (K j)
          rw [he, cnt_mk] at this
          rw [he]; simp only [Sh.mk]; omega
        -- behind the kind
        obtain ⟨w1, hw1⟩ : ∃ w1, w1 = wr.setCell ⟨b', off' + j * 3, none⟩ (.int .i64 q) := ⟨_, rfl⟩
        have hfar1 : ∀ x, x ≠ b' → w1.heap[x]? = wr.heap[x]? := fun x hx => by rw [hw1]; exact Below.heap_setCell _ _ _ _ hx
        have hsoft1 : ∀ x, Soft wr x → Soft w1 x := fun x hx => by rw [hw1]; exact hx.set _ _
        have hsz1 : w1.heap.size = wr.heap.size := by rw [hw1]; simp [World.setCell]
        have kcell : ∀ o, o ≠ off' + j * 3 → w1.cell? ⟨b', o, none⟩ = wr.cell? ⟨b', o, none⟩ := fun o ho => by rw [hw1]; exact World.cell?_setCell_other _ _ _ _ (by simp <;> omega)
        have kself : w1.cell? ⟨b', off' + j * 3, none⟩ = some (.int .i64 q) := by rw [hw1]; exact World.cell?_setCell_same' _ _ _ (by rw [c1]; rfl)
        have in1 : ∀ i, i < m → ∀ S', (∀ x ∈ bl S' (M.kid i), x ∈ bl (K i) (M.kid i)) → In (Soft wr) wr S' (M.kid i) → In (Soft w1) w1 S' (M.kid i) := fun i hi S' hS h =>
          (h.keepBl (fun x hx _ => hfar1 x (fun e => HAP.out.2.2 i hi (by rw [← e]; exact hS x hx)))).mono hsoft1
        have c2' : w1.cell? ⟨b', off' + j * 3 + 1, none⟩ = some (.slice sa (K j).n sc) := (kcell _ (by omega)).trans c2
        have c3' : w1.cell? ⟨b', off' + j * 3 + 2, none⟩ = some (.slice ka (K j).m kc) := (kcell _ (by omega)).trans c3
        have hinj1 : In (Soft w1) w1 (K j) (M.kid j) := in1 j hlt (K j) (fun x hx => hx) hinj
        have hsp1 : Sp w1 sb so (K j).n (K j).L (K j).H := hsp.keep (B := fun x => x ≠ b') (fun h0 e => HAP.out.2.2 j hlt (by rw [bl_eq, if_pos h0, esv, (hsn h0).1]; simp [blk, e])) (fun x hx _ => hfar1 x hx)
        have HMS : Hid (Calls Tryd.prog 23 #[.slice sa (K j).n sc, .int .i64 (q + 1)] w1 fun e w' => e = .returned (.int .i64 (q + 1 + 2 * (K j).n)) ∧ Sp w' sb so (K j).n (mkL (q + 1)) (mkH (q + 1)) ∧ Turn (fun x => 0 < (K j).n ∧ x = sb) w1 w') :=
          markX_any sa sb so sc (K j).n _ _ (q + 1) w1 (fun h0 => ⟨(hsn h0).1, hsoft1 _ (hsn h0).2⟩) hsp1 (by omega) (by omega) hsn20
        have hsbl : 0 < (K j).n → sb ∈ bl (K j) (M.kid j) := fun h0 => by rw [bl_eq, if_pos h0, esv, (hsn h0).1]; simp [blk]
        have hsbk : 0 < (K j).n → sb ∉ blK (K j) (M.kid j) := fun h0 hx => by
          have := HAP.out.1 j hlt
          rw [bl_eq, List.nodup_append] at this
          refine this.2.2 sb ?_ sb hx rfl
          rw [if_pos h0, esv, (hsn h0).1]; simp [blk]
        have HSTEP2 : Hid (∀ w2, Turn (fun x => 0 < (K j).n ∧ x = sb) w1 w2 → Ksin w2 (K j) (M.kid j) ∧ w2.cell? ⟨b', off' + j * 3 + 2, none⟩ = some (.slice ka (K j).m kc)) := fun w2 ht2 => by
          refine ⟨hinj1.ksin.keep (fun x hx hlt' => ht2.far x hlt' (fun e => hsbk e.1 (by rw [← e.2]; exact hx))) ht2.soft, ?_⟩
          have := ht2.far b' (World.block_lt_of_cell? _ _ c2') (fun e => HAP.out.2.2 j hlt (by rw [e.2]; exact hsbl e.1))
          exact (World.cell?_of_block (w := w1) (a := ⟨b', _, none⟩) this).trans c3'
        have HI' : Hid (∀ w2, Ksin w2 (K j) (M.kid j) → Calls Tryd.prog 24 #[.slice ka (K j).m kc, .int .i64 (q + 1 + 2 * (K j).n)] w2 fun e w' => e = .returned (.int .i64 (q + 1 + (mk (K j) : Nat))) ∧ Ksin w' (mkd (q + 1) (K j)) (M.kid j) ∧ Turn (· ∈ blK (K j) (M.kid j)) w2 w') := fun w2 h2 => by
          have := HIH.out j hlt (q + 1) w2 h2 (by omega) hq1
          rwa [ekv] at this
        have HFIN : Hid (∀ w2 w3, Sp w2 sb so (K j).n (mkL (q + 1)) (mkH (q + 1)) → Turn (fun x => 0 < (K j).n ∧ x = sb) w1 w2 → Ksin w3 (mkd (q + 1) (K j)) (M.kid j) → Turn (· ∈ blK (K j) (M.kid j)) w2 w3 →
            (∀ i, i < m → i < j + 1 → Kid w3 b' (off' + i * 3) ((mkd (mkAt k n K i + 1) (K i)).setKind (mkAt k n K i)) (M.kid i) ∧ In (Soft w3) w3 (mkd (mkAt k n K i + 1) (K i)) (M.kid i)) ∧ (∀ i, i < m → j + 1 ≤ i → Kid w3 b' (off' + i * 3) (K i) (M.kid i) ∧ In (Soft w3) w3 (K i) (M.kid i)) ∧ Turn (· ∈ blK (.mk kind n L H m K) M) w w3) := fun w2 w3 hsp2 ht2 hks3 ht3 => by
          have h13 : Turn (· ∈ bl (K j) (M.kid j)) w1 w3 := (ht2.mono (fun x hx => by rw [hx.2]; exact hsbl hx.1)).trans (ht3.mono (fun x hx => by rw [bl_eq]; exact List.mem_append.2 (.inr hx)))
          have hrow : ∀ o, (w1.cell? ⟨b', o, none⟩).isSome = true → w3.cell? ⟨b', o, none⟩ = w1.cell? ⟨b', o, none⟩ := fun o ho => by
            obtain ⟨u, hu⟩ := Option.isSome_iff_exists.1 ho
            exact World.cell?_of_block (w := w1) (a := ⟨b', _, none⟩) (h13.far b' (World.block_lt_of_cell? _ _ hu) (HAP.out.2.2 j hlt))
          have rowKid : ∀ i S', i ≠ j → Kid wr b' (off' + i * 3) S' (M.kid i) → Kid w3 b' (off' + i * 3) S' (M.kid i) := fun i S' hne ⟨p1, p2, p3⟩ => by
            have q1 := (kcell (off' + i * 3) (by omega)).trans p1
            have q2 := (kcell (off' + i * 3 + 1) (by omega)).trans p2
            have q3 := (kcell (off' + i * 3 + 2) (by omega)).trans p3
            exact ⟨(hrow _ (by rw [q1]; rfl)).trans q1, (hrow _ (by rw [q2]; rfl)).trans q2, (hrow _ (by rw [q3]; rfl)).trans q3⟩
          have othIn : ∀ i, i < m → i ≠ j → ∀ S', (∀ x ∈ bl S' (M.kid i), x ∈ bl (K i) (M.kid i)) → In (Soft wr) wr S' (M.kid i) → In (Soft w3) w3 S' (M.kid i) := fun i hi hne S' hS h =>
            ((in1 i hi S' hS h).keepBl (fun x hx hlt' => h13.far x hlt' (HAP.out.2.1 i j hi hlt hne x (hS x hx)))).mono h13.soft
          have blmk : ∀ (S' : Sh) (k' : Int) (M' : Mx), ∀ x ∈ bl (mkd k' S') M', x ∈ bl S' M' := fun S' => by
            induction S' using Sh.ind with
            | h kd2 n2 L2 H2 m2 K2 ih2 =>
              intro k' M' x hx
              rw [mkd_mk, bl_mk] at hx
              rw [bl_mk]
              simp only [List.mem_append, List.mem_flatMap, List.mem_range] at hx ⊢
              rcases hx with hx | hx | ⟨i, hi, hx⟩
              · exact .inl hx
              · exact .inr (.inl hx)
              · refine .inr (.inr ⟨i, hi, ih2 i hi (mkAt k' n2 K2 i + 1) (M'.kid i) x ?_⟩)
                have : ∀ (S3 : Sh) (k3 : Int) (M3 : Mx), bl (S3.setKind k3) M3 = bl S3 M3 := fun S3 k3 M3 => by cases S3; rfl
                rwa [this] at hx
          have eq : mkAt k n K j = q := HQ.out.symm
          refine ⟨fun i hi hij => ?_, fun i hi hij => ?_, ?_⟩
          · by_cases e : i = j
            · subst e
              rw [eq]
              have t1 := (hrow _ (by rw [kself]; rfl)).trans kself
              have t2 := (hrow _ (by rw [c2']; rfl)).trans c2'
              have t3 := (hrow _ (by rw [c3']; rfl)).trans c3'
              refine ⟨⟨t1, ?_, ?_⟩, ?_⟩
              · rw [esv]; exact t2
              · rw [ekv]; exact t3
              · obtain ⟨ka3, kb3, ko3, kc3, ee, hm3, hh3⟩ := hks3
                have hmm : (mkd (q + 1) (K i)).m = (K i).m ∧ (mkd (q + 1) (K i)).n = (K i).n ∧ (mkd (q + 1) (K i)).L = mkL (q + 1) ∧ (mkd (q + 1) (K i)).H = mkH (q + 1) := by
                  obtain ⟨kd, n2, L2, H2, m2, K2, he, _⟩ := Sh.cases (K i)
                  rw [he, mkd_mk]; exact ⟨rfl, rfl, rfl, rfl⟩
                refine In.mkParts sa sb so sc ka3 kb3 ko3 kc3 (by rw [hmm.2.1]; exact esv) (fun h0 => ?_) ?_ (by rw [hmm.2.1]; exact hsl) ee hm3 (by rw [hmm.1]; exact hkl) hh3
                · rw [hmm.2.1] at h0
                  exact ⟨(hsn h0).1, h13.soft _ (hsoft1 _ (hsn h0).2)⟩
                · rw [hmm.2.1, hmm.2.2.1, hmm.2.2.2]
                  exact hsp2.keep (B := fun x => x ∉ blK (K i) (M.kid i)) (fun h0 => hsbk h0) (fun x hx hlt' => ht3.far x hlt' hx)
            · obtain ⟨d1, d2⟩ := hdone i hi (by omega)
              exact ⟨rowKid i _ e d1, othIn i hi e _ (fun x hx => blmk _ _ _ x hx) d2⟩
          · obtain ⟨d1, d2⟩ := hrest i hi (by omega)
            exact ⟨rowKid i _ (by omega) d1, othIn i hi (by omega) _ (fun x hx => hx) d2⟩
          · have h01 : Turn (· ∈ blK (.mk kind n L H m K) M) w w1 := by rw [hw1]; exact hturn.set (by rw [HT.out]; exact .inl ⟨by omega, rfl⟩) _
            exact h01.trans (h13.mono (fun x hx => by rw [HT.out]; exact .inr ⟨j, hlt, hx⟩))
        obtain ⟨sn, hsn'⟩ : ∃ sn : Nat, (K j).n = sn := ⟨_, rfl⟩
        obtain ⟨kn, hkn'⟩ : ∃ kn : Nat, (K j).m = kn := ⟨_, rfl⟩
        obtain ⟨mj, hmj⟩ : ∃ mj : Nat, mk (K j) = mj := ⟨_, rfl⟩
        rw [hsn'] at HMS hsn20 hmn HI' HSTEP2 HFIN c2 c2'
        rw [hkn'] at HI' HSTEP2 c3 c3'
        rw [hmj] at HI' hq1 hmn
        have HNX : Hid (mkAt k n K (j + 1) = q + 1 + (mj : Nat)) := by rw [Hid, hnext, HQ.out, hmj]
        rw [hw1] at HMS HSTEP2 HFIN c2'
        clear hdone hrest hturn hinj hsn hsp hsl hkm hkl hkk esv ekv hsb hB1 hB0 hB2 hnext hfar1 hsoft1 hsz1 kcell kself in1 c3' hinj1 hsp1 hsbl hsbk HM hsn' hkn' hmj hw1
        go_wp2_with fail
        refine HMS.out.mono ?_
        rintro e w2 ⟨rfl, hsp2, ht2⟩
        obtain ⟨hks2, c32⟩ := HSTEP2.out w2 ht2
        have HKS2 : Hid (Ksin w2 (K j) (M.kid j)) := hks2
        have HSP2 : Hid (Sp w2 sb so sn (mkL (q + 1)) (mkH (q + 1)) ∧ Turn (fun x => 0 < sn ∧ x = sb) (wr.setCell ⟨b', off' + j * 3, none⟩ (.int .i64 q)) w2) := ⟨hsp2, ht2⟩
        clear hsp2 ht2 hks2
        go_wp2_with fail
        refine (HI'.out w2 HKS2.out).mono ?_
        rintro e w3 ⟨rfl, hks3, ht3⟩
        have HM3 : Hid _ := HFIN.out w2 w3 HSP2.out.1 HSP2.out.2 hks3 ht3
        clear hks3 ht3
        go_wp2_with fail
        go_roundw
        case rel => exact ⟨j + 1, _, by omega, by go_num, rfl, by rw [Hid, HNX.out], HM3⟩
        case measure => simp [intOf]; omega
      · go_wp2_with fail
        go_ret
        obtain rfl : j = m := by omega
        refine ⟨ret_int (by rw [HQ.out, HEND.out]), ⟨a', b', off', cap', E2.out, fun h => ⟨hma h, HM.out.2.2.soft _ (hmb h)⟩, fun i hi => ?_⟩, HM.out.2.2⟩
        obtain ⟨d1, d2⟩ := HM.out.1 i hi hi
        rw [Sh.kidAt_mk _ _ _ _ _ _ (show i < j from hi)]
        exact ⟨d1, d2.kind _⟩

set_option maxRecDepth 100000 in
set_option maxHeartbeats 2000000 in
theorem markRex_own (S : Sh) (M : Mx) (w : World) (h : In (Soft w) w S M) (hnd : (bl S M).Nodup) (hcnt : cnt S ≤ 4194304) :
    Calls Tryd.prog 9 #[vx S M, .int .i64 1] w fun e w' => e = .returned (.int .i64 (1 + (mk S : Nat))) ∧ In (Soft w') w' (mkd 1 S) M ∧ Turn (· ∈ bl S M) w w' := by
  have hmk := mk_le S
  have hks := h.ksin
  have hndK : (blK S M).Nodup := by rw [bl_eq] at hnd; exact (List.nodup_append.1 hnd).2.1
  obtain ⟨sa, sb, so, sc, ka, kb, ko, kc, esv, hsn, hsp, hsl, ekv, hkm, hkl, hkk⟩ := h.parts
  have hn20 : S.n ≤ 4194304 := by
    obtain ⟨kd, n2, L2, H2, m2, K2, he, _⟩ := Sh.cases S
    rw [he, cnt_mk] at hcnt
    rw [he]; simp only [Sh.mk]; omega
  have hsbl : 0 < S.n → sb ∈ bl S M := fun h0 => by rw [bl_eq, if_pos h0, esv, (hsn h0).1]; simp [blk]
  have hsbk : 0 < S.n → sb ∉ blK S M := fun h0 hx => by
    rw [bl_eq, List.nodup_append] at hnd
    refine hnd.2.2 sb ?_ sb hx rfl
    rw [if_pos h0, esv, (hsn h0).1]; simp [blk]
  have H1 : Hid (∀ w1, Below w.heap.size w w1 → Calls Tryd.prog 23 #[.slice sa S.n sc, .int .i64 1] w1 fun e w' => e = .returned (.int .i64 (1 + 2 * S.n)) ∧ Sp w' sb so S.n (mkL 1) (mkH 1) ∧ Turn (fun x => 0 < S.n ∧ x = sb) w1 w') := fun w1 hb =>
    markX_any sa sb so sc S.n _ _ 1 w1 (fun h0 => ⟨(hsn h0).1, (hsn h0).2.below hb⟩) (hsp.below hb) (by omega) (by omega) hn20
  have H2 : Hid (∀ w2, Ksin w2 S M → Calls Tryd.prog 24 #[.slice ka S.m kc, .int .i64 (1 + 2 * S.n)] w2 fun e w' => e = .returned (.int .i64 (1 + (mk S : Nat))) ∧ Ksin w' (mkd 1 S) M ∧ Turn (· ∈ blK S M) w2 w') := fun w2 hh => by
    have := markRexS_own S M 1 w2 hh hndK hcnt (by omega) (by omega)
    rwa [ekv] at this
  have HK2 : Hid (∀ w1 w2, Below w.heap.size w w1 → Turn (fun x => 0 < S.n ∧ x = sb) w1 w2 → Ksin w2 S M) := fun w1 w2 hb ht => by
    have hlt : ∀ x ∈ blK S M, x < w.heap.size := fun x hx => (h.bl_mem x (by rw [bl_eq]; exact List.mem_append.2 (.inr hx))).lt
    refine hks.keep (fun x hx _ => (ht.far x (by have := hlt x hx; have := hb.size; omega) (fun e => hsbk e.1 (by rw [← e.2]; exact hx))).trans (hb.block x (hlt x hx))) (fun k hk => ht.soft k (hk.below hb))
  have HFIN : Hid (∀ w1 w2 w3, Below w.heap.size w w1 → Sp w2 sb so S.n (mkL 1) (mkH 1) → Turn (fun x => 0 < S.n ∧ x = sb) w1 w2 → Ksin w3 (mkd 1 S) M → Turn (· ∈ blK S M) w2 w3 → In (Soft w3) w3 (mkd 1 S) M ∧ Turn (· ∈ bl S M) w w3) := fun w1 w2 w3 hb hsp2 ht2 hks3 ht3 => by
    have h03 : Turn (· ∈ bl S M) w w3 := ((Turn.below hb).trans (ht2.mono (fun x hx => by rw [hx.2]; exact hsbl hx.1))).trans (ht3.mono (fun x hx => by rw [bl_eq]; exact List.mem_append.2 (.inr hx)))
    refine ⟨?_, h03⟩
    obtain ⟨ka3, kb3, ko3, kc3, ee, hm3, hh3⟩ := hks3
    have hmm : (mkd 1 S).m = S.m ∧ (mkd 1 S).n = S.n ∧ (mkd 1 S).L = mkL 1 ∧ (mkd 1 S).H = mkH 1 := by
      obtain ⟨kd, n2, L2, H2, m2, K2, he, _⟩ := Sh.cases S
      rw [he, mkd_mk]; exact ⟨rfl, rfl, rfl, rfl⟩
    refine In.mkParts sa sb so sc ka3 kb3 ko3 kc3 (by rw [hmm.2.1]; exact esv) (fun h0 => ?_) ?_ (by rw [hmm.2.1]; exact hsl) ee hm3 (by rw [hmm.1]; exact hkl) hh3
    · rw [hmm.2.1] at h0
      exact ⟨(hsn h0).1, h03.soft _ (hsn h0).2⟩
    · rw [hmm.2.1, hmm.2.2.1, hmm.2.2.2]
      exact hsp2.keep (B := fun x => x ∉ blK S M) (fun h0 => hsbk h0) (fun x hx hlt' => ht3.far x hlt' hx)
  rw [vx, esv, ekv]
  obtain ⟨sn, hsn'⟩ : ∃ sn : Nat, S.n = sn := ⟨_, rfl⟩
  obtain ⟨kn, hkn'⟩ : ∃ kn : Nat, S.m = kn := ⟨_, rfl⟩
  obtain ⟨kd, hkd'⟩ : ∃ kd : Int, S.kind = kd := ⟨_, rfl⟩
  obtain ⟨mj, hmj⟩ : ∃ mj : Nat, mk S = mj := ⟨_, rfl⟩
  rw [hsn'] at H1 H2 HK2 HFIN ⊢
  rw [hkn'] at H2 ⊢
  rw [hmj] at H2 ⊢
  rw [hkd']
  have hb0 : Below w.heap.size w (w.alloc (.cells #[.int .i64 kd, .slice sa sn sc, .slice ka kn kc] 30)) := (Below.refl _ _).alloc (Nat.le_refl _) _
  have HSB : Hid (0 < sn → sb < w.heap.size) := fun h0 => (hsn (by omega)).2.lt
  clear hsn hsp hsl hkm hkl hkk esv ekv h hks hnd hndK hsbl hsbk hsn' hkn' hmj hkd' hmk
  go_enter Tryd.func9, Tryd.ntmps9
  go_wp2_with fail
  refine (H1.out _ hb0).mono ?_
  rintro e w2 ⟨rfl, hsp2, ht2⟩
  have HKS2 : Hid (Ksin w2 S M) := HK2.out _ w2 hb0 ht2
  have c2 : w2.cell? ⟨w.heap.size, 2, none⟩ = some (.slice ka kn kc) := by
    exact (World.cell?_of_block (w := w.alloc (.cells #[.int .i64 kd, .slice sa sn sc, .slice ka kn kc] 30)) (a := ⟨w.heap.size, 2, none⟩) (ht2.far w.heap.size (by simp) (fun e => by have := HSB.out e.1; omega))).trans (by simp [go_sem])
  have HSP2 : Hid _ := And.intro hsp2 ht2
  clear hsp2 ht2
  go_wp2_with fail
  refine (H2.out w2 HKS2.out).mono ?_
  rintro e w3 ⟨rfl, hks3, ht3⟩
  have HM3 : Hid _ := HFIN.out _ w2 w3 hb0 HSP2.out.1 HSP2.out.2 hks3 ht3
  clear hks3 ht3
  go_wp2_with fail
  go_ret
  exact ⟨rfl, HM3.out⟩

set_option maxRecDepth 100000 in
set_option maxHeartbeats 4000000 in
theorem heldRexS_own (S : Sh) : ∀ (M : Mx) (k : Int) (w : World), Ksin w (mkd k S) M → cnt S ≤ 4194304 → 0 ≤ k → k + (mk S : Nat) ≤ 100000000 →
    Calls Tryd.prog 26 #[M.kv, .int .i64 (k + 2 * S.n)] w fun e w' => e = .returned (.int .i64 (k + (mk S : Nat))) ∧ Below w.heap.size w w' := by
  induction S using Sh.ind with
  | h kind n L H m K ih =>
    intro M k w h hcnt hk0 hk1
    rw [mkd_mk] at h
    obtain ⟨a', b', off', cap', e2, hm, hk⟩ := h
    rw [show ∀ L H (K' : Nat → Sh), (Sh.mk kind n L H m K').m = m from fun _ _ _ => rfl] at e2 hm hk
    rw [show (Sh.mk kind n L H m K).n = n from rfl]
    have HKW : Hid (∀ i, i < m → Kid w b' (off' + i * 3) ((mkd (mkAt k n K i + 1) (K i)).setKind (mkAt k n K i)) (M.kid i) ∧ In (Soft w) w (mkd (mkAt k n K i + 1) (K i)) (M.kid i)) := fun i hi => by
      have := hk i hi
      rw [Sh.kidAt_mk _ _ _ _ _ _ hi] at this
      refine ⟨this.1, ?_⟩
      have h2 := this.2
      generalize mkd (mkAt k n K i + 1) (K i) = T at h2 ⊢
      cases T
      exact h2
    rw [mk_mk] at hk1 ⊢
    rw [cnt_mk] at hcnt
    have HB : Hid (∀ j, j ≤ m → mkAt k n K j ≤ 100000000 ∧ 0 ≤ mkAt k n K j) := fun j hj => by
      have h1 := sumN_le (f := fun i => 1 + mk (K i)) hj
      unfold mkAt
      omega
    have HIH : Hid (∀ i, i < m → ∀ (k1 : Int) w1, Ksin w1 (mkd k1 (K i)) (M.kid i) → 0 ≤ k1 → k1 + (mk (K i) : Nat) ≤ 100000000 → Calls Tryd.prog 26 #[(M.kid i).kv, .int .i64 (k1 + 2 * (K i).n)] w1 fun e w' => e = .returned (.int .i64 (k1 + (mk (K i) : Nat))) ∧ Below w1.heap.size w1 w') := fun i hi k1 w1 h1 h0 h2 =>
      ih i hi (M.kid i) k1 w1 h1 (by have := sumN_at (f := fun i => cnt (K i)) hi; omega) h0 h2
    have hma : 0 < m → a' = some ⟨b', off', none⟩ := fun h => (hm h).1
    have hm20 : m ≤ 4194304 := by omega
    have HCN : Hid (∀ i, i < m → cnt (K i) ≤ 4194304) := fun i hi => by have := sumN_at (f := fun i => cnt (K i)) hi; omega
    have hstart : (k + 2 * (n : Int)) = mkAt k n K 0 := by simp [mkAt, sumN]
    have HEND : Hid (k + ((2 * n + sumN (fun i => 1 + mk (K i)) m : Nat) : Int) = mkAt k n K m) := by rw [Hid, mkAt]; omega
    rw [hstart, e2]
    clear ih hk hcnt hk1 hm e2 hstart
    go_enter Tryd.func26, Tryd.ntmps26
    go_wp2_with fail
    go_loopw [1, 5] (fun t i wr => ∃ (j : Nat) (q : Int), j ≤ m ∧ i = .int .i64 j ∧ t = .int .i64 q ∧ Hid (q = mkAt k n K j) ∧ Hid (Below w.heap.size w wr)) (fun _ i _ => m - (intOf i).toNat)
    case atStart => exact ⟨0, mkAt k n K 0, Nat.zero_le _, rfl, rfl, rfl, Below.refl _ _⟩
    case round =>
      obtain ⟨j, q, hj, rfl, rfl, HQ, HM⟩ := hrel
      by_cases hlt : j < m
      · obtain rfl := hma (by omega)
        have hltz : (j : Int) < (m : Int) := by omega
        obtain ⟨⟨c1, c2, c3⟩, hinj⟩ := HKW.out j hlt
        have hq : mkAt k n K j = q := HQ.out.symm
        rw [hq] at c1 hinj
        obtain ⟨hB1, hB0⟩ := HB.out j (by omega)
        obtain ⟨hB2, _⟩ := HB.out (j + 1) (by omega)
        have hnext : mkAt k n K (j + 1) = mkAt k n K j + 1 + (mk (K j) : Nat) := by simp only [mkAt, sumN]; omega
        have hmm : (mkd (q + 1) (K j)).m = (K j).m ∧ (mkd (q + 1) (K j)).n = (K j).n ∧ (mkd (q + 1) (K j)).L = mkL (q + 1) ∧ (mkd (q + 1) (K j)).H = mkH (q + 1) ∧ 2 * (K j).n ≤ mk (K j) ∧ (K j).n ≤ cnt (K j) := by
          obtain ⟨kd, n2, L2, H2, m2, K2, he, _⟩ := Sh.cases (K j)
          rw [he, mkd_mk, mk_mk, cnt_mk]; exact ⟨rfl, rfl, rfl, rfl, by simp only [Sh.mk]; omega, by simp only [Sh.mk]; omega⟩
        obtain ⟨sa, sb, so, sc, ka, kb, ko, kc, esv, hsn, hsp, hsl, ekv, hkm, hkl, hkk⟩ := hinj.parts
        rw [hmm.2.1] at esv hsn hsp
        rw [hmm.2.2.1, hmm.2.2.2.1] at hsp
        rw [hmm.1] at ekv
        rw [esv] at c2
        rw [ekv] at c3
        have hsn20 : (K j).n ≤ 4194304 := by have := HCN.out j hlt; omega
        have hq0 : 0 ≤ q := by omega
        have hq1 : q + 1 + (mk (K j) : Nat) ≤ 100000000 := by omega
        have cell : ∀ o v, w.cell? ⟨b', o, none⟩ = some v → wr.cell? ⟨b', o, none⟩ = some v := fun o v hv => (HM.out.cell (p := ⟨b', o, none⟩) (World.block_lt_of_cell? _ _ hv)).trans hv
        have d1 : wr.cell? ⟨b', off' + j * 3, none⟩ = some (.int .i64 q) := cell _ _ c1
        have d2 := cell _ _ c2
        have HD3 : Hid (∀ w2, Below wr.heap.size wr w2 → w2.cell? ⟨b', off' + j * 3 + 2, none⟩ = some (.slice ka (K j).m kc)) := fun w2 hb => (hb.cell (p := ⟨b', _, none⟩) (World.block_lt_of_cell? _ _ (cell _ _ c3))).trans (cell _ _ c3)
        have H1 : Hid (∀ w1, Below wr.heap.size wr w1 → Calls Tryd.prog 25 #[.slice sa (K j).n sc, .int .i64 (q + 1)] w1 fun e w' => e = .returned (.int .i64 (q + 1 + 2 * (K j).n)) ∧ w' = w1) := fun w1 hb =>
          heldX_any sa sb so sc (K j).n (q + 1) w1 (fun h0 => (hsn h0).1) ((hsp.below HM.out).below hb) (by omega) (by omega) hsn20
        have H2 : Hid (∀ w2, Below wr.heap.size wr w2 → Calls Tryd.prog 26 #[.slice ka (K j).m kc, .int .i64 (q + 1 + 2 * (K j).n)] w2 fun e w' => e = .returned (.int .i64 (q + 1 + (mk (K j) : Nat))) ∧ Below w2.heap.size w2 w') := fun w2 hb => by
          have hin2 : In (Soft w2) w2 (mkd (q + 1) (K j)) (M.kid j) := ((hinj.below HM.out).below hb).mono (fun x hx => (hx.below HM.out).below hb)
          have := HIH.out j hlt (q + 1) w2 hin2.ksin (by omega) hq1
          rwa [ekv] at this
        obtain ⟨sn, hsn'⟩ : ∃ sn : Nat, (K j).n = sn := ⟨_, rfl⟩
        obtain ⟨kn, hkn'⟩ : ∃ kn : Nat, (K j).m = kn := ⟨_, rfl⟩
        obtain ⟨mj, hmj⟩ : ∃ mj : Nat, mk (K j) = mj := ⟨_, rfl⟩
        have hmn := hmm.2.2.2.2.1
        rw [hsn'] at H1 H2 d2 hsn20 hmn
        rw [hkn'] at H2 HD3
        rw [hmj] at H2 hq1 hmn
        have HNX : Hid (mkAt k n K (j + 1) = q + 1 + (mj : Nat)) := by rw [Hid, hnext, hq, hmj]
        have hqq : (q != q) = false := by simp
        clear c1 c2 c3 hinj hq hB1 hB0 hB2 hnext hmm hsn hsp hsl hkm hkl hkk esv ekv cell hsn' hkn' hmj
        have hs1 : ¬ (q + 1 + 2 * (sn : Int) < 0) := by omega
        have hs2 : ¬ (q + 1 + (mj : Int) < 0) := by omega
        go_wp2_with fail
        refine (H1.out _ (Below.refl _ _)).mono ?_
        rintro e w2 ⟨rfl, hw2⟩
        subst w2
        have d3 := HD3.out _ (Below.refl _ _)
        go_wp2_with fail
        refine (H2.out _ (Below.refl _ _)).mono ?_
        rintro e w3 ⟨rfl, hb3⟩
        have HM3 : Hid (Below w.heap.size w w3) := HM.out.trans (hb3.mono HM.out.size)
        clear hb3
        go_wp2_with fail
        go_roundw
        case rel => exact ⟨j + 1, _, by omega, by go_num, rfl, by rw [Hid, HNX.out], HM3⟩
        case measure => simp [intOf]; omega
      · go_wp2_with fail
        go_ret
        obtain rfl : j = m := by omega
        exact ⟨ret_int (by rw [HQ.out, HEND.out]), HM.out⟩

set_option maxRecDepth 100000 in
set_option maxHeartbeats 2000000 in
theorem heldRex_own (S : Sh) (M : Mx) (w : World) (h : In (Soft w) w (mkd 1 S) M) (hcnt : cnt S ≤ 4194304) (kd : Int) :
    Calls Tryd.prog 10 #[.agg #[.int .i64 kd, M.sv, M.kv], .int .i64 1] w fun e w' => e = .returned (.int .i64 (1 + (mk S : Nat))) ∧ Below w.heap.size w w' := by
  have hmk := mk_le S
  obtain ⟨sa, sb, so, sc, ka, kb, ko, kc, esv, hsn, hsp, hsl, ekv, hkm, hkl, hkk⟩ := h.parts
  have hmm : (mkd 1 S).m = S.m ∧ (mkd 1 S).n = S.n ∧ (mkd 1 S).L = mkL 1 ∧ (mkd 1 S).H = mkH 1 ∧ 2 * S.n ≤ mk S ∧ S.n ≤ cnt S := by
    obtain ⟨kd, n2, L2, H2, m2, K2, he, _⟩ := Sh.cases S
    rw [he, mkd_mk, mk_mk, cnt_mk]; exact ⟨rfl, rfl, rfl, rfl, by simp only [Sh.mk]; omega, by simp only [Sh.mk]; omega⟩
  rw [hmm.2.1] at esv hsn hsp
  rw [hmm.2.2.1, hmm.2.2.2.1] at hsp
  rw [hmm.1] at ekv
  have hmn := hmm.2.2.2.2.1
  have hsn20 : S.n ≤ 4194304 := by have := hmm.2.2.2.2.2; omega
  have H1 : Hid (∀ w1, Below w.heap.size w w1 → Calls Tryd.prog 25 #[.slice sa S.n sc, .int .i64 1] w1 fun e w' => e = .returned (.int .i64 (1 + 2 * S.n)) ∧ w' = w1) := fun w1 hb =>
    heldX_any sa sb so sc S.n 1 w1 (fun h0 => (hsn h0).1) (hsp.below hb) (by omega) (by omega) hsn20
  have H2 : Hid (∀ w2, Below w.heap.size w w2 → Calls Tryd.prog 26 #[.slice ka S.m kc, .int .i64 (1 + 2 * S.n)] w2 fun e w' => e = .returned (.int .i64 (1 + (mk S : Nat))) ∧ Below w2.heap.size w2 w') := fun w2 hb => by
    have hin2 : In (Soft w2) w2 (mkd 1 S) M := (h.below hb).mono (fun x hx => hx.below hb)
    have := heldRexS_own S M 1 w2 hin2.ksin hcnt (by omega) (by omega)
    rwa [ekv] at this
  rw [esv, ekv]
  obtain ⟨sn, hsn'⟩ : ∃ sn : Nat, S.n = sn := ⟨_, rfl⟩
  obtain ⟨kn, hkn'⟩ : ∃ kn : Nat, S.m = kn := ⟨_, rfl⟩
  obtain ⟨mj, hmj⟩ : ∃ mj : Nat, mk S = mj := ⟨_, rfl⟩
  rw [hsn'] at H1 H2 hmn ⊢
  rw [hkn'] at H2 ⊢
  rw [hmj] at H2 hmk hmn ⊢
  have hb0 : Below w.heap.size w (w.alloc (.cells #[.int .i64 kd, .slice sa sn sc, .slice ka kn kc] 30)) := (Below.refl _ _).alloc (Nat.le_refl _) _
  have hs1 : ¬ (1 + 2 * (sn : Int) < 0) := by omega
  have hs2 : ¬ (1 + (mj : Int) < 0) := by omega
  clear hsn hsp hsl hkm hkl hkk esv ekv h hsn' hkn' hmj hmm
  go_enter Tryd.func10, Tryd.ntmps10
  go_wp2_with fail
  refine (H1.out _ hb0).mono ?_
  rintro e w2 ⟨rfl, hw2⟩
  subst w2
  go_wp2_with fail
  refine (H2.out _ hb0).mono ?_
  rintro e w3 ⟨rfl, hb3⟩
  go_wp2_with fail
  go_ret
  exact ⟨rfl, hb0.trans (hb3.mono hb0.size)⟩
end Go.Proofs.YtiphmmgfmiiilaaDoor

