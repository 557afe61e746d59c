/- the walks of yieldParts, partsOf: the parts of a Rex, one behind the other -/
import Derived.Test.YtplpdikkkbiacaaGreatDoorTh
import Derived.Shelf.Abstract
import Derived.Shelf.RegionOpen
import Derived.OwnWalkIn
import Derived.TacticsInMore
import Derived.LoopNIn
import Derived.LoopIn
namespace Go.Proofs.YtplpdikkkbiacaaGreatDoor
open Go.RowKit Go.Shelf
set_option linter.unusedVariables false
set_option linter.unusedSimpArgs false
attribute [local go_sem] Oper.semAt_some

def catN {α : Type} (f : Nat → List α) : Nat → List α
  | 0 => []
  | k + 1 => catN f k ++ f k
theorem catN_pre {α : Type} (f : Nat → List α) : ∀ {k m : Nat}, k ≤ m → catN f k <+: catN f m
  | k, 0, h => by obtain rfl : k = 0 := by omega
                  exact List.prefix_rfl
  | k, m + 1, h => by
    by_cases e : k = m + 1
    · subst e; exact List.prefix_rfl
    · exact (catN_pre f (show k ≤ m by omega)).trans (List.prefix_append _ _)

/-- a part: how many others are around it, its shape, where it lies -/
abbrev Part := Nat × Sh × Mx
/-- all parts, each ahead of its kids -/
def partsL : Sh → Nat → Mx → List Part
  | .node kind n L H m kids, d, M => (d, .node kind n L H m kids, M) :: catN (fun i => if hi : i < m then partsL (kids ⟨i, hi⟩) (d + 1) (M.kid i) else []) m
theorem catN_congr {α : Type} {f g : Nat → List α} : ∀ {m : Nat}, (∀ i, i < m → f i = g i) → catN f m = catN g m
  | 0, _ => rfl
  | m + 1, h => by simp only [catN, catN_congr (m := m) (fun i hi => h i (by omega)), h m (by omega)]
theorem partsL_mk (kind : Int) (n : Nat) (L H : Nat → Int) (m : Nat) (K : Nat → Sh) (d : Nat) (sv kv : Value) (M : Nat → Mx) :
    partsL (.mk kind n L H m K) d (.mk sv kv M) = (d, .mk kind n L H m K, .mk sv kv M) :: catN (fun i => partsL (K i) (d + 1) (M i)) m := by
  simp only [Sh.mk, partsL]
  rw [catN_congr (g := fun i => partsL (K i) (d + 1) (M i)) (fun i hi => by rw [dif_pos hi, Mx.mk_kid])]

/-- a part as it is yielded -/
def encP (x : Part) : Array Value := #[.int .i64 x.1, vx x.2.1 x.2.2]

/-- what one call of yield comes to -/
abbrev YRes (X : Nat → Prop) (J : List Part → World → Prop) (Jp : List PanicEntry → World → Prop) (s : List Part) (W : World) : Ending → World → Prop :=
  fun e W' => (e = .returned (.bool true) ∧ J s W' ∧ Keeps X W W') ∨ (∃ ch, e = .panicked ch ∧ Jp ch W')

theorem In.keeps {X : Nat → Prop} {n₀ : Nat} {W W' : World} {S : Sh} {M : Mx} (h : In (· < n₀) W S M) (hX : ∀ k, X k → n₀ ≤ k) (hk : Keeps X W W') : In (· < n₀) W' S M :=
  h.keep (fun k hk1 hk2 => hk.block k hk2 (fun e => by have := hX k e; omega))

set_option maxRecDepth 100000 in
set_option maxHeartbeats 2000000 in
theorem yieldParts_in (l n₀ B : Nat) (X : Nat → Prop) (J : List Part → World → Prop) (Jp : List PanicEntry → World → Prop) (xs : List Part) (hX : ∀ k, X k → n₀ ≤ k ∧ k < B) (hJ : Stays J)
    (hY : ∀ pre x W1, J pre W1 → (pre ++ [x]) <+: xs → YieldAt Fence.wide 0 Tryz.prog l (encP x) W1 (YRes X J Jp (pre ++ [x]) W1)) (S : Sh) :
    ∀ (d : Nat) (M : Mx) (pre : List Part) (W : World), (pre ++ partsL S d M) <+: xs → In (· < n₀) W S M → J pre W → B ≤ W.heap.size → d + cnt S ≤ 1048576 →
      CallsIn Fence.wide 0 Tryz.prog 84 #[vx S M, .int .i64 d, .func (.yield l) #[] #[]] W (YRes X J Jp (pre ++ partsL S d M) W) := by
  induction S using Sh.ind with
  | h kind n L H m K ih =>
    intro d M pre W hxs h hJ0 hBW hcnt
    obtain ⟨sv, kv, M, rfl⟩ := Mx.cases M
    · skip
      have hin := h
      obtain ⟨a, b, off, cap, a', b', off', cap', e1, hn, hs, hl, e2, hm, hl', hk⟩ := h
      obtain rfl : sv = _ := e1
      obtain rfl : kv = _ := e2
      simp only [Mx.mk_kid] at hk
      simp only [partsL_mk] at hxs ⊢
      have hpre1 : (pre ++ [(d, Sh.mk kind n L H m K, Mx.mk (.slice a n cap) (.slice a' m cap') M)]) <+: xs := by
        obtain ⟨t, ht⟩ := hxs
        exact ⟨catN (fun i => partsL (K i) (d + 1) (M i)) m ++ t, by rw [← ht]; simp [List.append_assoc]⟩
      have hb0 : Below W.heap.size W (W.alloc (.cells #[.int .i64 kind, .slice a n cap, .slice a' m cap'] 50)) := (Below.refl _ _).alloc (Nat.le_refl _) _
      obtain ⟨fn, tmps, assign, body, hy, hR⟩ := hY pre (d, Sh.mk kind n L H m K, Mx.mk (.slice a n cap) (.slice a' m cap') M) _ (hJ _ _ _ hJ0 hb0) hpre1
      simp only [encP, vx, Sh.mk_kind, Mx.mk_sv, Mx.mk_kv] at hy
      simp only [vx, Sh.mk_kind, Mx.mk_sv, Mx.mk_kv]
      have HR : Hid (RoundIn Fence.wide 0 Tryz.prog l fn tmps assign body (W.alloc (.cells #[.int .i64 kind, .slice a n cap, .slice a' m cap'] 50)) (YRes X J Jp (pre ++ [(d, Sh.mk kind n L H m K, Mx.mk (.slice a n cap) (.slice a' m cap') M)]) (W.alloc (.cells #[.int .i64 kind, .slice a n cap, .slice a' m cap'] 50)))) := hR
      clear hR hn hs
      refine callsIn_of_wp Tryz.func84 rfl trivial ?_
      simp only [Tryz.ntmps84, List.size_toArray, List.length_cons, List.length_nil, Nat.reduceAdd, Nat.reduceSub, Array.replicate_succ, Array.replicate_zero, List.push_toArray, List.append_toArray, List.nil_append, List.cons_append]
      gi_wp2_with fail
      refine ⟨rfl, HR.out.mono ?_⟩
      clear hy HR
      rintro e W2 (⟨rfl, hJ2, hK2⟩ | ⟨ch, rfl, hp⟩)
      · have hbox : W2.cell? ⟨W.heap.size, 2, none⟩ = some (.slice a' m cap') := hK2.cell (by simp [go_sem]) (fun e => by have := (hX _ e).2; simp at this; omega)
        have hKW2 : Keeps X W W2 := (keeps_of_below X hb0).trans hK2
        have HIN : Hid (In (· < n₀) W (Sh.mk kind n L H m K) (Mx.mk (.slice a n cap) (.slice a' m cap') M)) := hin
        have HK : Hid (∀ i, i < m → Kid W b' (off' + i * 3) (K i) (M i) ∧ In (fun x => x < n₀) W (K i) (M i)) := hk
        have HIH : Hid _ := ih
        have HX : Hid (∀ k, X k → n₀ ≤ k ∧ k < B) := hX
        have HXS : Hid _ := hxs
        simp only [cnt_mk] at hcnt
        clear hin hk ih hX hxs hJ0 hpre1
        gi_wp2_with fail
        gi_loopw [17] (fun i wr => ∃ k : Nat, k ≤ m ∧ i = .int .i64 k ∧ J (pre ++ (d, Sh.mk kind n L H m K, Mx.mk (.slice a n cap) (.slice a' m cap') M) :: catN (fun i => partsL (K i) (d + 1) (M i)) k) wr ∧ Keeps X W wr) (fun i _ => m - (intOf i).toNat)
        case atStart => exact ⟨0, Nat.zero_le _, rfl, by simpa [catN] using hJ2, hKW2⟩
        case round =>
          obtain ⟨k, hkm, rfl, hJk, hKk⟩ := hrel
          by_cases hlt : k < m
          · obtain ⟨rfl, hbn⟩ := hm (by omega)
            have hltz : (k : Int) < (m : Int) := by omega
            obtain ⟨⟨c1, c2, c3⟩, hink⟩ := HK.out k hlt
            obtain ⟨sa, sn, sc, ka, km, kc, es, ek⟩ := hink.slices
            have hnx : ¬ X b' := fun e => by have := (HX.out _ e).1; omega
            have d1 : wr.cell? ⟨b', off' + k * 3, none⟩ = some (.int .i64 (K k).kind) := hKk.cell c1 hnx
            have d2 : wr.cell? ⟨b', off' + k * 3 + 1, none⟩ = some (.slice sa sn sc) := by rw [← es]; exact hKk.cell c2 hnx
            have d3 : wr.cell? ⟨b', off' + k * 3 + 2, none⟩ = some (.slice ka km kc) := by rw [← ek]; exact hKk.cell c3 hnx
            have hbk : Below wr.heap.size wr (wr.alloc (.cells #[.int .i64 (K k).kind, .slice sa sn sc, .slice ka km kc] 50)) := (Below.refl _ _).alloc (Nat.le_refl _) _
            have hcall := HIH.out k hlt (d + 1) (M k) (pre ++ (d, Sh.mk kind n L H m K, Mx.mk (.slice a n cap) (.slice (some ⟨b', off', none⟩) m cap') M) :: catN (fun i => partsL (K i) (d + 1) (M i)) k) (wr.alloc (.cells #[.int .i64 (K k).kind, .slice sa sn sc, .slice ka km kc] 50))
              (by
                refine List.IsPrefix.trans ?_ HXS.out
                have h1 : catN (fun i => partsL (K i) (d + 1) (M i)) (k + 1) <+: catN (fun i => partsL (K i) (d + 1) (M i)) m := catN_pre _ hlt
                simp only [catN] at h1
                rw [List.append_assoc, List.cons_append]
                exact (List.prefix_append_right_inj _).2 (List.cons_prefix_cons.2 ⟨rfl, h1⟩))
              ((hink.keeps (fun k e => (HX.out k e).1) hKk).below hbk) (hJ _ _ _ hJk hbk) (by have := hKk.size; simp; omega) (by have := sumN_at (f := fun i => cnt (K i)) hlt; omega)
            rw [vx, es, ek, show ((d + 1 : Nat) : Int) = (d : Int) + 1 from by omega] at hcall
            have HC : Hid (CallsIn Fence.wide 0 Tryz.prog 84 _ _ _) := hcall
            clear c1 c2 c3 es ek hcall hink
            gi_wp2_with fail
            refine ⟨trivial, rfl, HC.out.mono ?_⟩
            clear HC
            rintro e W3 (⟨rfl, hJ3, hK3⟩ | ⟨ch, rfl, hp⟩)
            · gi_wp2_with fail
              go_roundw
              case rel => exact ⟨k + 1, by omega, by go_num, by simpa [catN, List.append_assoc] using hJ3, hKk.trans ((keeps_of_below X hbk).trans hK3)⟩
              case measure => simp [intOf]; omega
            · exact ⟨rfl, .inr ⟨ch, rfl, hp⟩⟩
          · gi_wp2_with fail
            go_ret
            obtain rfl : k = m := by omega
            exact .inl ⟨rfl, hJk, hKk⟩
      · exact ⟨rfl, .inr ⟨ch, rfl, hp⟩⟩

/-- partsOf: the Rex is boxed; the function value captures the box -/
theorem partsOf_any (v : Value) (k : Int) (a : Option Addr) (n c : Nat) (a' : Option Addr) (m c' : Nat) (hv : v = .agg #[.int .i64 k, .slice a n c, .slice a' m c']) (w : World) :
    Calls Tryz.prog 78 #[v] w fun e w' => e = .returned (.func (.func 83) #[] #[.pointer (some ⟨w.heap.size, 0, none⟩)]) ∧ w' = w.alloc (.cells #[.int .i64 k, .slice a n c, .slice a' m c'] 50) := by
  subst hv
  have hmf : ∀ (fn : Fn) (first cap : Array Value) (w : World), (Instr.makeFunc fn first cap).run Tryz.prog w = .ok (.func fn first cap) w := fun _ _ _ _ => rfl
  go_enter Tryz.func78, Tryz.ntmps78
  go_wp2_with fail
  go_ret
  exact ⟨rfl, rfl⟩

set_option maxRecDepth 100000 in
set_option maxHeartbeats 1000000 in
/-- the parts of a Rex are yielded, one behind the other -/
theorem parts_seq (S : Sh) (M : Mx) (n₀ Bt : Nat) (w : World) (hBt : Bt < w.heap.size) (hn₀ : n₀ ≤ w.heap.size) (hc : Kid w Bt 0 S M) (hT : In (· < n₀) w S M) (hcnt : cnt S ≤ 1048576) :
    SeqPan Tryz.prog 83 #[.pointer (some ⟨Bt, 0, none⟩)] encP n₀ (partsL S 0 M) w := by
  intro l X J Jp W hW hX hJ hY h0
  have hT' : In (· < n₀) W S M := hT.below hW
  obtain ⟨sa, sn, sc, ka, km, kc, es, ek⟩ := hT.slices
  obtain ⟨k1, k2, k3⟩ := hc
  rw [es] at k2
  rw [ek] at k3
  have c1 := (hW.cell (p := ⟨Bt, 0, none⟩) hBt).trans k1
  have c2 := (hW.cell (p := ⟨Bt, 0 + 1, none⟩) hBt).trans k2
  have c3 := (hW.cell (p := ⟨Bt, 0 + 2, none⟩) hBt).trans k3
  simp only [Nat.zero_add] at c2 c3
  have hp := yieldParts_in l n₀ W.heap.size X J Jp (partsL S 0 M) hX hJ hY S 0 M [] W (by simp) hT' h0 (Nat.le_refl _) (by omega)
  rw [vx, es, ek] at hp
  have HP : Hid (CallsIn Fence.wide 0 Tryz.prog 84 #[.agg #[.int .i64 S.kind, .slice sa sn sc, .slice ka km kc], .int .i64 0, .func (.yield l) #[] #[]] W (YRes X J Jp (partsL S 0 M) W)) := by rw [Hid]; simpa using hp
  clear hp es ek k1 k2 k3 hY
  refine (callsIn_wide (n := 0)).1 ?_
  refine callsIn_of_wp Tryz.func83 rfl trivial ?_
  simp only [Tryz.ntmps83, List.size_toArray, List.length_cons, List.length_nil, Nat.reduceAdd, Nat.reduceSub, Array.replicate_succ, Array.replicate_zero, List.push_toArray, List.append_toArray, List.nil_append, List.cons_append]
  gi_wp2_with fail
  refine ⟨trivial, rfl, HP.out.mono ?_⟩
  clear HP
  rintro e W3 (⟨rfl, hJ3, hK3⟩ | ⟨ch, rfl, hp⟩)
  · gi_wp2_with fail
    go_end0
    exact .inl ⟨⟨_, rfl⟩, hJ3⟩
  · exact ⟨rfl, .inr ⟨ch, rfl, hp⟩⟩

end Go.Proofs.YtplpdikkkbiacaaGreatDoor

