/- the walk of checkRules -/
import Derived.Test.YtplpdikkkbiacaaGreatDoorUe
import Derived.Maps.OwnOps
import Derived.Maps.OwnSet
import Derived.Maps.Views
import Derived.Test.YtplpdikkkbiacaaGreatDoorTm
namespace Go.Proofs.YtplpdikkkbiacaaGreatDoor
open Go.RowKit
set_option linter.unusedVariables false
set_option linter.unusedSimpArgs false

theorem small_any (c : Nat) (hc : c < 10) (w : World) : Calls Tryz.prog 91 #[.int .i64 c] w fun e w' => (∃ s, e = .returned (.string s) ∧ s.size ≤ 10) ∧ w' = w := by
  have h10 : (c : Int) < 10 := by omega
  go_enter Tryz.func91, Tryz.ntmps91
  go_wp2_with fail
  go_ret
  exact ⟨⟨_, rfl, by simp [ByteArray.size_extract]; omega⟩, rfl⟩
theorem formatInt_any (c : Nat) (hc : c < 10) (w : World) : Calls Tryz.prog 82 #[.int .i64 c, .int .i64 10] w fun e w' => (∃ s, e = .returned (.string s) ∧ s.size ≤ 10) ∧ w' = w := by
  have h0 : (0 : Int) ≤ (c : Int) := by omega
  have h10 : (c : Int) < 100 := by omega
  have HS := small_any c hc
  go_enter Tryz.func82, Tryz.ntmps82
  go_wp2_with fail
  refine (HS _).mono ?_
  rintro e w1 ⟨⟨s, rfl, hs⟩, rfl⟩
  go_wp2_with fail
  go_ret
  exact ⟨⟨_, rfl, hs⟩, rfl⟩
theorem itoaIn_any (c : Nat) (hc : c < 10) (w : World) : Calls Tryz.prog 76 #[.int .i64 c] w fun e w' => (∃ s, e = .returned (.string s) ∧ s.size ≤ 10) ∧ w' = w := by
  have HS := formatInt_any c hc
  go_enter Tryz.func76, Tryz.ntmps76
  go_wp2_with fail
  refine (HS _).mono ?_
  rintro e w1 ⟨⟨s, rfl, hs⟩, rfl⟩
  go_wp2_with fail
  go_ret
  exact ⟨⟨_, rfl, hs⟩, rfl⟩
theorem itoa_small (c : Nat) (hc : c < 10) (w : World) : Calls Tryz.prog 65 #[.int .i64 c] w fun e w' => (∃ s, e = .returned (.string s) ∧ s.size ≤ 10) ∧ w' = w := by
  have HS := itoaIn_any c hc
  go_enter Tryz.func65, Tryz.ntmps65
  go_wp2_with fail
  refine (HS _).mono ?_
  rintro e w1 ⟨⟨s, rfl, hs⟩, rfl⟩
  go_wp2_with fail
  go_ret
  exact ⟨⟨_, rfl, hs⟩, rfl⟩

/-! the map -/
theorem keyedS : Maps.Keyed Tryz.prog 9 := Maps.string_keyed Tryz.underlying9
theorem zeroInt (w : World) : (zeroValue 3).run Tryz.prog w = .ok (.int .i64 0) w := by kernel_rfl
/-- a name, as a key -/
def kls (s : ByteArray) : Lit := .string s.data.toList
theorem kls_eq (s : ByteArray) (hs : s.size ≤ maxLen) : keyOf Tryz.prog 9 (.string s) = some (kls s) := Go.WideMaps.keyOf_string_mk Tryz.underlying9 hs
theorem kls_ne {s t : ByteArray} (h : s ≠ t) : kls s ≠ kls t := by
  intro e
  apply h
  obtain ⟨s⟩ := s
  obtain ⟨t⟩ := t
  simp only [kls, Lit.string.injEq] at e
  rw [Array.toList_inj.1 e]
theorem wf_nat (i : Nat) (h : i < 10) : (Lit.int .i64 (i : Int)).wf = true := by
  have e1 : IntKind.i64.min = -9223372036854775808 := by decide
  have e2 : IntKind.i64.max = 9223372036854775807 := by decide
  simp [Lit.wf, e1, e2]
  omega

/-- the names that are there, each with some small number -/
def Nm (w : World) (b n : Nat) (F : ByteArray → Bool) : Prop := ∃ D : DataW Unit, w.ownsMap Tryz.prog 9 (plainElem Tryz.prog 3) b n D ∧ ∀ s, s.size ≤ maxLen → Maps.has D (kls s) = F s ∧ ∃ c : Nat, c < 10 ∧ D.atKey (kls s) (.lit (.int .i64 0)) = .lit (.int .i64 c)
theorem Nm.look {w : World} {b n : Nat} {F : ByteArray → Bool} (h : Nm w b n F) {s : ByteArray} (hs : s.size ≤ maxLen) : ∃ c : Nat, c < 10 ∧ (Instr.lookup 89 (.map (some b)) (.string s) true).run Tryz.prog w = .ok (.tuple #[.int .i64 c, .bool (F s)]) w := by
  obtain ⟨D, hown, hD⟩ := h
  obtain ⟨hF, c, hc, hat⟩ := hD s hs
  obtain ⟨v, ps, hrun, hv⟩ := hown.look_ok (zd := .lit (.int .i64 0)) (zp := []) keyedS Tryz.underlying89 (zeroInt w) (plainElem_int Tryz.underlying3 (by decide)) (kls_eq s hs)
  obtain ⟨c', rfl, h1, _⟩ := plainElem_int_inv Tryz.underlying3 hv
  rw [hat] at h1
  simp only [Prod.mk.injEq, DataW.lit.injEq, Lit.int.injEq, true_and] at h1
  refine ⟨c, hc, ?_⟩
  rw [hrun, hF, h1.1]
theorem Nm.kept {w w' : World} {b n : Nat} {F : ByteArray → Bool} (h : Nm w b n F) (hb : Below w.heap.size w w') : Nm w' b n F := by
  obtain ⟨D, hown, hD⟩ := h
  exact ⟨D, hown.kept (row := none) ⟨hb.os, hb.tape, hb.output, hb.size, fun k hk _ => hb.block k hk⟩ (by simp), hD⟩
theorem Nm.made (w : World) : Nm (w.alloc (.map #[] 0)) w.heap.size 0 (fun _ => false) :=
  ⟨.map [], World.ownsMap_made w _ _ _, fun s _ => ⟨rfl, 0, by omega, rfl⟩⟩
theorem Nm.lt {w : World} {b n : Nat} {F : ByteArray → Bool} (h : Nm w b n F) : b < w.heap.size := by
  obtain ⟨D, hown, _⟩ := h
  exact hown.lt
theorem Nm.put {w : World} {b n : Nat} {F : ByteArray → Bool} (h : Nm w b n F) (hn : n ≤ 1000000000000) {s : ByteArray} (hs : s.size ≤ maxLen) {c : Nat} (hc : c < 10) :
    ∃ w', (Instr.mapUpdate 89 (.map (some b)) (.string s) (.int .i64 c)).run Tryz.prog w = .ok () w' ∧ Nm w' b (n + 1) (fun t => decide (t = s) || F t) ∧ w.grownBy w' (some b) := by
  obtain ⟨D, hown, hD⟩ := h
  obtain ⟨w', hrun, hown', hgr⟩ := hown.update keyedS Tryz.underlying89 (by unfold maxLen; omega) (kls_eq s hs) (plainElem_int Tryz.underlying3 (wf_nat c hc))
  refine ⟨w', hrun, ⟨_, hown', fun t ht => ?_⟩, hgr⟩
  by_cases e : t = s
  · subst e
    obtain ⟨es, _, _, _, _, rfl⟩ := hown
    exact ⟨by rw [Maps.has_put_same ⟨_, rfl⟩ (keyedS.key (kls_eq t hs))]; simp, c, hc, Maps.atKey_put_same ⟨_, rfl⟩ (keyedS.key (kls_eq t hs)) _ _⟩
  · rw [Maps.has_put_other (kls_ne e), Maps.atKey_put_other (kls_ne e)]
    obtain ⟨h1, h2⟩ := hD t ht
    exact ⟨by rw [h1]; simp [e], h2⟩

def AddNm (s : ByteArray) (b n : Nat) (F : ByteArray → Bool) (w : World) (e : Ending) (w' : World) : Prop :=
  (OkNm s ∧ F s = false ∧ e = .returned .nilIface ∧ Nm w' b (n + 1) (fun t => decide (t = s) || F t) ∧ w.grownBy w' (some b)) ∨
  (¬ (OkNm s ∧ F s = false) ∧ (∃ (p : Int) (t : ByteArray), e = .returned (.iface 85 (.agg #[.int .i64 p, .string t]))) ∧ w' = w)

set_option maxRecDepth 100000 in
set_option maxHeartbeats 1000000 in
theorem addName_any (s : ByteArray) (b n : Nat) (F : ByteArray → Bool) (c : Nat) (w : World) (hs : s.size ≤ 1048576) (hc : c < 10) (hn : n ≤ 1000000) (hm : Nm w b n F) :
    Calls Tryz.prog 47 #[.map (some b), .string s, .int .i64 c] w (AddNm s b n F w) := by
  by_cases hw : OkNm s
  · have HW : Hid (∀ w1, Calls Tryz.prog 64 #[.string s] w1 fun e w' => e = .returned (.bool true) ∧ w' = w1) := fun w1 => (implName_any s hs w1).mono (fun e w' h => h.yes hw)
    obtain ⟨c', hc', hlk⟩ := hm.look (s := s) (by unfold maxLen; omega)
    cases hF : F s
    · rw [hF] at hlk
      obtain ⟨w', hup, hm', hg⟩ := hm.put (by omega) (s := s) (by unfold maxLen; omega) hc
      have HM : Hid (Nm w' b (n + 1) (fun t => decide (t = s) || F t) ∧ w.grownBy w' (some b)) := ⟨hm', hg⟩
      clear hm hm' hg
      go_enter Tryz.func47, Tryz.ntmps47
      go_wp2_with fail
      refine (HW.out _).mono ?_
      rintro e w1 ⟨rfl, rfl⟩
      go_wp2_with fail
      go_ret
      exact Or.inl ⟨hw, hF, rfl, HM.out⟩
    · rw [hF] at hlk
      have HI := itoa_small c' hc'
      clear hm
      go_enter Tryz.func47, Tryz.ntmps47
      go_wp2_with fail
      refine (HW.out _).mono ?_
      rintro e w1 ⟨rfl, rfl⟩
      go_wp2_with fail
      refine (HI _).mono ?_
      rintro e w1 ⟨⟨t, rfl, ht⟩, rfl⟩
      have ht2 : (t.size : Int) ≤ 10 := by omega
      go_wp2_with fail
      go_ret
      exact Or.inr ⟨fun h => (by rw [hF] at h; cases h.2), ⟨_, _, rfl⟩, rfl⟩
  · have HW : Hid (∀ w1, Calls Tryz.prog 64 #[.string s] w1 fun e w' => e = .returned (.bool false) ∧ w' = w1) := fun w1 => (implName_any s hs w1).mono (fun e w' h => h.no hw)
    clear hm
    go_enter Tryz.func47, Tryz.ntmps47
    go_wp2_with fail
    refine (HW.out _).mono ?_
    rintro e w1 ⟨rfl, rfl⟩
    go_wp2_with fail
    go_ret
    exact Or.inr ⟨fun h => hw h.1, ⟨_, _, rfl⟩, rfl⟩
end Go.Proofs.YtplpdikkkbiacaaGreatDoor
namespace Go.Proofs.YtplpdikkkbiacaaGreatDoor
open Go.RowKit
set_option linter.unusedVariables false
set_option linter.unusedSimpArgs false

/-- the names of the first k rules -/
def namesF (N : Nat → ByteArray) : Nat → ByteArray → Bool
  | 0, _ => false
  | k + 1, t => decide (t = N k) || namesF N k t
theorem namesF_iff (N : Nat → ByteArray) (t : ByteArray) : ∀ k, namesF N k t = true ↔ ∃ j, j < k ∧ N j = t
  | 0 => by simp [namesF]
  | k + 1 => by
    simp only [namesF, Bool.or_eq_true, decide_eq_true_eq, namesF_iff N t k]
    constructor
    · rintro (rfl | ⟨j, hj, e⟩)
      · exact ⟨k, by omega, rfl⟩
      · exact ⟨j, by omega, e⟩
    · rintro ⟨j, hj, e⟩
      by_cases h : j = k
      · subst h; exact .inl e.symm
      · exact .inr ⟨j, by omega, e⟩

/-- what tells of rules: no error where they are right, else what says that they are none -/
def ErrRes (n : Nat) (N : Nat → ByteArray) (K : Nat → Sh) (w : World) (e : Ending) (w' : World) : Prop :=
  ((RulesGood n N K ∧ e = .returned .nilIface) ∨ (¬ RulesGood n N K ∧ ∃ (p : Int) (t : ByteArray), e = .returned (.iface 85 (.agg #[.int .i64 p, .string t])))) ∧ Below w.heap.size w w'
theorem ErrRes.no {n : Nat} {N : Nat → ByteArray} {K : Nat → Sh} {w w' : World} {p : Int} {t : ByteArray} (h : ¬ RulesGood n N K) (hb : Below w.heap.size w w') : ErrRes n N K w (.returned (.iface 85 (.agg #[.int .i64 p, .string t]))) w' := ⟨.inr ⟨h, _, _, rfl⟩, hb⟩
theorem ErrRes.yes {n : Nat} {N : Nat → ByteArray} {K : Nat → Sh} {w w' : World} (h : RulesGood n N K) (hb : Below w.heap.size w w') : ErrRes n N K w (.returned .nilIface) w' := ⟨.inl ⟨h, rfl⟩, hb⟩

set_option maxRecDepth 100000 in
set_option maxHeartbeats 2000000 in
theorem checkRules_any (a : Option Addr) (b off n cap : Nat) (N : Nat → ByteArray) (K : Nat → Sh) (M : Nat → Mx) (w : World) (t : TypeId) (ea : Addr) (hE : Err w t ea) (hga : 0 < n → a = some ⟨b, off, none⟩) (hR : RulesIn AnyB w b off n N K M) (hn : n ≤ 1048576)
    (hN : ∀ i, i < n → (N i).size ≤ 1048576) (hc : ∀ i, i < n → cnt (K i) ≤ 1048576) :
    Calls Tryz.prog 34 #[.slice a n cap] w (ErrRes n N K w) := by
  by_cases h1 : n = 0
  · subst h1
    go_enter Tryz.func34, Tryz.ntmps34
    go_wp2_with fail
    go_ret
    exact .no (fun h => absurd h.1 (by omega)) (Below.refl _ _)
  · have h1z : ¬ (n : Int) = 0 := by omega
    by_cases h5 : n ≤ 5
    · have h5z : ¬ (5 : Int) < (n : Int) := by omega
      have hmm := @run_makeMap Tryz.prog
      go_enter Tryz.func34, Tryz.ntmps34
      go_wp2_with fail
      clear hmm
      go_loopw [20] (fun i wr => ∃ k : Nat, k ≤ n ∧ i = .int .i64 k ∧ Hid (∀ j, j < k → RuleGood N K j) ∧ Hid (Nm wr w.heap.size k (namesF N k)) ∧ Below w.heap.size w wr) (fun i _ => n - (intOf i).toNat)
      case atStart => exact ⟨0, Nat.zero_le _, rfl, fun j hj => absurd hj (Nat.not_lt_zero _), Nm.made w, (Below.refl _ _).alloc (Nat.le_refl _) _⟩
      case round =>
        obtain ⟨k, hk', rfl, HG, HM, hB⟩ := hrel
        by_cases hlt : k < n
        · obtain rfl := hga (by omega)
          have hltz : (k : Int) < (n : Int) := by omega
          obtain ⟨hat, hin⟩ := hR k hlt
          obtain ⟨d0, d1, d2, d3⟩ := (hat.below hB).cells
          obtain ⟨sa, sn, sc, ka, km, kc, es, ek⟩ := hin.slices
          rw [es] at d2
          rw [ek] at d3
          have hlm := HM.out.lt
          have hb0 : Below wr.heap.size wr (wr.alloc (.cells #[.string (N k), .int .i64 (K k).kind, .slice sa sn sc, .slice ka km kc] 52)) := (Below.refl _ _).alloc (Nat.le_refl _) _
          have HA : Hid (∀ w1, Below wr.heap.size wr w1 → Calls Tryz.prog 47 #[.map (some w.heap.size), .string (N k), .int .i64 k] w1 (AddNm (N k) w.heap.size k (namesF N k) w1)) := fun w1 hb => addName_any (N k) w.heap.size k (namesF N k) k w1 (hN k hlt) (by omega) (by omega) (HM.out.kept hb)
          have HO : Hid (∀ w1, Below w.heap.size w w1 → Calls Tryz.prog 48 #[.agg #[.int .i64 (K k).kind, .slice sa sn sc, .slice ka km kc]] w1 fun e w' => e = .returned (.bool (okR (K k))) ∧ Below w1.heap.size w1 w') := fun w1 hb => by
            have := implRexOk_any (K k) (M k) w1 t ea (hE.below hb) (hin.below hb) (hc k hlt)
            rwa [vx, es, ek] at this
          clear es ek
          go_wp2_with fail
          refine (HA.out _ hb0).mono ?_
          rintro e w1 (⟨hw, hF, rfl, hm1, hg1⟩ | ⟨hno, ⟨p, s, rfl⟩, rfl⟩)
          · have hkeep : w1.heap[wr.heap.size]? = (wr.alloc (.cells #[.string (N k), .int .i64 (K k).kind, .slice sa sn sc, .slice ka km kc] 52)).heap[wr.heap.size]? := hg1.block _ (by simp) (by simp; omega)
            have x1 : w1.cell? ⟨wr.heap.size, 1, none⟩ = some (.int .i64 (K k).kind) := (World.cell?_of_block hkeep).trans (by simp [go_sem])
            have x2 : w1.cell? ⟨wr.heap.size, 2, none⟩ = some (.slice sa sn sc) := (World.cell?_of_block hkeep).trans (by simp [go_sem])
            have x3 : w1.cell? ⟨wr.heap.size, 3, none⟩ = some (.slice ka km kc) := (World.cell?_of_block hkeep).trans (by simp [go_sem])
            have hB1 : Below w.heap.size w w1 := (hB.trans (hb0.mono hB.size)).grown hg1 ((hB.trans (hb0.mono hB.size)).size) (fun j hj => by cases hj; exact Nat.le_refl _)
            have HM1 : Hid (Nm w1 w.heap.size (k + 1) (namesF N (k + 1))) := hm1
            clear hm1 hg1 hkeep
            by_cases hok : okR (K k) = true
            · rw [hok] at HO
              have HG1 : Hid (∀ j, j < k + 1 → RuleGood N K j) := fun j hj => by
                by_cases e : j = k
                · subst e
                  exact ⟨hw, hok, fun q hq e => by
                    have := (namesF_iff N (N j) j).2 ⟨q, hq, e⟩
                    rw [hF] at this; cases this⟩
                · exact HG.out j (by omega)
              go_wp2_with fail
              refine (HO.out _ hB1).mono ?_
              rintro e w2 ⟨rfl, hb2⟩
              go_wp2_with fail
              go_roundw
              case rel => exact ⟨k + 1, by omega, by go_num, HG1, HM1.out.kept hb2, hB1.trans (hb2.mono hB1.size)⟩
              case measure => simp [intOf]; omega
            · have hok' : okR (K k) = false := by simpa using hok
              rw [hok'] at HO
              go_wp2_with fail
              refine (HO.out _ hB1).mono ?_
              rintro e w2 ⟨rfl, hb2⟩
              go_wp2_with fail
              go_ret
              exact .no (fun h => hok (h.2.2 k hlt).2.1) (hB1.trans (hb2.mono hB1.size))
          · have HNG : Hid (¬ RulesGood n N K) := fun h => by
              obtain ⟨g1, g2, g3⟩ := h.2.2 k hlt
              refine hno ⟨g1, ?_⟩
              rw [← Bool.not_eq_true]
              intro e
              obtain ⟨j, hj, e⟩ := (namesF_iff N (N k) k).1 e
              exact g3 j hj e
            go_wp2_with fail
            go_ret
            exact .no HNG.out (hB.trans (hb0.mono hB.size))
        · go_wp2_with fail
          go_ret
          obtain rfl : k = n := by omega
          exact .yes ⟨by omega, h5, HG.out⟩ hB
    · have h5z : (5 : Int) < (n : Int) := by omega
      go_enter Tryz.func34, Tryz.ntmps34
      go_wp2_with fail
      go_ret
      exact .no (fun h => h5 h.2.1) (Below.refl _ _)
end Go.Proofs.YtplpdikkkbiacaaGreatDoor

