/- small numbers as texts; a map of names that this call makes; add -/
import Derived.Test.YtcpbkkdjaojfiaaGreatDoorUe
import Derived.Maps.OwnOps
import Derived.Maps.OwnSet
import Derived.Maps.Views
namespace Go.Proofs.YtcpbkkdjaojfiaaGreatDoor
open Go.RowKit
set_option linter.unusedVariables false
set_option linter.unusedSimpArgs false

theorem small_any (c : Nat) (hc : c < 10) (w : World) : Calls Tryz.prog 73 #[.int .i64 c] w fun e w' => (∃ s, e = .returned (.string s) ∧ s.size ≤ 10) ∧ w' = w := by
  have h10 : (c : Int) < 10 := by omega
  go_enter Tryz.func73, Tryz.ntmps73
  go_wp2_with fail
  go_ret
  exact ⟨⟨_, rfl, by simp [ByteArray.size_extract]; omega⟩, rfl⟩
theorem formatInt_any (c : Nat) (hc : c < 10) (w : World) : Calls Tryz.prog 71 #[.int .i64 c, .int .i64 10] w fun e w' => (∃ s, e = .returned (.string s) ∧ s.size ≤ 10) ∧ w' = w := by
  have h0 : (0 : Int) ≤ (c : Int) := by omega
  have h10 : (c : Int) < 100 := by omega
  have HS := small_any c hc
  go_enter Tryz.func71, Tryz.ntmps71
  go_wp2_with fail
  refine (HS _).mono ?_
  rintro e w1 ⟨⟨s, rfl, hs⟩, rfl⟩
  go_wp2_with fail
  go_ret
  exact ⟨⟨_, rfl, hs⟩, rfl⟩
theorem itoaIn_any (c : Nat) (hc : c < 10) (w : World) : Calls Tryz.prog 68 #[.int .i64 c] w fun e w' => (∃ s, e = .returned (.string s) ∧ s.size ≤ 10) ∧ w' = w := by
  have HS := formatInt_any c hc
  go_enter Tryz.func68, Tryz.ntmps68
  go_wp2_with fail
  refine (HS _).mono ?_
  rintro e w1 ⟨⟨s, rfl, hs⟩, rfl⟩
  go_wp2_with fail
  go_ret
  exact ⟨⟨_, rfl, hs⟩, rfl⟩
theorem itoa_small (c : Nat) (hc : c < 10) (w : World) : Calls Tryz.prog 57 #[.int .i64 c] w fun e w' => (∃ s, e = .returned (.string s) ∧ s.size ≤ 10) ∧ w' = w := by
  have HS := itoaIn_any c hc
  go_enter Tryz.func57, Tryz.ntmps57
  go_wp2_with fail
  refine (HS _).mono ?_
  rintro e w1 ⟨⟨s, rfl, hs⟩, rfl⟩
  go_wp2_with fail
  go_ret
  exact ⟨⟨_, rfl, hs⟩, rfl⟩

/-! the map -/
theorem keyedS : Maps.Keyed Tryz.prog 9 := Maps.string_keyed Tryz.underlying9
theorem zeroInt (w : World) : (zeroValue 3).run Tryz.prog w = .ok (.int .i64 0) w := by kernel_rfl
/-- a name, as a key -/
def kls (s : ByteArray) : Lit := .string s.data.toList
theorem kls_eq (s : ByteArray) (hs : s.size ≤ maxLen) : keyOf Tryz.prog 9 (.string s) = some (kls s) := Go.WideMaps.keyOf_string_mk Tryz.underlying9 hs
theorem kls_ne {s t : ByteArray} (h : s ≠ t) : kls s ≠ kls t := by
  intro e
  apply h
  obtain ⟨s⟩ := s
  obtain ⟨t⟩ := t
  simp only [kls, Lit.string.injEq] at e
  rw [Array.toList_inj.1 e]
theorem wf_nat (i : Nat) (h : i < 10) : (Lit.int .i64 (i : Int)).wf = true := by
  have e1 : IntKind.i64.min = -9223372036854775808 := by decide
  have e2 : IntKind.i64.max = 9223372036854775807 := by decide
  simp [Lit.wf, e1, e2]
  omega

/-- the names that are there, each with some small number -/
def Nm (w : World) (b n : Nat) (F : ByteArray → Bool) : Prop := ∃ D : DataW Unit, w.ownsMap Tryz.prog 9 (plainElem Tryz.prog 3) b n D ∧ ∀ s, s.size ≤ maxLen → Maps.has D (kls s) = F s ∧ ∃ c : Nat, c < 10 ∧ D.atKey (kls s) (.lit (.int .i64 0)) = .lit (.int .i64 c)
theorem Nm.look {w : World} {b n : Nat} {F : ByteArray → Bool} (h : Nm w b n F) {s : ByteArray} (hs : s.size ≤ maxLen) : ∃ c : Nat, c < 10 ∧ (Instr.lookup 77 (.map (some b)) (.string s) true).run Tryz.prog w = .ok (.tuple #[.int .i64 c, .bool (F s)]) w := by
  obtain ⟨D, hown, hD⟩ := h
  obtain ⟨hF, c, hc, hat⟩ := hD s hs
  obtain ⟨v, ps, hrun, hv⟩ := hown.look_ok (zd := .lit (.int .i64 0)) (zp := []) keyedS Tryz.underlying77 (zeroInt w) (plainElem_int Tryz.underlying3 (by decide)) (kls_eq s hs)
  obtain ⟨c', rfl, h1, _⟩ := plainElem_int_inv Tryz.underlying3 hv
  rw [hat] at h1
  simp only [Prod.mk.injEq, DataW.lit.injEq, Lit.int.injEq, true_and] at h1
  refine ⟨c, hc, ?_⟩
  rw [hrun, hF, h1.1]
theorem Nm.kept {w w' : World} {b n : Nat} {F : ByteArray → Bool} (h : Nm w b n F) (hb : Below w.heap.size w w') : Nm w' b n F := by
  obtain ⟨D, hown, hD⟩ := h
  exact ⟨D, hown.kept (row := none) ⟨hb.os, hb.tape, hb.output, hb.size, fun k hk _ => hb.block k hk⟩ (by simp), hD⟩
theorem Nm.made (w : World) : Nm (w.alloc (.map #[] 0)) w.heap.size 0 (fun _ => false) :=
  ⟨.map [], World.ownsMap_made w _ _ _, fun s _ => ⟨rfl, 0, by omega, rfl⟩⟩
theorem Nm.lt {w : World} {b n : Nat} {F : ByteArray → Bool} (h : Nm w b n F) : b < w.heap.size := by
  obtain ⟨D, hown, _⟩ := h
  exact hown.lt
theorem Nm.put {w : World} {b n : Nat} {F : ByteArray → Bool} (h : Nm w b n F) (hn : n ≤ 1000000000000) {s : ByteArray} (hs : s.size ≤ maxLen) {c : Nat} (hc : c < 10) :
    ∃ w', (Instr.mapUpdate 77 (.map (some b)) (.string s) (.int .i64 c)).run Tryz.prog w = .ok () w' ∧ Nm w' b (n + 1) (fun t => decide (t = s) || F t) ∧ w.grownBy w' (some b) := by
  obtain ⟨D, hown, hD⟩ := h
  obtain ⟨w', hrun, hown', hgr⟩ := hown.update keyedS Tryz.underlying77 (by unfold maxLen; omega) (kls_eq s hs) (plainElem_int Tryz.underlying3 (wf_nat c hc))
  refine ⟨w', hrun, ⟨_, hown', fun t ht => ?_⟩, hgr⟩
  by_cases e : t = s
  · subst e
    obtain ⟨es, _, _, _, _, rfl⟩ := hown
    exact ⟨by rw [Maps.has_put_same ⟨_, rfl⟩ (keyedS.key (kls_eq t hs))]; simp, c, hc, Maps.atKey_put_same ⟨_, rfl⟩ (keyedS.key (kls_eq t hs)) _ _⟩
  · rw [Maps.has_put_other (kls_ne e), Maps.atKey_put_other (kls_ne e)]
    obtain ⟨h1, h2⟩ := hD t ht
    exact ⟨by rw [h1]; simp [e], h2⟩

def AddNm (s : ByteArray) (b n : Nat) (F : ByteArray → Bool) (w : World) (e : Ending) (w' : World) : Prop :=
  (OkNm s ∧ F s = false ∧ e = .returned .nilIface ∧ Nm w' b (n + 1) (fun t => decide (t = s) || F t) ∧ w.grownBy w' (some b)) ∨
  (¬ (OkNm s ∧ F s = false) ∧ (∃ (p : Int) (t : ByteArray), e = .returned (.iface 73 (.agg #[.int .i64 p, .string t]))) ∧ w' = w)

set_option maxRecDepth 100000 in
set_option maxHeartbeats 1000000 in
theorem addName_any (s : ByteArray) (b n : Nat) (F : ByteArray → Bool) (c : Nat) (w : World) (hs : s.size ≤ 1048576) (hc : c < 10) (hn : n ≤ 1000000) (hm : Nm w b n F) :
    Calls Tryz.prog 38 #[.map (some b), .string s, .int .i64 c] w (AddNm s b n F w) := by
  by_cases hw : OkNm s
  · have HW : Hid (∀ w1, Calls Tryz.prog 56 #[.string s] w1 fun e w' => e = .returned (.bool true) ∧ w' = w1) := fun w1 => (implName_any s hs w1).mono (fun e w' h => h.yes hw)
    obtain ⟨c', hc', hlk⟩ := hm.look (s := s) (by unfold maxLen; omega)
    cases hF : F s
    · rw [hF] at hlk
      obtain ⟨w', hup, hm', hg⟩ := hm.put (by omega) (s := s) (by unfold maxLen; omega) hc
      have HM : Hid (Nm w' b (n + 1) (fun t => decide (t = s) || F t) ∧ w.grownBy w' (some b)) := ⟨hm', hg⟩
      clear hm hm' hg
      go_enter Tryz.func38, Tryz.ntmps38
      go_wp2_with fail
      refine (HW.out _).mono ?_
      rintro e w1 ⟨rfl, rfl⟩
      go_wp2_with fail
      go_ret
      exact Or.inl ⟨hw, hF, rfl, HM.out⟩
    · rw [hF] at hlk
      have HI := itoa_small c' hc'
      clear hm
      go_enter Tryz.func38, Tryz.ntmps38
      go_wp2_with fail
      refine (HW.out _).mono ?_
      rintro e w1 ⟨rfl, rfl⟩
      go_wp2_with fail
      refine (HI _).mono ?_
      rintro e w1 ⟨⟨t, rfl, ht⟩, rfl⟩
      have ht2 : (t.size : Int) ≤ 10 := by omega
      go_wp2_with fail
      go_ret
      exact Or.inr ⟨fun h => (by rw [hF] at h; cases h.2), ⟨_, _, rfl⟩, rfl⟩
  · have HW : Hid (∀ w1, Calls Tryz.prog 56 #[.string s] w1 fun e w' => e = .returned (.bool false) ∧ w' = w1) := fun w1 => (implName_any s hs w1).mono (fun e w' h => h.no hw)
    clear hm
    go_enter Tryz.func38, Tryz.ntmps38
    go_wp2_with fail
    refine (HW.out _).mono ?_
    rintro e w1 ⟨rfl, rfl⟩
    go_wp2_with fail
    go_ret
    exact Or.inr ⟨fun h => hw h.1, ⟨_, _, rfl⟩, rfl⟩
end Go.Proofs.YtcpbkkdjaojfiaaGreatDoor

