/- the walk of spec's RulesText -/
import Derived.Test.YtcpbkkdjaojfiaaGreatDoorUe
import Derived.Test.YtcpbkkdjaojfiaaGreatDoorVv
import Derived.Deep.RegionHeld
namespace Go.Proofs.YtcpbkkdjaojfiaaGreatDoor
open Go.RowKit Go.Shelf
set_option linter.unusedVariables false
set_option linter.unusedSimpArgs false

/-- a rule's line -/
def lineU (s : ByteArray) (S : Sh) : List UInt8 := tx s ++ [58, 32] ++ textR S ++ [10]
/-- the lines of the first n rules -/
def textU (N : Nat → ByteArray) (K : Nat → Sh) (n : Nat) : List UInt8 := catN (fun i => lineU (N i) (K i)) n
theorem textU_succ (N : Nat → ByteArray) (K : Nat → Sh) (n : Nat) : textU N K (n + 1) = textU N K n ++ lineU (N n) (K n) := rfl
/-- what a function tells that writes rules -/
def TextRes (n : Nat) (N : Nat → ByteArray) (K : Nat → Sh) (w : World) (e : Ending) (w' : World) : Prop := ∃ s : ByteArray, e = .returned (.string s) ∧ (RulesGood n N K → tx s = textU N K n) ∧ (¬ RulesGood n N K → tx s = []) ∧ Below w.heap.size w w'
theorem textR_len {S : Sh} (hc : cnt S ≤ 1048576) : (textR S).length ≤ 46137354 := by
  rw [textR]
  split
  · have := textS_len (okR_form8 (by assumption)); omega
  · simp
theorem lineU_len {s : ByteArray} {S : Sh} (hs : s.size ≤ 6) (hc : cnt S ≤ 1048576) : (lineU s S).length ≤ 46137363 := by
  have := textR_len hc
  rw [tx_size] at hs
  simp only [lineU, List.length_append, List.length_cons, List.length_nil]
  omega
theorem textU_len {N : Nat → ByteArray} {K : Nat → Sh} : ∀ {k : Nat}, (∀ i, i < k → (N i).size ≤ 6) → (∀ i, i < k → cnt (K i) ≤ 1048576) → (textU N K k).length ≤ 46137363 * k
  | 0, _, _ => by simp [textU, catN]
  | k + 1, hs, hc => by
    have ih := textU_len (N := N) (K := K) (k := k) (fun i hi => hs i (by omega)) (fun i hi => hc i (by omega))
    have := lineU_len (hs k (by omega)) (hc k (by omega))
    rw [textU_succ, List.length_append]
    omega

set_option maxRecDepth 100000 in
set_option maxHeartbeats 2000000 in
theorem specRulesText_any (a : Option Addr) (b off n cap : Nat) (N : Nat → ByteArray) (K : Nat → Sh) (M : Nat → Mx) (w : World) (hga : 0 < n → a = some ⟨b, off, none⟩) (hR : RulesIn AnyB w b off n N K M) (hn : n ≤ 1048576)
    (hN : ∀ i, i < n → (N i).size ≤ 1048576) (hc : ∀ i, i < n → cnt (K i) ≤ 1048576) :
    Calls Tryz.prog 5 #[.slice a n cap] w (TextRes n N K w) := by
  have HO : Hid (Calls Tryz.prog 10 #[.slice a n cap] w (RulesRes n N K w)) := specRulesOk_any a b off n cap N K M w hga hR hn hN hc
  go_enter Tryz.func5, Tryz.ntmps5
  go_wp2_with fail
  refine HO.out.mono ?_
  rintro e w1 ⟨ok, rfl, hok, hb1⟩
  have HB1 : Hid (Below w.heap.size w w1) := hb1
  clear hb1
  by_cases hg : RulesGood n N K
  · obtain rfl : ok = true := hok.2 hg
    have hn5 : n ≤ 5 := hg.2.1
    have HG : Hid (RulesGood n N K) := hg
    clear hok hg HO
    go_wp2_with fail
    go_loopw [3, 4] (fun t i wr => ∃ (k : Nat) (s : ByteArray), k ≤ n ∧ i = .int .i64 k ∧ t = .string s ∧ s.size ≤ 300000000 ∧ Hid (tx s = textU N K k) ∧ Below w.heap.size w wr) (fun _ i _ => n - (intOf i).toNat)
    case atStart => exact ⟨0, ⟨#[]⟩, Nat.zero_le _, rfl, rfl, Nat.zero_le _, rfl, HB1.out⟩
    case round =>
      obtain ⟨k, s, hk, rfl, rfl, hsz, HJ, hB⟩ := hrel
      by_cases hlt : k < n
      · obtain rfl := hga (by omega)
        have hltz : (k : Int) < (n : Int) := by omega
        obtain ⟨hat, hin⟩ := hR k hlt
        have HAT : Hid (RuleAt w b (off + k * 4) (N k) (K k) (M k)) := hat
        obtain ⟨d0, d1, d2, d3⟩ := (hat.below hB).cells
        have HC : Hid (Calls Tryz.prog 11 #[vx (K k) (M k)] wr.drew fun e w' => e = .returned (.string ⟨(textR (K k)).toArray⟩) ∧ Below wr.drew.heap.size wr.drew w') := specRexText_any (K k) (M k) wr.drew ((hin.below hB).below (Below.refl _ _).drew) (hc k hlt)
        have HJ1 : Hid (tx (s ++ N k ++ ⟨#[58, 32]⟩ ++ ⟨(textR (K k)).toArray⟩ ++ ⟨#[10]⟩) = textU N K (k + 1)) := by
          rw [Hid, textU_succ, ← HJ.out]
          simp [tx_append, lineU, tx, List.append_assoc]
        have hz3 : (s ++ N k ++ ⟨#[58, 32]⟩ ++ ⟨(textR (K k)).toArray⟩ ++ ⟨#[10]⟩ : ByteArray).size ≤ 300000000 := by
          rw [tx_size, HJ1.out]
          have h := textU_len (N := N) (K := K) (k := k + 1) (fun i hi => (HG.out.2.2 i (by omega)).1.2.1) (fun i hi => hc i (by omega))
          omega
        have hzN : (N k).size ≤ 300000000 := by have := hz3; simp only [ByteArray.size_append] at this; omega
        obtain ⟨z, hz⟩ : ∃ z : ByteArray, (⟨(textR (K k)).toArray⟩ : ByteArray) = z := ⟨_, rfl⟩
        rw [hz] at HC HJ1 hz3
        have hzz : z.size ≤ 300000000 := by have := hz3; simp only [ByteArray.size_append] at this; omega
        have HZ3 : Hid ((s ++ N k ++ ⟨#[58, 32]⟩ ++ z ++ ⟨#[10]⟩ : ByteArray).size ≤ 300000000) := hz3
        clear hat hin hz hz3
        simp only [vx] at HC
        go_wp2_with fail
        go_region_held (fun V => V.cell? ⟨b, off + k * 4, none⟩ = some (.string (N k)) ∧ V.cell? ⟨b, off + k * 4 + 1, none⟩ = some (.int .i64 (K k).kind) ∧ V.cell? ⟨b, off + k * 4 + 2, none⟩ = some (M k).sv ∧ V.cell? ⟨b, off + k * 4 + 3, none⟩ = some (M k).kv) (go_keep)
          (first
            | (go_at_call 11; refine HC.out.mono ?_; rintro e w2 ⟨rfl, hb2⟩
               obtain ⟨e0, e1, e2, e3⟩ := (((HAT.out.below hB).below (Below.refl _ _).drew).below hb2).cells))
        all_goals go_wp2_with fail
        all_goals
          go_roundw
          case rel => exact ⟨k + 1, _, by omega, by go_num, rfl, HZ3.out, HJ1.out, hB.drew.trans (hb2.mono hB.size)⟩
          case measure => simp [intOf]; omega
      · go_wp2_with fail
        go_ret
        obtain rfl : k = n := by omega
        exact ⟨s, rfl, fun _ => HJ.out, fun h => absurd HG.out h, hB⟩
  · have hf : ok = false := by
      cases ok
      · rfl
      · exact absurd (hok.1 rfl) hg
    subst hf
    clear hok
    go_wp2_with fail
    go_ret
    exact ⟨_, rfl, fun h => absurd h hg, fun _ => rfl, HB1.out⟩
end Go.Proofs.YtcpbkkdjaojfiaaGreatDoor

