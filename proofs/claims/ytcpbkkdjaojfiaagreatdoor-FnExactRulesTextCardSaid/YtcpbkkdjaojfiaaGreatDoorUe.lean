/- the walk of spec's RulesOk -/
import Derived.Test.YtcpbkkdjaojfiaaGreatDoorUa
import Derived.Test.YtcpbkkdjaojfiaaGreatDoorGa
import Derived.Test.YtcpbkkdjaojfiaaGreatDoorTg
namespace Go.Proofs.YtcpbkkdjaojfiaaGreatDoor
open Go.RowKit
set_option linter.unusedVariables false
set_option linter.unusedSimpArgs false

/-- rule j is as it must be beside those ahead of it -/
def RuleGood (N : Nat → ByteArray) (K : Nat → Sh) (j : Nat) : Prop := OkNm (N j) ∧ okR (K j) = true ∧ ∀ k, k < j → N k ≠ N j
/-- the rules are right -/
def RulesGood (n : Nat) (N : Nat → ByteArray) (K : Nat → Sh) : Prop := 1 ≤ n ∧ n ≤ 5 ∧ ∀ j, j < n → RuleGood N K j

theorem NameRes.yes {s : ByteArray} {w w' : World} {e : Ending} (h : OkNm s) (hr : NameRes s w e w') : e = .returned (.bool true) ∧ w' = w := by
  obtain ⟨b, rfl, hb, rfl⟩ := hr
  exact ⟨by rw [hb.2 h], rfl⟩
theorem NameRes.no {s : ByteArray} {w w' : World} {e : Ending} (h : ¬ OkNm s) (hr : NameRes s w e w') : e = .returned (.bool false) ∧ w' = w := by
  obtain ⟨b, rfl, hb, rfl⟩ := hr
  cases b
  · exact ⟨rfl, rfl⟩
  · exact absurd (hb.1 rfl) h

theorem bytes_ne {s t : ByteArray} (h : s ≠ t) : (s.toList == t.toList) = false := by
  rw [← Bool.not_eq_true]
  intro e
  apply h
  have e := eq_of_beq e
  rw [Go.ByteArray.toList_eq, Go.ByteArray.toList_eq] at e
  obtain ⟨s⟩ := s
  obtain ⟨t⟩ := t
  simp only at e
  rw [Array.toList_inj.1 e]

/-- what a function tells that says whether rules are right -/
def RulesRes (n : Nat) (N : Nat → ByteArray) (K : Nat → Sh) (w : World) (e : Ending) (w' : World) : Prop := ∃ b : Bool, e = .returned (.bool b) ∧ (b = true ↔ RulesGood n N K) ∧ Below w.heap.size w w'
theorem RulesRes.no {n : Nat} {N : Nat → ByteArray} {K : Nat → Sh} {w w' : World} (h : ¬ RulesGood n N K) (hb : Below w.heap.size w w') : RulesRes n N K w (.returned (.bool false)) w' := ⟨false, rfl, ⟨fun e => (by cases e), fun e => absurd e h⟩, hb⟩
theorem RulesRes.yes {n : Nat} {N : Nat → ByteArray} {K : Nat → Sh} {w w' : World} (h : RulesGood n N K) (hb : Below w.heap.size w w') : RulesRes n N K w (.returned (.bool true)) w' := ⟨true, rfl, ⟨fun _ => h, fun _ => rfl⟩, hb⟩

set_option maxHeartbeats 2000000 in
theorem specRulesOk_any (a : Option Addr) (b off n cap : Nat) (N : Nat → ByteArray) (K : Nat → Sh) (M : Nat → Mx) (w : World) (hga : 0 < n → a = some ⟨b, off, none⟩) (hR : RulesIn AnyB w b off n N K M) (hn : n ≤ 1048576)
    (hN : ∀ i, i < n → (N i).size ≤ 1048576) (hc : ∀ i, i < n → cnt (K i) ≤ 1048576) :
    Calls Tryz.prog 10 #[.slice a n cap] w (RulesRes n N K w) := by
  by_cases h1 : 1 ≤ n
  · by_cases h5 : n ≤ 5
    · have h1z : ¬ (n : Int) < 1 := by omega
      have h5z : ¬ (5 : Int) < (n : Int) := by omega
      go_enter Tryz.func10, Tryz.ntmps10
      go_wp2_with fail
      go_loopw [3] (fun i wr => ∃ k : Nat, k ≤ n ∧ i = .int .i64 k ∧ Hid (∀ j, j < k → RuleGood N K j) ∧ Below w.heap.size w wr) (fun i _ => n - (intOf i).toNat)
      case atStart => exact ⟨0, Nat.zero_le _, rfl, fun j hj => absurd hj (Nat.not_lt_zero _), Below.refl _ _⟩
      case round =>
        obtain ⟨k, hk', rfl, HG, hB⟩ := hrel
        by_cases hlt : k < n
        · obtain rfl := hga (by omega)
          have hltz : (k : Int) < (n : Int) := by omega
          obtain ⟨hat, hin⟩ := hR k hlt
          obtain ⟨d0, d1, d2, d3⟩ := (hat.below hB).cells
          by_cases hw : OkNm (N k)
          · have HW : Hid (∀ w1, Calls Tryz.prog 19 #[.string (N k)] w1 fun e w' => e = .returned (.bool true) ∧ w' = w1) := fun w1 => (specName_any (N k) (hN k hlt) w1).mono (fun e w' h => h.yes hw)
            have HO : Hid (Calls Tryz.prog 20 #[vx (K k) (M k)] wr fun e w' => e = .returned (.bool (okR (K k))) ∧ Below wr.heap.size wr w') := specRexOk_any (K k) (M k) wr (hin.below hB) (hc k hlt)
            by_cases hok : okR (K k) = true
            · rw [hok] at HO
              go_wp2_with fail
              refine (HW.out _).mono ?_
              rintro e w1 ⟨rfl, rfl⟩
              go_wp2_with fail
              refine HO.out.mono ?_
              rintro e w1 ⟨rfl, hb1⟩
              have hB1 := hB.trans (hb1.mono hB.size)
              go_wp2_with fail
              go_loopw [4] (fun i wr => ∃ q : Nat, q ≤ k ∧ i = .int .i64 q ∧ Hid (∀ j, j < q → N j ≠ N k) ∧ Below w.heap.size w wr) (fun i _ => k - (intOf i).toNat)
              case atStart => exact ⟨0, Nat.zero_le _, rfl, fun j hj => absurd hj (Nat.not_lt_zero _), hB1⟩
              case round =>
                obtain ⟨q, hq, rfl, HN, hB2⟩ := hrel
                clear d0 d1 d2 d3
                by_cases hqk : q < k
                · have hqz : (q : Int) < (k : Int) := by omega
                  obtain ⟨d0, d1, d2, d3⟩ := (hat.below hB2).cells
                  obtain ⟨y0, y1, y2, y3⟩ := ((hR q (by omega)).1.below hB2).cells
                  by_cases he : N q = N k
                  · rw [he] at y0
                    go_wp2_with fail
                    go_quiet (fail)
                    go_wp2_with fail
                    go_ret
                    exact .no (fun h => (h.2.2 k hlt).2.2 q hqk he) (below_drewN hB2 _)
                  · have hne := bytes_ne he
                    go_wp2_with fail
                    go_quiet (fail)
                    go_wp2_with fail
                    go_roundw
                    case rel =>
                      refine ⟨q + 1, by omega, by go_num, fun j hj => ?_, below_drewN hB2 _⟩
                      by_cases e : j = q
                      · subst e; exact he
                      · exact HN.out j (by omega)
                    case measure => simp [intOf]; omega
                · have hqz : ¬ (q : Int) < (k : Int) := by omega
                  obtain rfl : q = k := by omega
                  have HG1 : Hid (∀ j, j < q + 1 → RuleGood N K j) := fun j hj => by
                    by_cases e : j = q
                    · subst e; exact ⟨hw, hok, HN.out⟩
                    · exact HG.out j (by omega)
                  go_wp2_with fail
                  go_roundw
                  case rel => exact ⟨q + 1, by omega, by go_num, HG1, hB2⟩
                  case measure => simp [intOf]; omega
            · have hok' : okR (K k) = false := by simpa using hok
              rw [hok'] at HO
              go_wp2_with fail
              refine (HW.out _).mono ?_
              rintro e w1 ⟨rfl, rfl⟩
              go_wp2_with fail
              refine HO.out.mono ?_
              rintro e w1 ⟨rfl, hb1⟩
              go_wp2_with fail
              go_ret
              exact .no (fun h => hok (h.2.2 k hlt).2.1) (hB.trans (hb1.mono hB.size))
          · have HW : Hid (∀ w1, Calls Tryz.prog 19 #[.string (N k)] w1 fun e w' => e = .returned (.bool false) ∧ w' = w1) := fun w1 => (specName_any (N k) (hN k hlt) w1).mono (fun e w' h => h.no hw)
            go_wp2_with fail
            refine (HW.out _).mono ?_
            rintro e w1 ⟨rfl, rfl⟩
            go_wp2_with fail
            go_ret
            exact .no (fun h => hw (h.2.2 k hlt).1) hB
        · go_wp2_with fail
          go_ret
          obtain rfl : k = n := by omega
          exact .yes ⟨h1, h5, HG.out⟩ hB
    · have h1z : ¬ (n : Int) < 1 := by omega
      have h5z : (5 : Int) < (n : Int) := by omega
      go_enter Tryz.func10, Tryz.ntmps10
      go_wp2_with fail
      go_ret
      exact .no (fun h => h5 h.2.1) (Below.refl _ _)
  · have h1z : (n : Int) < 1 := by omega
    go_enter Tryz.func10, Tryz.ntmps10
    go_wp2_with fail
    go_ret
    exact .no (fun h => h1 h.1) (Below.refl _ _)
end Go.Proofs.YtcpbkkdjaojfiaaGreatDoor

