/- RuleWord, of both sides: 1 to 6 letters -/
import Derived.Test.YtcpbkkdjaojfiaaGreatDoorRows
import Derived.WalkKit
import Derived.WalkSpells
import Derived.WalkLawsBesides
import Derived.ProofKit
import Derived.OpenShut
namespace Go.Proofs.YtcpbkkdjaojfiaaGreatDoor
open Go.RowKit
set_option linter.unusedVariables false
set_option linter.unusedSimpArgs false

/-- a text is a name -/
def OkNm (s : ByteArray) : Prop := 0 < s.size ∧ s.size ≤ 6 ∧ ∀ j (h : j < s.size), 97 ≤ s[j].toNat ∧ s[j].toNat ≤ 122

def NameRes (s : ByteArray) (w : World) (e : Ending) (w' : World) : Prop := ∃ b : Bool, e = .returned (.bool b) ∧ (b = true ↔ OkNm s) ∧ w' = w

set_option maxHeartbeats 1000000 in
theorem specName_any (s : ByteArray) (hs : s.size ≤ 1048576) (w : World) : Calls Tryz.prog 19 #[.string s] w (NameRes s w) := by
  go_enter Tryz.func19, Tryz.ntmps19
  go_wp2
  go_loop [3] (fun i => ∃ k : Nat, k ≤ s.size ∧ i = .int .i64 k ∧ Hid (∀ j (h : j < s.size), j < k → 97 ≤ s[j].toNat ∧ s[j].toNat ≤ 122)) (fun i => s.size - (intOf i).toNat)
  case atStart => exact ⟨0, Nat.zero_le _, rfl, fun j _ hj => absurd hj (Nat.not_lt_zero _)⟩
  case round =>
    obtain ⟨k, hk, rfl, HA⟩ := hrel
    by_cases hlt : k < s.size
    · have hltz : (k : Int) < (s.size : Int) := by omega
      by_cases h1 : s[k].toNat < 97
      · have h1z : ((s[k].toNat : Nat) : Int) < 97 := by omega
        go_wp2
        go_ret
        exact ⟨_, rfl, ⟨fun e => (by cases e), fun h => absurd (h.2.2 k hlt).1 (by omega)⟩, rfl⟩
      · have h1z : ¬ (((s[k].toNat : Nat) : Int) < 97) := by omega
        by_cases h2 : 122 < s[k].toNat
        · have h2z : (122 : Int) < ((s[k].toNat : Nat) : Int) := by omega
          go_wp2
          go_ret
          exact ⟨_, rfl, ⟨fun e => (by cases e), fun h => absurd (h.2.2 k hlt).2 (by omega)⟩, rfl⟩
        · have h2z : ¬ ((122 : Int) < ((s[k].toNat : Nat) : Int)) := by omega
          go_wp2
          go_round
          case rel =>
            refine ⟨k + 1, by omega, by go_num, fun j h hj => ?_⟩
            by_cases e : j = k
            · subst e; exact ⟨by omega, by omega⟩
            · exact HA.out j h (by omega)
          case measure => simp [intOf]; omega
    · have hltz : ¬ ((k : Int) < (s.size : Int)) := by omega
      by_cases h0 : 0 < s.size
      · have h0z : (0 : Int) < (s.size : Int) := by omega
        by_cases h6 : s.size ≤ 6
        · have h6z : (s.size : Int) ≤ 6 := by omega
          go_wp2
          go_ret
          exact ⟨_, rfl, ⟨fun _ => ⟨h0, h6, fun j h => HA.out j h (by omega)⟩, fun _ => by simp⟩, rfl⟩
        · have h6z : ¬ ((s.size : Int) ≤ 6) := by omega
          go_wp2
          go_ret
          exact ⟨_, rfl, ⟨fun e => (by simp at e), fun h => absurd h.2.1 h6⟩, rfl⟩
      · have h0z : ¬ ((0 : Int) < (s.size : Int)) := by omega
        go_wp2
        go_ret
        exact ⟨_, rfl, ⟨fun e => (by simp at e), fun h => absurd h.1 h0⟩, rfl⟩

set_option maxHeartbeats 1000000 in
theorem implName_any (s : ByteArray) (hs : s.size ≤ 1048576) (w : World) : Calls Tryz.prog 56 #[.string s] w (NameRes s w) := by
  by_cases h0 : 0 < s.size
  · have h0z : ¬ ((s.size : Int) < 1) := by omega
    by_cases h6 : s.size ≤ 6
    · have h6z : ¬ ((6 : Int) < (s.size : Int)) := by omega
      go_enter Tryz.func56, Tryz.ntmps56
      go_wp2
      go_loop [14] (fun i => ∃ k : Nat, k ≤ s.size ∧ i = .int .i64 k ∧ Hid (∀ j (h : j < s.size), j < k → 97 ≤ s[j].toNat ∧ s[j].toNat ≤ 122)) (fun i => s.size - (intOf i).toNat)
      case atStart => exact ⟨0, Nat.zero_le _, rfl, fun j _ hj => absurd hj (Nat.not_lt_zero _)⟩
      case round =>
        obtain ⟨k, hk, rfl, HA⟩ := hrel
        by_cases hlt : k < s.size
        · have hltz : (k : Int) < (s.size : Int) := by omega
          by_cases h1 : s[k].toNat < 97
          · have h1z : ((s[k].toNat : Nat) : Int) < 97 := by omega
            go_wp2
            go_ret
            exact ⟨_, rfl, ⟨fun e => (by cases e), fun h => absurd (h.2.2 k hlt).1 (by omega)⟩, rfl⟩
          · have h1z : ¬ (((s[k].toNat : Nat) : Int) < 97) := by omega
            by_cases h2 : 122 < s[k].toNat
            · have h2z : (122 : Int) < ((s[k].toNat : Nat) : Int) := by omega
              go_wp2
              go_ret
              exact ⟨_, rfl, ⟨fun e => (by cases e), fun h => absurd (h.2.2 k hlt).2 (by omega)⟩, rfl⟩
            · have h2z : ¬ ((122 : Int) < ((s[k].toNat : Nat) : Int)) := by omega
              go_wp2
              go_round
              case rel =>
                refine ⟨k + 1, by omega, by go_num, fun j h hj => ?_⟩
                by_cases e : j = k
                · subst e; exact ⟨by omega, by omega⟩
                · exact HA.out j h (by omega)
              case measure => simp [intOf]; omega
        · have hltz : ¬ ((k : Int) < (s.size : Int)) := by omega
          go_wp2
          go_ret
          exact ⟨_, rfl, ⟨fun _ => ⟨h0, h6, fun j h => HA.out j h (by omega)⟩, fun _ => rfl⟩, rfl⟩
    · have h6z : (6 : Int) < (s.size : Int) := by omega
      go_enter Tryz.func56, Tryz.ntmps56
      go_wp2
      go_ret
      exact ⟨_, rfl, ⟨fun e => (by cases e), fun h => absurd h.2.1 h6⟩, rfl⟩
  · have h0z : (s.size : Int) < 1 := by omega
    go_enter Tryz.func56, Tryz.ntmps56
    go_wp2
    go_ret
    exact ⟨_, rfl, ⟨fun e => (by cases e), fun h => absurd h.1 h0⟩, rfl⟩
end Go.Proofs.YtcpbkkdjaojfiaaGreatDoor

