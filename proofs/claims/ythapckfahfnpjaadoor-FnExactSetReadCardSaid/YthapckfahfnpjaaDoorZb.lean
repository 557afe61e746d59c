/- the walks of l15Find and l15Num -/
import Derived.Test.YthapckfahfnpjaaDoorZa
namespace Go.Proofs.YthapckfahfnpjaaDoor
open Go.RowKit
set_option linter.unusedVariables false
set_option linter.unusedSimpArgs false

theorem tx_get (s : ByteArray) (j : Nat) (h : j < s.size) : (tx s)[j]? = some s[j] := by
  have : j < s.data.size := h
  simp only [tx, Array.getElem?_toList]
  rw [Array.getElem?_eq_getElem this]
  rfl

theorem byte_eq (b c : UInt8) (n : Int) (hn : (c.toNat : Int) = n) (h : b = c) : ((b.toNat : Int) == n) = true := by subst h; simp [hn]
theorem byte_ne (b c : UInt8) (n : Int) (hn : (c.toNat : Int) = n) (h : b ≠ c) : ((b.toNat : Int) == n) = false := by
  have : b.toNat ≠ c.toNat := fun e => h (UInt8.toNat_inj.1 e)
  simp
  omega

set_option maxHeartbeats 1000000 in
theorem find_any (s : ByteArray) (hs : s.size ≤ 1048576) (w : World) :
    Calls Tryd.prog 10 #[.string s, .int .u8 45] w fun e w' => ∃ k : Int, e = .returned (.int .i64 k) ∧ (k = -1 ∧ (∀ j, j < s.size → (tx s)[j]? ≠ some 45) ∨ ∃ i : Nat, k = i ∧ i < s.size ∧ (tx s)[i]? = some 45 ∧ ∀ j, j < i → (tx s)[j]? ≠ some 45) ∧ w' = w := by
  go_enter Tryd.func10, Tryd.ntmps10
  go_wp2
  go_loop [5] (fun i => ∃ k : Nat, k ≤ s.size ∧ i = .int .i64 k ∧ Hid (∀ j, j < k → (tx s)[j]? ≠ some 45)) (fun i => s.size - (intOf i).toNat)
  case atStart => exact ⟨0, Nat.zero_le _, rfl, fun j hj => absurd hj (Nat.not_lt_zero _)⟩
  case round =>
    obtain ⟨k, hk, rfl, HA⟩ := hrel
    by_cases hlt : k < s.size
    · have hltz : (k : Int) < (s.size : Int) := by omega
      have hg := tx_get s k hlt
      have HG : Hid ((tx s)[k]? = some s[k]) := hg
      clear hg
      by_cases hc : s[k] = 45
      · have hz := byte_eq s[k] 45 45 rfl hc
        have HC : Hid (s[k] = 45) := hc
        clear hc
        go_wp2
        go_ret
        exact ⟨_, rfl, .inr ⟨k, rfl, hlt, by rw [HG.out, HC.out], HA.out⟩, rfl⟩
      · have hz := byte_ne s[k] 45 45 rfl hc
        have HC : Hid (s[k] ≠ 45) := hc
        clear hc
        go_wp2
        go_round
        case rel =>
          refine ⟨k + 1, by omega, by go_num, fun j hj => ?_⟩
          by_cases e : j = k
          · subst e; rw [HG.out]; exact fun e' => HC.out (Option.some.inj e')
          · exact HA.out j (by omega)
        case measure => simp [intOf]; omega
    · have hltz : ¬ ((k : Int) < (s.size : Int)) := by omega
      go_wp2
      go_ret
      exact ⟨-1, rfl, .inl ⟨rfl, fun j hj => HA.out j (by omega)⟩, rfl⟩

theorem pow_lt {m k : Nat} (h : m < 10 ^ k) (hk : k ≤ 16) : m < 10000000000000000 :=
  Nat.lt_of_lt_of_le h (Nat.le_trans (Nat.pow_le_pow_right (by omega) hk) (by decide))
theorem pow_step {m k d : Nat} (h : m < 10 ^ k) (hd : d ≤ 9) : m * 10 + d < 10 ^ (k + 1) := by
  rw [Nat.pow_succ]; omega
theorem val_step {l : List UInt8} {k : Nat} {b : UInt8} (h : l[k]? = some b) : val (l.take (k + 1)) = val (l.take k) * 10 + (b.toNat - 48) := by
  rw [List.take_add_one, h]
  simp [val]

/-- a numeral as it is written: digits, no needless 0 ahead -/
def Num (l : List UInt8) : Prop := l ≠ [] ∧ l.length ≤ 3 ∧ (∀ c ∈ l, Dig c) ∧ (l.head? = some 48 → l.length = 1)
theorem num_head {s : ByteArray} (h : 0 < s.size) (c : UInt8) (hc : s[0] = c) : (tx s).head? = some c := by
  rw [List.head?_eq_getElem?, tx_get s 0 h, hc]

/-- what comes of reading a number -/
def NumRes (s : ByteArray) (w : World) (e : Ending) (w' : World) : Prop := ∃ (k : Int) (b : Bool), e = .returned (.tuple #[.int .i64 k, .bool b]) ∧ In64 k ∧ (Num (tx s) → k = val (tx s) ∧ b = true) ∧ w' = w
theorem num_mk {s : ByteArray} {w : World} (k : Int) (b : Bool) (h1 : In64 k) (h2 : Num (tx s) → k = val (tx s) ∧ b = true) : NumRes s w (.returned (.tuple #[.int .i64 k, .bool b])) w := ⟨k, b, rfl, h1, h2, rfl⟩

set_option maxRecDepth 100000 in
set_option maxHeartbeats 4000000 in
theorem num_any (s : ByteArray) (hs : s.size ≤ 1048576) (w : World) :
    Calls Tryd.prog 11 #[.string s] w (NumRes s w) := by
  by_cases h0 : s.size = 0
  · have HS : Hid (s.size = 0) := h0
    have hz : decide ((0 : Int) < (s.size : Int)) = false := by simp [h0]
    have hz2 : ((s.size : Int) == 0) = true := by simp [h0]
    clear h0
    go_enter Tryd.func11, Tryd.ntmps11
    go_wp2
    go_ret2
    exact num_mk _ _ (by unfold In64; omega) (fun hn => absurd (List.length_eq_zero_iff.1 (by rw [← tx_size]; exact HS.out)) hn.1)
  · have hpos : (0 : Int) < (s.size : Int) := by omega
    have hpn : 0 < s.size := by omega
    by_cases hm : s[0] = 45
    · have hz := byte_eq s[0] 45 45 rfl hm
      have HV : Hid (¬ Num (tx s)) := by
        intro hn
        have h1 := tx_get s 0 hpn
        rw [hm] at h1
        exact (hn.2.2.1 45 (List.mem_of_getElem? h1)).ne.2.1 rfl
      have HD : Hid (Num (tx s) → ∀ c ∈ tx (s.extract 1 s.size), Dig c) := fun hn => absurd hn HV.out
      have hxs : (s.extract 1 s.size).size = s.size - 1 := by simp
      clear hm
      go_enter Tryd.func11, Tryd.ntmps11
      go_wp2_with fail
      all_goals first
        | (go_ret2; exact num_mk _ _ (by unfold In64; omega) (fun hn => absurd hn HV.out))
        | skip
      go_loop [5, 6] (fun n i => ∃ (k m : Nat), k ≤ (s.size - 1) ∧ i = .int .i64 k ∧ n = .int .i64 m ∧ m < 100000000000000000 ∧ Hid (m < 10 ^ k ∧ (Num (tx s) → m = val ((tx (s.extract 1 s.size)).take k)))) (fun _ i => (s.size - 1) - (intOf i).toNat)
      case atStart => exact ⟨0, 0, Nat.zero_le _, rfl, rfl, by omega, by omega, fun _ => rfl⟩
      case round =>
        obtain ⟨k, m, hk, rfl, rfl, hm17, HM⟩ := hrel
        by_cases hlt0 : k < (s.size - 1)
        · have hltz : (k : Int) < (((s.size - 1) : Nat) : Int) := by omega
          have hlt : k < (s.extract 1 s.size).size := by omega
          have hm16 : m < 10000000000000000 := pow_lt HM.out.1 (by omega)
          have HG : Hid ((tx (s.extract 1 s.size))[k]? = some (s.extract 1 s.size)[k]) := tx_get (s.extract 1 s.size) k hlt
          obtain ⟨b, hb⟩ : ∃ b, b = (s.extract 1 s.size)[k] := ⟨_, rfl⟩
          have hb8 : b.toNat < 256 := b.toNat_lt
          by_cases t1 : b.toNat < 48
          · have t1z : ((b.toNat : Nat) : Int) < 48 := by omega
            rw [hb] at t1z
            go_wp2
            go_ret2
            exact num_mk _ _ (by unfold In64; omega) (fun hn => absurd (HD.out hn b (by rw [hb]; exact List.mem_of_getElem? HG.out)).1 (by omega))
          · have t1z : decide ((((s.extract 1 s.size)[k]).toNat : Int) < 48) = false := by rw [← hb]; simp; omega
            by_cases t2 : 57 < b.toNat
            · have t2z : (57 : Int) < ((b.toNat : Nat) : Int) := by omega
              rw [hb] at t2z
              go_wp2
              go_ret2
              exact num_mk _ _ (by unfold In64; omega) (fun hn => absurd (HD.out hn b (by rw [hb]; exact List.mem_of_getElem? HG.out)).2 (by omega))
            · have t2z : decide ((57 : Int) < (((s.extract 1 s.size)[k]).toNat : Int)) = false := by rw [← hb]; simp; omega
              have r1 : 48 ≤ (((s.extract 1 s.size)[k]).toNat : Int) := by rw [← hb]; omega
              have r2 : (((s.extract 1 s.size)[k]).toNat : Int) ≤ 57 := by rw [← hb]; omega
              have HB : Hid (b = (s.extract 1 s.size)[k]) := hb
              clear hb
              go_wp2
              go_round
              case rel => exact ⟨k + 1, m * 10 + (((s.extract 1 s.size)[k]).toNat - 48), by omega, by go_num, by go_num, by omega, pow_step HM.out.1 (by omega), fun hn => by rw [val_step HG.out, ← HM.out.2 hn]⟩
              case measure => simp [intOf]; omega
        · have hltz : ¬ ((k : Int) < (((s.size - 1) : Nat) : Int)) := by omega
          go_wp2
          go_ret2
          exact num_mk _ _ (by unfold In64; omega) (fun hn => absurd hn HV.out)
    · have hz := byte_ne s[0] 45 45 rfl hm
      have HD : Hid (Num (tx s) → ∀ c ∈ tx s, Dig c) := fun hn => hn.2.2.1
      have g1 : ((s.size : Int) == 0) = false := by rw [beq_eq_false_iff_ne]; omega
      by_cases h17 : s.size ≤ 17
      · have g2 : decide ((17 : Int) < (s.size : Int)) = false := by simp; omega
        by_cases h48 : s[0] = 48
        · have hy := byte_eq s[0] 48 48 rfl h48
          by_cases h1 : s.size = 1
          · have g3 : decide ((1 : Int) < (s.size : Int)) = false := by simp; omega
            have H1 : Hid (s.size = 1) := h1
            clear hm h48 h0 h1
            go_enter Tryd.func11, Tryd.ntmps11
            go_wp2_with fail
            go_loop [5, 6] (fun n i => ∃ (k m : Nat), k ≤ s.size ∧ i = .int .i64 k ∧ n = .int .i64 m ∧ m < 100000000000000000 ∧ Hid (m < 10 ^ k ∧ (Num (tx s) → m = val ((tx s).take k)))) (fun _ i => s.size - (intOf i).toNat)
            case atStart => exact ⟨0, 0, Nat.zero_le _, rfl, rfl, by omega, by omega, fun _ => rfl⟩
            case round =>
              obtain ⟨k, m, hk, rfl, rfl, hm17, HM⟩ := hrel
              by_cases hlt0 : k < s.size
              · have hltz : (k : Int) < ((s.size : Nat) : Int) := by omega
                have hlt : k < s.size := by omega
                have hm16 : m < 10000000000000000 := pow_lt HM.out.1 (by omega)
                have HG : Hid ((tx s)[k]? = some s[k]) := tx_get s k hlt
                obtain ⟨b, hb⟩ : ∃ b, b = s[k] := ⟨_, rfl⟩
                have hb8 : b.toNat < 256 := b.toNat_lt
                by_cases t1 : b.toNat < 48
                · have t1z : ((b.toNat : Nat) : Int) < 48 := by omega
                  rw [hb] at t1z
                  go_wp2
                  go_ret2
                  exact num_mk _ _ (by unfold In64; omega) (fun hn => absurd (HD.out hn b (by rw [hb]; exact List.mem_of_getElem? HG.out)).1 (by omega))
                · have t1z : decide (((s[k]).toNat : Int) < 48) = false := by rw [← hb]; simp; omega
                  by_cases t2 : 57 < b.toNat
                  · have t2z : (57 : Int) < ((b.toNat : Nat) : Int) := by omega
                    rw [hb] at t2z
                    go_wp2
                    go_ret2
                    exact num_mk _ _ (by unfold In64; omega) (fun hn => absurd (HD.out hn b (by rw [hb]; exact List.mem_of_getElem? HG.out)).2 (by omega))
                  · have t2z : decide ((57 : Int) < ((s[k]).toNat : Int)) = false := by rw [← hb]; simp; omega
                    have r1 : 48 ≤ ((s[k]).toNat : Int) := by rw [← hb]; omega
                    have r2 : ((s[k]).toNat : Int) ≤ 57 := by rw [← hb]; omega
                    have HB : Hid (b = s[k]) := hb
                    clear hb
                    go_wp2
                    go_round
                    case rel => exact ⟨k + 1, m * 10 + ((s[k]).toNat - 48), by omega, by go_num, by go_num, by omega, pow_step HM.out.1 (by omega), fun hn => by rw [val_step HG.out, ← HM.out.2 hn]⟩
                    case measure => simp [intOf]; omega
              · have hltz : ¬ ((k : Int) < ((s.size : Nat) : Int)) := by omega
                go_wp2
                go_ret2
                exact num_mk _ _ (by unfold In64; omega) (fun hn => ⟨by rw [(HM.out.2 hn), List.take_of_length_le (by rw [← tx_size]; omega)], rfl⟩)
          · have g3 : (1 : Int) < (s.size : Int) := by omega
            have HV : Hid (¬ Num (tx s)) := fun hn => h1 (by rw [tx_size]; exact hn.2.2.2 (num_head hpn 48 h48))
            clear hm h48 h0 h1
            go_enter Tryd.func11, Tryd.ntmps11
            go_wp2
            go_ret2
            exact num_mk _ _ (by unfold In64; omega) (fun hn => absurd hn HV.out)
        · have hy := byte_ne s[0] 48 48 rfl h48
          clear hm h48 h0
          go_enter Tryd.func11, Tryd.ntmps11
          go_wp2_with fail
          go_loop [5, 6] (fun n i => ∃ (k m : Nat), k ≤ s.size ∧ i = .int .i64 k ∧ n = .int .i64 m ∧ m < 100000000000000000 ∧ Hid (m < 10 ^ k ∧ (Num (tx s) → m = val ((tx s).take k)))) (fun _ i => s.size - (intOf i).toNat)
          case atStart => exact ⟨0, 0, Nat.zero_le _, rfl, rfl, by omega, by omega, fun _ => rfl⟩
          case round =>
            obtain ⟨k, m, hk, rfl, rfl, hm17, HM⟩ := hrel
            by_cases hlt0 : k < s.size
            · have hltz : (k : Int) < ((s.size : Nat) : Int) := by omega
              have hlt : k < s.size := by omega
              have hm16 : m < 10000000000000000 := pow_lt HM.out.1 (by omega)
              have HG : Hid ((tx s)[k]? = some s[k]) := tx_get s k hlt
              obtain ⟨b, hb⟩ : ∃ b, b = s[k] := ⟨_, rfl⟩
              have hb8 : b.toNat < 256 := b.toNat_lt
              by_cases t1 : b.toNat < 48
              · have t1z : ((b.toNat : Nat) : Int) < 48 := by omega
                rw [hb] at t1z
                go_wp2
                go_ret2
                exact num_mk _ _ (by unfold In64; omega) (fun hn => absurd (HD.out hn b (by rw [hb]; exact List.mem_of_getElem? HG.out)).1 (by omega))
              · have t1z : decide (((s[k]).toNat : Int) < 48) = false := by rw [← hb]; simp; omega
                by_cases t2 : 57 < b.toNat
                · have t2z : (57 : Int) < ((b.toNat : Nat) : Int) := by omega
                  rw [hb] at t2z
                  go_wp2
                  go_ret2
                  exact num_mk _ _ (by unfold In64; omega) (fun hn => absurd (HD.out hn b (by rw [hb]; exact List.mem_of_getElem? HG.out)).2 (by omega))
                · have t2z : decide ((57 : Int) < ((s[k]).toNat : Int)) = false := by rw [← hb]; simp; omega
                  have r1 : 48 ≤ ((s[k]).toNat : Int) := by rw [← hb]; omega
                  have r2 : ((s[k]).toNat : Int) ≤ 57 := by rw [← hb]; omega
                  have HB : Hid (b = s[k]) := hb
                  clear hb
                  go_wp2
                  go_round
                  case rel => exact ⟨k + 1, m * 10 + ((s[k]).toNat - 48), by omega, by go_num, by go_num, by omega, pow_step HM.out.1 (by omega), fun hn => by rw [val_step HG.out, ← HM.out.2 hn]⟩
                  case measure => simp [intOf]; omega
            · have hltz : ¬ ((k : Int) < ((s.size : Nat) : Int)) := by omega
              go_wp2
              go_ret2
              exact num_mk _ _ (by unfold In64; omega) (fun hn => ⟨by rw [(HM.out.2 hn), List.take_of_length_le (by rw [← tx_size]; omega)], rfl⟩)
      · have g2 : (17 : Int) < (s.size : Int) := by omega
        have HV : Hid (¬ Num (tx s)) := fun hn => by have := hn.2.1; rw [← tx_size] at this; omega
        clear hm h0 h17
        go_enter Tryd.func11, Tryd.ntmps11
        go_wp2
        go_ret2
        exact num_mk _ _ (by unfold In64; omega) (fun hn => absurd hn HV.out)
end Go.Proofs.YthapckfahfnpjaaDoor

