/- the walk of l15Dec -/
import Derived.Test.YtndjblfenijjbaaDoorTx
import Derived.Test.YtndjblfenijjbaaDoorBase
import Derived.Lib.ItoaLen
import Derived.Lib.ItoaNum
import Derived.Laws.IdiomStrings
namespace Go.Proofs.YtndjblfenijjbaaDoor
open Go.RowKit
set_option linter.unusedVariables false
set_option linter.unusedSimpArgs false

/-- a text of one byte -/
def ch (v : Int) : ByteArray := ⟨#[UInt8.ofNat v.toNat]⟩
theorem ch_size (v : Int) : (ch v).size = 1 := rfl
theorem tx_ch (v : Int) : tx (ch v) = [UInt8.ofNat v.toNat] := rfl

theorem conv_one (v : Int) (h0 : 0 ≤ v) (h1 : v < 256) (w : World) :
    (convert 38 9 (.slice (some ⟨w.heap.size, 0, none⟩) 1 1)).run Tryd.prog (w.alloc (.cells #[.int .u8 v] 5)) = .ok (.string (ch v)) (w.alloc (.cells #[.int .u8 v] 5)) := by
  have h := run_convert_bytes_back (P := Tryd.prog) (w.alloc (.cells #[.int .u8 v] 5)) 38 9 5 ⟨w.heap.size, 0, none⟩ 1 [UInt8.ofNat v.toNat] Tryd.underlying38 Tryd.underlying5 Tryd.underlying9 (fun j hj => by
    have : j = 0 := by simpa using hj
    subst this
    simp [Addr.add]
    omega)
  exact h

set_option maxRecDepth 100000 in
set_option maxHeartbeats 1000000 in
theorem dec_pos (n : Nat) (hn : n ≤ 9223372036854775807) (w : World) :
    Calls Tryd.prog 9 #[.int .i64 n] w fun e w' => ∃ s, e = .returned (.string s) ∧ tx s = Lib.decDigits n ∧ Below w.heap.size w w' := by
  have h1 : ¬ ((n : Int) < -9223372036854775807) := by omega
  have h2 : ¬ ((n : Int) < 0) := by omega
  go_enter Tryd.func9, Tryd.ntmps9
  go_wp2
  clear h1 h2
  go_loopw [0, 3] (fun a s wr => ∃ (k : Nat) (t : ByteArray), a = .int .i64 k ∧ s = .string t ∧ k ≤ n ∧ t.size ≤ 20 ∧ Hid (Lib.decDigits k ++ tx t = Lib.decDigits n) ∧ Below w.heap.size w wr) (fun a _ _ => (intOf a).toNat)
  case atStart => exact ⟨n, ⟨#[]⟩, rfl, rfl, Nat.le_refl _, by simp [ByteArray.size], by simp [Hid, tx], Below.refl _ _⟩
  case round =>
    obtain ⟨k, t, rfl, rfl, hk, hts, HD, hB⟩ := hrel
    by_cases h9 : 9 < k
    · have h9z : (9 : Int) < (k : Int) := by omega
      have hcv := conv_one (48 + (k : Int) % 10) (by omega) (by omega)
      have hcs := ch_size (48 + (k : Int) % 10)
      have HS : Hid ((ch (48 + (k : Int) % 10) ++ t).size ≤ 20 ∧ Lib.decDigits (k / 10) ++ tx (ch (48 + (k : Int) % 10) ++ t) = Lib.decDigits n) := by
        have e : Lib.decDigits k = Lib.decDigits (k / 10) ++ [UInt8.ofNat (48 + k % 10)] := by rw [Lib.decDigits, dif_neg (by omega)]
        have e2 : Lib.decDigits (k / 10) ++ tx (ch (48 + (k : Int) % 10) ++ t) = Lib.decDigits n := by
          rw [← HD.out, e, tx_append, tx_ch, show (48 + (k : Int) % 10).toNat = 48 + k % 10 by omega, List.append_assoc]
        refine ⟨?_, e2⟩
        have hl := congrArg List.length e2
        rw [List.length_append, ← tx_size, Lib.decDigits_length, Lib.decDigits_length] at hl
        have h20 := Lib.nDigits_le20 n (by omega)
        omega
      go_wp2
      go_roundw
      case rel => exact ⟨k / 10, _, by go_num, rfl, by omega, HS.out.1, HS.out.2, hB.alloc hB.size _⟩
      case measure => simp [intOf]; omega
    · have h9z : ¬ ((9 : Int) < (k : Int)) := by omega
      have hcv := conv_one (48 + (k : Int)) (by omega) (by omega)
      have hcs := ch_size (48 + (k : Int))
      go_wp2
      go_ret
      refine ⟨_, rfl, ?_, hB.alloc hB.size _⟩
      rw [tx_append, tx_ch, ← HD.out, Lib.decDigits_one (by omega), show (48 + (k : Int)).toNat = 48 + k by omega]

theorem itoa_least : Lib.itoa (-9223372036854775808) = [45, 57, 50, 50, 51, 51, 55, 50, 48, 51, 54, 56, 53, 52, 55, 55, 53, 56, 48, 56] := by
  simp [Lib.itoa, Lib.decDigits]

set_option maxRecDepth 100000 in
set_option maxHeartbeats 1000000 in
theorem dec_any (n : Int) (h0 : -9223372036854775808 ≤ n) (h1 : n ≤ 9223372036854775807) (w : World) :
    Calls Tryd.prog 9 #[.int .i64 n] w fun e w' => ∃ s, e = .returned (.string s) ∧ tx s = Lib.itoa n ∧ Below w.heap.size w w' := by
  by_cases hp : 0 ≤ n
  · obtain ⟨k, rfl⟩ := Int.eq_ofNat_of_zero_le hp
    refine (dec_pos k (by omega) w).mono ?_
    rintro e w1 ⟨s, rfl, hs, hb⟩
    exact ⟨s, rfl, by rw [hs, Lib.itoa, if_neg (by omega)]; rfl, hb⟩
  · by_cases hl : n = -9223372036854775808
    · subst hl
      go_enter Tryd.func9, Tryd.ntmps9
      go_wp2
      go_ret
      exact ⟨_, rfl, itoa_least.symm, Below.refl _ _⟩
    · obtain ⟨k, hk⟩ := Int.eq_ofNat_of_zero_le (show 0 ≤ -n by omega)
      have t1 : ¬ (n < -9223372036854775807) := by omega
      have t2 : n < 0 := by omega
      have HN : Hid (Lib.itoa n = 45 :: Lib.decDigits k) := by
        show Lib.itoa n = 45 :: Lib.decDigits k
        rw [Lib.itoa, if_pos t2, show n.natAbs = k by omega]
      have hd := dec_pos k (by omega) w
      rw [← hk] at hd
      have HD : Hid (Calls Tryd.prog 9 #[.int .i64 (-n)] w fun e w' => ∃ s, e = .returned (.string s) ∧ tx s = Lib.decDigits k ∧ Below w.heap.size w w') := hd
      have hkl : (Lib.decDigits k).length ≤ 20 := by rw [Lib.decDigits_length]; exact Lib.nDigits_le20 k (by omega)
      clear hd hk hl hp
      go_enter Tryd.func9, Tryd.ntmps9
      go_wp2_with fail
      refine HD.out.mono ?_
      rintro e w1 ⟨s, rfl, hs, hb⟩
      have hsz : s.size ≤ 20 := by rw [tx_size, hs]; exact hkl
      have HT : Hid (tx s = Lib.decDigits k) := hs
      clear hs hkl
      go_wp2
      go_ret
      refine ⟨_, rfl, ?_, hb⟩
      rw [HN.out, tx_append, HT.out]
      rfl
end Go.Proofs.YtndjblfenijjbaaDoor

