/- the walks of behindByte, behind, allFrom -/
import Derived.Test.YtplpdikkkbiacaaGreatDoorMi
namespace Go.Proofs.YtplpdikkkbiacaaGreatDoor
open Go.RowKit
set_option linter.unusedVariables false
set_option linter.unusedSimpArgs false

theorem wrap64_byte (b : UInt8) : wrap64 (b.toNat : Int) = (b.toNat : Int) := by
  have := b.toNat_lt
  unfold wrap64
  omega
/-- where a piece of one byte ends that begins there -/
def byteB (t : List UInt8) (n : Nat) (L H : Nat → Int) (i j : Nat) : Bool := (j == i + 1) && (match t[i]? with | some b => hasB n L H (b.toNat : Int) | none => false)
theorem byteB_yes {s : ByteArray} {n : Nat} {L H : Nat → Int} {i : Nat} (h : i < s.size) (hb : hasB n L H ((s[i]).toNat : Int) = true) : byteB (tx s) n L H i = fun j => j == i + 1 := by
  funext j; simp [byteB, tx_get s i h, hb]
theorem byteB_no {s : ByteArray} {n : Nat} {L H : Nat → Int} {i : Nat} (h : i < s.size) (hb : hasB n L H ((s[i]).toNat : Int) = false) : byteB (tx s) n L H i = fun j => false := by
  funext j; simp [byteB, tx_get s i h, hb]
theorem byteB_end {s : ByteArray} {n : Nat} {L H : Nat → Int} {i : Nat} (h : ¬ i < s.size) : byteB (tx s) n L H i = fun j => false := by
  funext j
  have : (tx s)[i]? = none := List.getElem?_eq_none (by rw [← tx_size]; omega)
  simp [byteB, this]

set_option maxRecDepth 100000 in
set_option maxHeartbeats 2000000 in
theorem behindByte_any (mb : Nat) (s : ByteArray) (hs : s.size ≤ 12) (a : Option Addr) (b off cap n : Nat) (L H : Nat → Int) (i : Nat) (hi : i ≤ s.size) (w : World) (c0 : w.cell? ⟨mb, 0, none⟩ = some (.string s))
    (hga : 0 < n → a = some ⟨b, off, none⟩) (hc : Sp w b off n L H) (hn : n ≤ 1048576) :
    Calls Tryz.prog 88 #[.pointer (some ⟨mb, 0, none⟩), .slice a n cap, .int .i64 i] w fun e w' => e = .returned (.int .u16 (pw (byteB (tx s) n L H i))) ∧ Below w.heap.size w w' := by
  by_cases hlt : i < s.size
  · have hz : (i : Int) < (s.size : Int) := by omega
    have hz0 : (0 : Int) ≤ (i : Int) := by omega
    have HC : Hid (Calls Tryz.prog 95 #[.slice a n cap, .int .i64 ((s[i]).toNat : Int)] w fun e w' => e = .returned (.bool (hasB n L H ((s[i]).toNat : Int))) ∧ Below w.heap.size w w') := implSetHas_any a b off cap n L H _ w hga hc (by omega)
    have HW : Hid (∀ b : UInt8, wrap64 (b.toNat : Int) = (b.toNat : Int)) := wrap64_byte
    rcases Bool.eq_false_or_eq_true (hasB n L H ((s[i]).toNat : Int)) with hb | hb
    · have HR : Hid (byteB (tx s) n L H i = fun j => j == i + 1) := byteB_yes hlt hb
      have HO : Hid (∀ w, Calls Tryz.prog 87 #[.int .i64 ((i : Int) + 1)] w fun e w' => e = .returned (.int .u16 (pw (fun j => j == i + 1))) ∧ w' = w) := fun w => by
        have := onePlace_any (i + 1) (by omega) w
        simpa using this
      rw [hb] at HC
      clear hc hga hb
      go_enter Tryz.func88, Tryz.ntmps88
      go_wp2_with fail
      rw [HW.out]
      refine HC.out.mono ?_
      rintro e w1 ⟨rfl, hb1⟩
      go_wp2_with fail
      refine (HO.out _).mono ?_
      rintro e w2 ⟨rfl, hw2⟩
      subst w2
      go_wp2_with fail
      go_ret
      exact ⟨by rw [HR.out]; rfl, hb1⟩
    · have HR : Hid (byteB (tx s) n L H i = fun j => false) := byteB_no hlt hb
      rw [hb] at HC
      clear hc hga hb
      go_enter Tryz.func88, Tryz.ntmps88
      go_wp2_with fail
      rw [HW.out]
      refine HC.out.mono ?_
      rintro e w1 ⟨rfl, hb1⟩
      go_wp2_with fail
      go_ret
      exact ⟨by rw [HR.out, pw_none]; rfl, hb1⟩
  · have hz : ¬ ((i : Int) < (s.size : Int)) := by omega
    have HR : Hid (byteB (tx s) n L H i = fun j => false) := byteB_end hlt
    go_enter Tryz.func88, Tryz.ntmps88
    go_wp2_with fail
    go_ret
    exact ⟨by rw [HR.out, pw_none]; rfl, Below.refl _ _⟩

/-- where the pieces end that begin where others have ended, the first k places looked at -/
def behB (A : Nat → Bool) (G : Nat → Nat → Bool) (k : Nat) (j : Nat) : Bool := (List.range k).any fun x => A x && G x j
theorem behB_succ (A : Nat → Bool) (G : Nat → Nat → Bool) (k : Nat) : behB A G (k + 1) = fun j => behB A G k j || (A k && G k j) := by
  funext j; simp [behB, List.range_succ]

set_option maxRecDepth 100000 in
set_option maxHeartbeats 2000000 in
theorem behind_any (mb bm n : Nat) (s : ByteArray) (hs : s.size ≤ 12) (A : Nat → Bool) (F : Nat → Nat → Nat → Bool) (q : Nat) (hq : q ≤ 4194304) (w : World) (c0 : w.cell? ⟨mb, 0, none⟩ = some (.string s)) (c2 : w.cell? ⟨mb, 2, none⟩ = some (.map (some bm))) (HM : Hid (Mp w bm n F)) :
    Calls Tryz.prog 89 #[.pointer (some ⟨mb, 0, none⟩), .int .u16 (pw A), .int .i64 q] w fun e w' => e = .returned (.int .u16 (pw (behB A (F q) (s.size + 1)))) ∧ w' = w := by
  go_enter Tryz.func89, Tryz.ntmps89
  go_wp2_with fail
  go_loop [7, 15] (fun o i => ∃ (k : Nat), k ≤ s.size + 1 ∧ i = .int .i64 k ∧ o = .int .u16 (pw (behB A (F q) k))) (fun _ i => s.size + 1 - (intOf i).toNat)
  case atStart => exact ⟨0, Nat.zero_le _, rfl, by rw [show behB A (F q) 0 = fun _ => false from rfl, pw_none]; rfl⟩
  case round =>
    obtain ⟨k, hk, rfl, rfl⟩ := hrel
    by_cases hlt : k ≤ s.size
    · have hltz : (k : Int) < (s.size : Int) + 1 := by omega
      have HO : Hid (∀ w, Calls Tryz.prog 96 #[.int .u16 (pw A), .int .i64 (k : Int)] w fun e w' => e = .returned (.bool (A k)) ∧ w' = w) := has_any A k (by omega)
      have hlook := HM.out.look hq (show k ≤ 12 by omega)
      rcases Bool.eq_false_or_eq_true (A k) with hA | hA
      · have HS : Hid (bits .or .u16 (pw (behB A (F q) k) : Int) (pw (F q k) : Int) = (pw (behB A (F q) (k + 1)) : Int)) := by
          rw [Hid, u16_or, behB_succ]
          congr 2
          funext j
          simp [hA]
        rw [hA] at HO
        go_wp2_with fail
        refine (HO.out _).mono ?_
        rintro e w1 ⟨rfl, hw1⟩
        subst w1
        go_wp2_with fail
        go_round
        case rel => exact ⟨k + 1, by omega, by go_num, by rw [HS.out]⟩
        case measure => simp [intOf]; omega
      · have HS : Hid (behB A (F q) k = behB A (F q) (k + 1)) := by
          rw [Hid, behB_succ]
          funext j
          simp [hA]
        rw [hA] at HO
        go_wp2_with fail
        refine (HO.out _).mono ?_
        rintro e w1 ⟨rfl, hw1⟩
        subst w1
        go_wp2_with fail
        go_round
        case rel => exact ⟨k + 1, by omega, by go_num, by rw [HS.out]⟩
        case measure => simp [intOf]; omega
    · have hltz : ¬ ((k : Int) < (s.size : Int) + 1) := by omega
      obtain rfl : k = s.size + 1 := by omega
      go_wp2_with fail
      go_ret
      exact ⟨rfl, rfl⟩

/-- the places from i on, below k -/
def fromB (i k : Nat) (j : Nat) : Bool := decide (i ≤ j ∧ j < k)
set_option maxRecDepth 100000 in
set_option maxHeartbeats 2000000 in
theorem allFrom_any (mb : Nat) (s : ByteArray) (hs : s.size ≤ 12) (i : Nat) (hi : i ≤ s.size) (w : World) (c0 : w.cell? ⟨mb, 0, none⟩ = some (.string s)) :
    Calls Tryz.prog 90 #[.pointer (some ⟨mb, 0, none⟩), .int .i64 i] w fun e w' => e = .returned (.int .u16 (pw (fromB i (s.size + 1)))) ∧ w' = w := by
  go_enter Tryz.func90, Tryz.ntmps90
  go_wp2_with fail
  go_loop [5, 6] (fun o x => ∃ (k : Nat), i ≤ k ∧ k ≤ s.size + 1 ∧ x = .int .i64 k ∧ o = .int .u16 (pw (fromB i k))) (fun _ x => s.size + 1 - (intOf x).toNat)
  case atStart =>
    refine ⟨i, Nat.le_refl _, by omega, rfl, ?_⟩
    have : fromB i i = fun _ => false := by funext j; simp [fromB]
    rw [this, pw_none]; rfl
  case round =>
    obtain ⟨k, hk0, hk, rfl, rfl⟩ := hrel
    by_cases hlt : k ≤ s.size
    · have hltz : (k : Int) ≤ (s.size : Int) := by omega
      have HS : Hid (bits .or .u16 (pw (fromB i k) : Int) (pw (fun j => j == k) : Int) = (pw (fromB i (k + 1)) : Int)) := by
        rw [Hid, u16_or]
        congr 2
        funext j
        rw [Bool.eq_iff_iff]
        simp [fromB]
        omega
      go_wp2_with fail
      refine (onePlace_any k (by omega) _).mono ?_
      rintro e w1 ⟨rfl, hw1⟩
      subst w1
      go_wp2_with fail
      go_round
      case rel => exact ⟨k + 1, by omega, by omega, by go_num, by rw [HS.out]⟩
      case measure => simp [intOf]; omega
    · have hltz : ¬ ((k : Int) ≤ (s.size : Int)) := by omega
      obtain rfl : k = s.size + 1 := by omega
      go_wp2_with fail
      go_ret
      exact ⟨rfl, rfl⟩
end Go.Proofs.YtplpdikkkbiacaaGreatDoor

