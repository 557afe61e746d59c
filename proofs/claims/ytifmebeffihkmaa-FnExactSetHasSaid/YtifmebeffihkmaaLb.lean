/- the walks of the laws of SetSame and SetHas -/
import Derived.Test.YtifmebeffihkmaaWd
import Derived.Test.YtifmebeffihkmaaWe
namespace Go.Proofs.Ytifmebeffihkmaa
open Go.RowKit

set_option maxHeartbeats 400000 in
theorem law5 (a : Option Addr) (b off cap n : Nat) (L H : Nat → Int) (x : Int) (w : World) (hga : 0 < n → a = some ⟨b, off, none⟩) (hc : Sp w b off n L H) (hm : n ≤ 9223372036854775807) :
    Calls Try.prog 5 #[.slice a n cap, .int .i64 x] w fun e w' => e = .returned (.bool true) ∧ Below w.heap.size w w' := by
  by_cases hbig : 1048576 < n
  · go_enter Try.func5, Try.ntmps5
    go_wp2_with fail
    refine (sz_any _ _ _ _ _ (by omega) (by omega) hm).mono ?_
    rw [if_pos (by omega)]
    rintro e w1 ⟨rfl, rfl⟩
    go_wp2
    go_ret
    exact ⟨rfl, Below.refl _ _⟩
  · have hsm : n ≤ 1048576 := by omega
    go_enter Try.func5, Try.ntmps5
    go_wp2_with fail
    refine (sz_any _ _ _ _ _ (by omega) (by omega) hm).mono ?_
    rw [if_neg (by omega)]
    rintro e w1 ⟨rfl, rfl⟩
    have hnn : ¬ (1048576 - (n : Int) < 0) := by omega
    go_wp2_with fail
    refine (toSpanS_any a b off cap n L H _ hga hc hsm).mono ?_
    rintro e w2 ⟨rfl, hr2, hb2⟩
    go_wp2_with fail
    refine (specSetHas_any _ _ 0 _ n L H x _ (fun _ => rfl) (Sp.of_row hr2) (by omega)).mono ?_
    rintro e w3 ⟨rfl, rfl⟩
    go_wp2_with fail
    refine (toSpanS_any a b off cap n L H _ hga (hc.below hb2) hsm).mono ?_
    rintro e w3 ⟨rfl, hr3, hb3⟩
    have hB3 := hb2.trans (hb3.mono hb2.size)
    go_wp2_with fail
    refine (implSetHas_any _ _ 0 _ n L H x _ (fun _ => rfl) (Sp.of_row hr3) (by omega)).mono ?_
    rintro e w4 ⟨rfl, hb4⟩
    have hB4 := hB3.trans (hb4.mono hB3.size)
    have hr4 := row_below hr3 hb4
    have hne : (hasB n L H x != hasB n L H x) = false := by simp
    go_wp2_with fail
    refine (toSpanS_any a b off cap n L H _ hga (hc.below hB4) hsm).mono ?_
    rintro e w5 ⟨rfl, hr5, hb5⟩
    have hB5 := hB4.trans (hb5.mono hB4.size)
    have hr4' := row_below hr4 hb5
    go_wp2_with fail
    refine (eqSpanS_any _ _ _ 0 _ n _ 0 _ n L H L H _ (fun _ => rfl) (Sp.of_row hr4') (fun _ => rfl) (Sp.of_row hr5) (by omega) (by omega)).mono ?_
    rw [eqB_all (fun _ _ => ⟨rfl, rfl⟩)]
    rintro e w6 ⟨rfl, hb6⟩
    have hB6 := hB5.trans (hb6.mono hB5.size)
    go_wp2
    go_ret
    exact ⟨rfl, hB6⟩

set_option maxHeartbeats 400000 in
theorem law4 (a a' : Option Addr) (b off cap n b' off' cap' m : Nat) (L H L' H' : Nat → Int) (w : World) (hga : 0 < n → a = some ⟨b, off, none⟩) (hc : Sp w b off n L H) (hm : n ≤ 9223372036854775807)
    (hga' : 0 < m → a' = some ⟨b', off', none⟩) (hc' : Sp w b' off' m L' H') (hm' : m ≤ 9223372036854775807) :
    Calls Try.prog 4 #[.slice a n cap, .slice a' m cap'] w fun e w' => e = .returned (.bool true) ∧ Below w.heap.size w w' := by
  by_cases hbig : 1048576 < n
  · go_enter Try.func4, Try.ntmps4
    go_wp2_with fail
    refine (sz_any _ _ _ _ _ (by omega) (by omega) hm).mono ?_
    rw [if_pos (by omega)]
    rintro e w1 ⟨rfl, rfl⟩
    go_wp2
    go_ret
    exact ⟨rfl, Below.refl _ _⟩
  have hsm : n ≤ 1048576 := by omega
  have hnn : ¬ (1048576 - (n : Int) < 0) := by omega
  by_cases hbig' : (1048576 : Int) - n < m
  · go_enter Try.func4, Try.ntmps4
    go_wp2_with fail
    refine (sz_any _ _ _ _ _ (by omega) (by omega) hm).mono ?_
    rw [if_neg (by omega)]
    rintro e w1 ⟨rfl, rfl⟩
    go_wp2_with fail
    refine (sz_any _ _ _ _ _ (by omega) (by omega) hm').mono ?_
    rw [if_pos (by omega)]
    rintro e w1 ⟨rfl, rfl⟩
    go_wp2
    go_ret
    exact ⟨rfl, Below.refl _ _⟩
  · have hsm' : m ≤ 1048576 := by omega
    have hnn' : ¬ (1048576 - (n : Int) - (m : Int) < 0) := by omega
    go_enter Try.func4, Try.ntmps4
    go_wp2_with fail
    refine (sz_any _ _ _ _ _ (by omega) (by omega) hm).mono ?_
    rw [if_neg (by omega)]
    rintro e w1 ⟨rfl, rfl⟩
    go_wp2_with fail
    refine (sz_any _ _ _ _ _ (by omega) (by omega) hm').mono ?_
    rw [if_neg (by omega)]
    rintro e w1 ⟨rfl, rfl⟩
    go_wp2_with fail
    refine (toSpanS_any a b off cap n L H _ hga hc hsm).mono ?_
    rintro e w2 ⟨rfl, hr2, hb2⟩
    go_wp2_with fail
    refine (toSpanS_any a' b' off' cap' m L' H' _ hga' (hc'.below hb2) hsm').mono ?_
    rintro e w3 ⟨rfl, hr3, hb3⟩
    have hB3 := hb2.trans (hb3.mono hb2.size)
    go_wp2_with fail
    refine (specSetSame_any _ _ _ 0 _ n _ 0 _ m L H L' H' _ (fun _ => rfl) (Sp.of_row (row_below hr2 hb3)) (fun _ => rfl) (Sp.of_row hr3) (by omega) (by omega)).mono ?_
    rintro e w4 ⟨rfl, hb4⟩
    have hB4 := hB3.trans (hb4.mono hB3.size)
    go_wp2_with fail
    refine (toSpanS_any a b off cap n L H _ hga (hc.below hB4) hsm).mono ?_
    rintro e w5 ⟨rfl, hr5, hb5⟩
    have hB5 := hB4.trans (hb5.mono hB4.size)
    go_wp2_with fail
    refine (toSpanS_any a' b' off' cap' m L' H' _ hga' (hc'.below hB5) hsm').mono ?_
    rintro e w6 ⟨rfl, hr6, hb6⟩
    have hB6 := hB5.trans (hb6.mono hB5.size)
    have hr5a := row_below hr5 hb6
    go_wp2_with fail
    refine (implSetSame_any _ _ _ 0 _ n _ 0 _ m L H L' H' _ (fun _ => rfl) (Sp.of_row hr5a) (fun _ => rfl) (Sp.of_row hr6) (by omega) (by omega)).mono ?_
    rintro e w7 ⟨rfl, hb7⟩
    have hB7 := hB6.trans (hb7.mono hB6.size)
    have hr5b := row_below hr5a hb7
    have hr6b := row_below hr6 hb7
    have hne : (eqB n L H m L' H' != eqB n L H m L' H') = false := by simp
    go_wp2_with fail
    refine (toSpanS_any a b off cap n L H _ hga (hc.below hB7) hsm).mono ?_
    rintro e w8 ⟨rfl, hr8, hb8⟩
    have hB8 := hB7.trans (hb8.mono hB7.size)
    have hr5c := row_below hr5b hb8
    have hr6c := row_below hr6b hb8
    go_wp2_with fail
    refine (eqSpanS_any _ _ _ 0 _ n _ 0 _ n L H L H _ (fun _ => rfl) (Sp.of_row hr5c) (fun _ => rfl) (Sp.of_row hr8) (by omega) (by omega)).mono ?_
    rw [eqB_all (fun _ _ => ⟨rfl, rfl⟩)]
    rintro e w9 ⟨rfl, hb9⟩
    have hB9 := hB8.trans (hb9.mono hB8.size)
    have hr6d := row_below hr6c hb9
    go_wp2_with fail
    refine (toSpanS_any a' b' off' cap' m L' H' _ hga' (hc'.below hB9) hsm').mono ?_
    rintro e w10 ⟨rfl, hr10, hb10⟩
    have hB10 := hB9.trans (hb10.mono hB9.size)
    have hr6e := row_below hr6d hb10
    go_wp2_with fail
    refine (eqSpanS_any _ _ _ 0 _ m _ 0 _ m L' H' L' H' _ (fun _ => rfl) (Sp.of_row hr6e) (fun _ => rfl) (Sp.of_row hr10) (by omega) (by omega)).mono ?_
    rw [eqB_all (fun _ _ => ⟨rfl, rfl⟩)]
    rintro e w11 ⟨rfl, hb11⟩
    have hB11 := hB10.trans (hb11.mono hB10.size)
    go_wp2
    go_ret
    exact ⟨rfl, hB11⟩
end Go.Proofs.Ytifmebeffihkmaa
