/- the walk of the law of SetSize -/
import Derived.Test.YtifmebeffihkmaaWo
import Derived.Test.YtifmebeffihkmaaWb
namespace Go.Proofs.Ytifmebeffihkmaa
open Go.RowKit

set_option maxHeartbeats 400000 in
theorem law9 (a : Option Addr) (b off cap n : Nat) (L H : Nat → Int) (w : World) (hga : 0 < n → a = some ⟨b, off, none⟩) (hc : Sp w b off n L H) (hm : n ≤ 9223372036854775807) :
    Calls Try.prog 9 #[.slice a n cap] w fun e w' => e = .returned (.bool true) ∧ Below w.heap.size w w' := by
  by_cases hbig : 1048576 < n
  · go_enter Try.func9, Try.ntmps9
    go_wp2_with fail
    refine (sz_any _ _ _ _ _ (by omega) (by omega) hm).mono ?_
    rw [if_pos (by omega)]
    rintro e w1 ⟨rfl, rfl⟩
    go_wp2
    go_ret
    exact ⟨rfl, Below.refl _ _⟩
  · have hsm : n ≤ 1048576 := by omega
    obtain ⟨N, HN⟩ : ∃ N, Hid (N = cnt (hs n L H) 256) := ⟨_, rfl⟩
    go_enter Try.func9, Try.ntmps9
    go_wp2_with fail
    refine (sz_any _ _ _ _ _ (by omega) (by omega) hm).mono ?_
    rw [if_neg (by omega)]
    rintro e w1 ⟨rfl, rfl⟩
    have hnn : ¬ (1048576 - (n : Int) < 0) := by omega
    go_wp2_with fail
    refine (toSpanS_any a b off cap n L H _ hga hc hsm).mono ?_
    rintro e w2 ⟨rfl, hr2, hb2⟩
    go_wp2_with fail
    refine (specSetSize_any _ _ 0 _ n L H _ (fun _ => rfl) (Sp.of_row hr2) (by omega) N HN).mono ?_
    rintro e w3 ⟨rfl, rfl⟩
    go_wp2_with fail
    refine (toSpanS_any a b off cap n L H _ hga (hc.below hb2) hsm).mono ?_
    rintro e w3 ⟨rfl, hr3, hb3⟩
    have hB3 := hb2.trans (hb3.mono hb2.size)
    go_wp2_with fail
    refine (implSetSize_any _ _ 0 _ n L H _ (fun _ => rfl) (Sp.of_row hr3) (by omega) N HN).mono ?_
    rintro e w4 ⟨rfl, hb4⟩
    have hB4 := hB3.trans (hb4.mono hB3.size)
    have hr4 := row_below hr3 hb4
    have hne : ((N : Int) != (N : Int)) = false := by simp
    go_wp2_with fail
    refine (toSpanS_any a b off cap n L H _ hga (hc.below hB4) hsm).mono ?_
    rintro e w5 ⟨rfl, hr5, hb5⟩
    have hB5 := hB4.trans (hb5.mono hB4.size)
    have hr4' := row_below hr4 hb5
    go_wp2_with fail
    refine (eqSpanS_any _ _ _ 0 _ n _ 0 _ n L H L H _ (fun _ => rfl) (Sp.of_row hr4') (fun _ => rfl) (Sp.of_row hr5) (by omega) (by omega)).mono ?_
    rw [eqB_all (fun _ _ => ⟨rfl, rfl⟩)]
    rintro e w6 ⟨rfl, hb6⟩
    have hB6 := hB5.trans (hb6.mono hB5.size)
    go_wp2
    go_ret
    exact ⟨rfl, hB6⟩

end Go.Proofs.Ytifmebeffihkmaa
