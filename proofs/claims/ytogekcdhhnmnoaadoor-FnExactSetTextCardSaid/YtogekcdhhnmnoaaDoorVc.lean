/- the walk of the law of SetText -/
import Derived.Test.YtogekcdhhnmnoaaDoorVb
namespace Go.Proofs.YtogekcdhhnmnoaaDoor
open Go.RowKit
set_option linter.unusedVariables false
set_option linter.unusedSimpArgs false

set_option maxHeartbeats 400000 in
theorem lawSetText (a : Option Addr) (b off cap n : Nat) (L H : Nat → Int) (w : World) (hp : Tab w.heap.size w) (hga : 0 < n → a = some ⟨b, off, none⟩) (hc : Sp w b off n L H) (hm : n ≤ 9223372036854775807) (hin : ∀ i, i < n → In64 (L i) ∧ In64 (H i)) :
    Calls Tryd.prog 3 #[.slice a n cap] w fun e w' => e = .returned (.bool true) ∧ Below w.heap.size w w' := by
  by_cases hbig : 1048576 < n
  · go_enter Tryd.func3, Tryd.ntmps3
    go_wp2_with fail
    refine (sz_any _ _ _ _ _ (by omega) (by omega) hm).mono ?_
    rw [if_pos (by omega)]
    rintro e w1 ⟨rfl, rfl⟩
    go_wp2
    go_ret
    exact ⟨rfl, Below.refl _ _⟩
  · have hsm : n ≤ 1048576 := by omega
    go_enter Tryd.func3, Tryd.ntmps3
    go_wp2_with fail
    refine (sz_any _ _ _ _ _ (by omega) (by omega) hm).mono ?_
    rw [if_neg (by omega)]
    rintro e w1 ⟨rfl, hw1⟩
    subst w1
    have hnn : ¬ (1048576 - (n : Int) < 0) := by omega
    go_wp2_with fail
    refine (toSpanS_any a b off cap n L H _ hga hc hsm).mono ?_
    rintro e w2 ⟨rfl, hr2, hb2⟩
    go_wp2_with fail
    refine (specSetText_any _ _ 0 _ n L H _ (fun _ => rfl) (Sp.of_row hr2) hin (by omega)).mono ?_
    rintro e w3 ⟨r, rfl, hr, hb3⟩
    have hB3 := hb2.trans (hb3.mono hb2.size)
    have HR : Hid (tx r = setT n L H) := hr
    clear hr
    go_wp2_with fail
    refine (toSpanS_any a b off cap n L H _ hga (hc.below hB3) hsm).mono ?_
    rintro e w4 ⟨rfl, hr4, hb4⟩
    have hB4 := hB3.trans (hb4.mono hB3.size)
    go_wp2_with fail
    refine (implSetText_any _ _ 0 _ n L H _ (fun _ => rfl) (Sp.of_row hr4) hin (by omega) ((hp.on hB4).up hB4.size)).mono ?_
    rintro e w5 ⟨r', rfl, hr', hb5⟩
    obtain rfl : r = r' := tx_inj (HR.out.trans hr'.symm)
    clear hr'
    have hB5 := hB4.trans (hb5.mono hB4.size)
    have hr5 := row_below hr4 hb5
    go_wp2_with fail
    refine (toSpanS_any a b off cap n L H _ hga (hc.below hB5) hsm).mono ?_
    rintro e w6 ⟨rfl, hr6, hb6⟩
    have hB6 := hB5.trans (hb6.mono hB5.size)
    have hr5' := row_below hr5 hb6
    go_wp2_with fail
    refine (eqSpanS_any _ _ _ 0 _ n _ 0 _ n L H L H _ (fun _ => rfl) (Sp.of_row hr5') (fun _ => rfl) (Sp.of_row hr6) (by omega) (by omega)).mono ?_
    rw [eqB_all (fun _ _ => ⟨rfl, rfl⟩)]
    rintro e w7 ⟨rfl, hb7⟩
    have hB7 := hB6.trans (hb7.mono hB6.size)
    go_wp2
    go_ret
    exact ⟨rfl, hB7⟩
end Go.Proofs.YtogekcdhhnmnoaaDoor

