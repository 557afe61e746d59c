/- the walk of the law of SetNot -/
import Derived.Test.YtifmebeffihkmaaLc
namespace Go.Proofs.Ytifmebeffihkmaa
open Go.RowKit

set_option maxRecDepth 100000 in
set_option maxHeartbeats 1000000 in
theorem law8 (a : Option Addr) (b off cap n : Nat) (L H : Nat → Int) (w : World) (hga : 0 < n → a = some ⟨b, off, none⟩) (hc : Sp w b off n L H) (hm : n ≤ 9223372036854775807) :
    Calls Try.prog 8 #[.slice a n cap] w fun e w' => e = .returned (.bool true) ∧ Below w.heap.size w w' := by
  by_cases hbig : 1048576 < n
  · go_enter Try.func8, Try.ntmps8
    go_wp2_with fail
    refine (sz_any _ _ _ _ _ (by omega) (by omega) hm).mono ?_
    rw [if_pos (by omega)]
    rintro e w1 ⟨rfl, rfl⟩
    go_wp2
    go_ret
    exact ⟨rfl, Below.refl _ _⟩
  have hsm : n ≤ 1048576 := by omega
  have hnn : ¬ (1048576 - (n : Int) < 0) := by omega
  obtain ⟨R, hR⟩ : ∃ R, Hid (R = setR (okB n L H) (fun x => !hs n L H x)) := ⟨_, rfl⟩
  have hRl : R.length ≤ 256 := by rw [hR.out]; exact setR_len _ _
  go_enter Try.func8, Try.ntmps8
  go_wp2_with fail
  refine (sz_any _ _ _ _ _ (by omega) (by omega) hm).mono ?_
  rw [if_neg (by omega)]
  rintro e w1 ⟨rfl, hw1⟩
  subst w1
  go_wp2_with fail
  refine (toSpanS_any a b off cap n L H _ hga hc hsm).mono ?_
  rintro e w3 ⟨rfl, hr3, hB3⟩
  go_wp2_with fail
  refine (specSetNot_any _ _ 0 _ n L H _ (fun _ => rfl) (Sp.of_row hr3) (by omega) _ (fun x => rfl) R hR).mono ?_
  rintro e w4 ⟨v0, rfl, ho4, hb4⟩
  have hB4 := hB3.trans (hb4.mono hB3.size)
  clear hr3
  go_wp2_with fail
  refine (toSpanS_any a b off cap n L H _ hga (hc.below hB4) hsm).mono ?_
  rintro e w5 ⟨rfl, hr5, hb5⟩
  have hB5 := hB4.trans (hb5.mono hB4.size)
  have ho5 := own_below ho4 hb5
  have l5 := hr5.lt
  go_wp2_with fail
  refine (implSetNot_any _ _ 0 _ n L H _ (fun _ => rfl) (Sp.of_row hr5) (by omega) R hR).mono ?_
  rintro e w7 ⟨g0, rfl, hg7, hb7⟩
  have hB7 := hB5.trans (hb7.mono hB5.size)
  have ho7 := own_below ho5 hb7
  have hr57 := row_below hr5 hb7
  clear ho5
  go_wp2_with fail
  refine (eqV_any _ hg7 ho7 (by omega)).mono ?_
  rintro e w8 ⟨rfl, hb8⟩
  have hB8 := hB7.trans (hb8.mono hB7.size)
  have ho8 := own_below ho7 hb8
  have hg8 := own_below hg7 hb8
  have hr58 := row_below hr57 hb8
  clear ho7 hg7 hr57
  go_wp2_with fail
  refine (toSpanS_any a b off cap n L H _ hga (hc.below hB8) hsm).mono ?_
  rintro e w9 ⟨rfl, hr9, hb9⟩
  have hB9 := hB8.trans (hb9.mono hB8.size)
  have ho9 := own_below ho8 hb9
  have hg9 := own_below hg8 hb9
  have hr59 := row_below hr58 hb9
  clear ho8 hg8 hr58
  go_wp2_with fail
  refine (eqSpanS_any _ _ _ 0 _ n _ 0 _ n L H L H _ (fun _ => rfl) (Sp.of_row hr59) (fun _ => rfl) (Sp.of_row hr9) (by omega) (by omega)).mono ?_
  rw [eqB_all (fun _ _ => ⟨rfl, rfl⟩)]
  rintro e w12 ⟨rfl, hb12⟩
  have hB12 := hB9.trans (hb12.mono hB9.size)
  have ho12 := own_below ho9 hb12
  have hg12 := own_below hg9 hb12
  have hr512 := row_below hr59 hb12
  clear ho9 hg9 hr59 hr9
  obtain ⟨xs5, hx5⟩ := row_own hr512 hB4.size (by omega)
  go_wp2_with fail
  refine (mark_any _ n _ xs5 1 _ hx5 (by omega) (by omega) (by omega)).mono ?_
  rintro e w14 ⟨rfl, _, hg13a⟩
  have hg13 : w12.grownBy w14 (some w4.heap.size) := hg13a
  have ho14 := ho12.kept hg13 (own_ne_lo ho4 (Nat.le_refl _))
  have hgg14 := hg12.kept hg13 (own_ne_hi hg12 (by omega))
  have hB14 : Below w.heap.size w w14 := hB12.grown hg13 hB12.size (fun k e => by cases e; exact hB4.size)
  clear ho12 hg12 hr512 hx5
  have hkk : ¬ (1 + 2 * (n : Int) < 0) := by omega
  have hkd : decide (1 + 2 * (n : Int) < 0) = false := by simpa using hkk
  go_wp2_with fail
  refine (eqV_any _ hgg14 ho14 (by omega)).mono ?_
  rintro e w15 ⟨rfl, hb15⟩
  have hB15 := hB14.trans (hb15.mono hB14.size)
  have ho15 := own_below ho14 hb15
  have hgg15 := own_below hgg14 hb15
  clear ho14 hgg14
  go_wp2_with fail
  refine (mark_any _ R.length _ _ 1 _ hgg15 (by omega) (by omega) (by omega)).mono ?_
  rintro e w16 ⟨rfl, hm16, hg16⟩
  have ho16 := ho15.kept hg16 (own_apart ho4 hgg15 hb5.size)
  have hB16 : Below w.heap.size w w16 := hB15.grown hg16 hB15.size (fun k e => Nat.le_trans hB5.size (hgg15.lt k e).1)
  clear ho15 hgg15
  go_wp2_with fail
  refine (held_any _ R.length _ 1 _ hm16 (by omega) (by omega) (by omega)).mono ?_
  rintro e w17 ⟨rfl, hw17⟩
  subst w17
  have hq1 : ¬ (1 + 2 * (R.length : Int) < 0) := by omega
  have hq2 : ((1 + 2 * (R.length : Int)) != (1 + 2 * (R.length : Int))) = false := by simp
  go_wp2_with fail
  refine (toSpanS_any a b off cap n L H _ hga (hc.below hB16) hsm).mono ?_
  rintro e w19 ⟨rfl, hr19, hb19⟩
  have hB19 := hB16.trans (hb19.mono hB16.size)
  have ho19 := own_below ho16 hb19
  have hm19 := own_below hm16 hb19
  clear ho16 hm16
  go_wp2_with fail
  refine (implSetNot_any _ _ 0 _ n L H _ (fun _ => rfl) (Sp.of_row hr19) (by omega) R hR).mono ?_
  rintro e w20 ⟨h0, rfl, hh20, hb20⟩
  have hB20 := hB19.trans (hb20.mono hB19.size)
  have ho20 := own_below ho19 hb20
  have hm20 := own_below hm19 hb20
  clear ho19 hm19
  go_wp2_with fail
  refine (eqV_any _ hh20 ho20 (by omega)).mono ?_
  rintro e w21 ⟨rfl, hb21⟩
  have hB21 := hB20.trans (hb21.mono hB20.size)
  have hm21 := own_below hm20 hb21
  go_wp2_with fail
  refine (held_any _ R.length _ 1 _ hm21 (by omega) (by omega) (by omega)).mono ?_
  rintro e w22 ⟨rfl, hw22⟩
  subst w22
  go_wp2
  go_ret
  exact ⟨rfl, hB21⟩
end Go.Proofs.Ytifmebeffihkmaa
