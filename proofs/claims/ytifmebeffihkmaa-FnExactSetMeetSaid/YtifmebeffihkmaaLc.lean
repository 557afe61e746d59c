/- the walk of the law of SetJoin -/
import Derived.Test.YtifmebeffihkmaaWm
namespace Go.Proofs.Ytifmebeffihkmaa
open Go.RowKit

theorem setR_len (ok : Bool) (B : Nat → Bool) : (setR ok B).length ≤ 256 := by
  unfold setR
  split
  · exact runs_len B 256
  · simp

set_option maxRecDepth 100000 in
set_option maxHeartbeats 1000000 in
theorem law6 (a a' : Option Addr) (b off cap n b' off' cap' m : Nat) (L H L' H' : Nat → Int) (w : World) (hga : 0 < n → a = some ⟨b, off, none⟩) (hc : Sp w b off n L H) (hm : n ≤ 9223372036854775807)
    (hga' : 0 < m → a' = some ⟨b', off', none⟩) (hc' : Sp w b' off' m L' H') (hm' : m ≤ 9223372036854775807) :
    Calls Try.prog 6 #[.slice a n cap, .slice a' m cap'] w fun e w' => e = .returned (.bool true) ∧ Below w.heap.size w w' := by
  by_cases hbig : 1048576 < n
  · go_enter Try.func6, Try.ntmps6
    go_wp2_with fail
    refine (sz_any _ _ _ _ _ (by omega) (by omega) hm).mono ?_
    rw [if_pos (by omega)]
    rintro e w1 ⟨rfl, rfl⟩
    go_wp2
    go_ret
    exact ⟨rfl, Below.refl _ _⟩
  have hsm : n ≤ 1048576 := by omega
  have hnn : ¬ (1048576 - (n : Int) < 0) := by omega
  by_cases hbig' : (1048576 : Int) - n < m
  · go_enter Try.func6, Try.ntmps6
    go_wp2_with fail
    refine (sz_any _ _ _ _ _ (by omega) (by omega) hm).mono ?_
    rw [if_neg (by omega)]
    rintro e w1 ⟨rfl, rfl⟩
    go_wp2_with fail
    refine (sz_any _ _ _ _ _ (by omega) (by omega) hm').mono ?_
    rw [if_pos (by omega)]
    rintro e w1 ⟨rfl, rfl⟩
    go_wp2
    go_ret
    exact ⟨rfl, Below.refl _ _⟩
  have hsm' : m ≤ 1048576 := by omega
  have hnn' : ¬ (1048576 - (n : Int) - (m : Int) < 0) := by omega
  obtain ⟨R, hR⟩ : ∃ R, Hid (R = setR (okB n L H && okB m L' H') (fun x => hs n L H x || hs m L' H' x)) := ⟨_, rfl⟩
  have hRl : R.length ≤ 256 := by rw [hR.out]; exact setR_len _ _
  go_enter Try.func6, Try.ntmps6
  go_wp2_with fail
  refine (sz_any _ _ _ _ _ (by omega) (by omega) hm).mono ?_
  rw [if_neg (by omega)]
  rintro e w1 ⟨rfl, hw1⟩
  subst w1
  go_wp2_with fail
  refine (sz_any _ _ _ _ _ (by omega) (by omega) hm').mono ?_
  rw [if_neg (by omega)]
  rintro e w1 ⟨rfl, hw1⟩
  subst w1
  go_wp2_with fail
  refine (toSpanS_any a b off cap n L H _ hga hc hsm).mono ?_
  rintro e w2 ⟨rfl, hr2, hb2⟩
  go_wp2_with fail
  refine (toSpanS_any a' b' off' cap' m L' H' _ hga' (hc'.below hb2) hsm').mono ?_
  rintro e w3 ⟨rfl, hr3, hb3⟩
  have hB3 := hb2.trans (hb3.mono hb2.size)
  -- the model's answer
  go_wp2_with fail
  refine (specSetJoin_any _ _ _ 0 _ n _ 0 _ m L H L' H' _ (fun _ => rfl) (Sp.of_row (row_below hr2 hb3)) (fun _ => rfl) (Sp.of_row hr3) (by omega) (by omega) _ (fun x => rfl) R hR).mono ?_
  rintro e w4 ⟨v0, rfl, ho4, hb4⟩
  have hB4 := hB3.trans (hb4.mono hB3.size)
  clear hr2 hr3
  -- the arguments of the program's call
  go_wp2_with fail
  refine (toSpanS_any a b off cap n L H _ hga (hc.below hB4) hsm).mono ?_
  rintro e w5 ⟨rfl, hr5, hb5⟩
  have hB5 := hB4.trans (hb5.mono hB4.size)
  have ho5 := own_below ho4 hb5
  go_wp2_with fail
  refine (toSpanS_any a' b' off' cap' m L' H' _ hga' (hc'.below hB5) hsm').mono ?_
  rintro e w6 ⟨rfl, hr6, hb6⟩
  have hB6 := hB5.trans (hb6.mono hB5.size)
  have ho6 := own_below ho5 hb6
  have hr56 := row_below hr5 hb6
  have l5 := hr5.lt
  have l6 := hr6.lt
  -- the program's answer
  go_wp2_with fail
  refine (implSetJoin_any _ _ _ 0 _ n _ 0 _ m L H L' H' _ (fun _ => rfl) (Sp.of_row hr56) (fun _ => rfl) (Sp.of_row hr6) (by omega) (by omega) R hR).mono ?_
  rintro e w7 ⟨g0, rfl, hg7, hb7⟩
  have hB7 := hB6.trans (hb7.mono hB6.size)
  have ho7 := own_below ho6 hb7
  have hr57 := row_below hr56 hb7
  have hr67 := row_below hr6 hb7
  clear ho5 ho6 hr56
  go_wp2_with fail
  refine (eqV_any _ hg7 ho7 (by omega)).mono ?_
  rintro e w8 ⟨rfl, hb8⟩
  have hB8 := hB7.trans (hb8.mono hB7.size)
  have ho8 := own_below ho7 hb8
  have hg8 := own_below hg7 hb8
  have hr58 := row_below hr57 hb8
  have hr68 := row_below hr67 hb8
  clear ho7 hg7 hr57 hr67
  -- the arguments were not written
  go_wp2_with fail
  refine (toSpanS_any a b off cap n L H _ hga (hc.below hB8) hsm).mono ?_
  rintro e w9 ⟨rfl, hr9, hb9⟩
  have hB9 := hB8.trans (hb9.mono hB8.size)
  have ho9 := own_below ho8 hb9
  have hg9 := own_below hg8 hb9
  have hr59 := row_below hr58 hb9
  have hr69 := row_below hr68 hb9
  clear ho8 hg8 hr58 hr68
  go_wp2_with fail
  refine (eqSpanS_any _ _ _ 0 _ n _ 0 _ n L H L H _ (fun _ => rfl) (Sp.of_row hr59) (fun _ => rfl) (Sp.of_row hr9) (by omega) (by omega)).mono ?_
  rw [eqB_all (fun _ _ => ⟨rfl, rfl⟩)]
  rintro e w10 ⟨rfl, hb10⟩
  have hB10 := hB9.trans (hb10.mono hB9.size)
  have ho10 := own_below ho9 hb10
  have hg10 := own_below hg9 hb10
  have hr510 := row_below hr59 hb10
  have hr610 := row_below hr69 hb10
  clear ho9 hg9 hr59 hr69 hr9
  go_wp2_with fail
  refine (toSpanS_any a' b' off' cap' m L' H' _ hga' (hc'.below hB10) hsm').mono ?_
  rintro e w11 ⟨rfl, hr11, hb11⟩
  have hB11 := hB10.trans (hb11.mono hB10.size)
  have ho11 := own_below ho10 hb11
  have hg11 := own_below hg10 hb11
  have hr511 := row_below hr510 hb11
  have hr611 := row_below hr610 hb11
  clear ho10 hg10 hr510 hr610
  go_wp2_with fail
  refine (eqSpanS_any _ _ _ 0 _ m _ 0 _ m L' H' L' H' _ (fun _ => rfl) (Sp.of_row hr611) (fun _ => rfl) (Sp.of_row hr11) (by omega) (by omega)).mono ?_
  rw [eqB_all (fun _ _ => ⟨rfl, rfl⟩)]
  rintro e w12 ⟨rfl, hb12⟩
  have hB12 := hB11.trans (hb12.mono hB11.size)
  have ho12 := own_below ho11 hb12
  have hg12 := own_below hg11 hb12
  have hr512 := row_below hr511 hb12
  have hr612 := row_below hr611 hb12
  clear ho11 hg11 hr511 hr611 hr11
  -- marks into the arguments
  obtain ⟨xs5, hx5⟩ := row_own hr512 hB4.size (by omega)
  go_wp2_with fail
  refine (mark_any _ n _ xs5 1 _ hx5 (by omega) (by omega) (by omega)).mono ?_
  rintro e w13 ⟨rfl, _, hg13a⟩
  have hg13 : w12.grownBy w13 (some w4.heap.size) := hg13a
  have ho13 := ho12.kept hg13 (own_ne_lo ho4 (Nat.le_refl _))
  have hgg13 := hg12.kept hg13 (own_ne_hi hg12 (by have := hb6.size; omega))
  have hr613 := row_kept hr612 hg13 (by omega)
  have hB13 : Below w.heap.size w w13 := hB12.grown hg13 hB12.size (fun k e => by cases e; exact hB4.size)
  clear ho12 hg12 hr612 hr512 hx5
  obtain ⟨xs6, hx6⟩ := row_own hr613 hB5.size (by omega)
  go_wp2_with fail
  refine (mark_any _ m _ xs6 (1 + 2 * (n : Int)) _ hx6 (by omega) (by omega) (by omega)).mono ?_
  rintro e w14 ⟨rfl, _, hg14a⟩
  have hg14 : w13.grownBy w14 (some w5.heap.size) := hg14a
  have ho14 := ho13.kept hg14 (own_ne_lo ho4 hb5.size)
  have hgg14 := hgg13.kept hg14 (own_ne_hi hgg13 (by omega))
  have hB14 : Below w.heap.size w w14 := hB13.grown hg14 hB13.size (fun k e => by cases e; exact hB5.size)
  clear ho13 hgg13 hr613 hx6
  have hkk : ¬ (1 + 2 * (n : Int) + 2 * (m : Int) < 0) := by omega
  have hkd : decide (1 + 2 * (n : Int) + 2 * (m : Int) < 0) = false := by simpa using hkk
  go_wp2_with fail
  refine (eqV_any _ hgg14 ho14 (by omega)).mono ?_
  rintro e w15 ⟨rfl, hb15⟩
  have hB15 := hB14.trans (hb15.mono hB14.size)
  have ho15 := own_below ho14 hb15
  have hgg15 := own_below hgg14 hb15
  clear ho14 hgg14
  -- marks into the answer
  go_wp2_with fail
  refine (mark_any _ R.length _ _ 1 _ hgg15 (by omega) (by omega) (by omega)).mono ?_
  rintro e w16 ⟨rfl, hm16, hg16⟩
  have ho16 := ho15.kept hg16 (own_apart ho4 hgg15 (Nat.le_trans hb5.size hb6.size))
  have hB16 : Below w.heap.size w w16 := hB15.grown hg16 hB15.size (fun k e => Nat.le_trans hB6.size (hgg15.lt k e).1)
  clear ho15 hgg15
  go_wp2_with fail
  refine (held_any _ R.length _ 1 _ hm16 (by omega) (by omega) (by omega)).mono ?_
  rintro e w17 ⟨rfl, hw17⟩
  subst w17
  have hq1 : ¬ (1 + 2 * (R.length : Int) < 0) := by omega
  have hq2 : ((1 + 2 * (R.length : Int)) != (1 + 2 * (R.length : Int))) = false := by simp
  -- the program is asked once more
  go_wp2_with fail
  refine (toSpanS_any a b off cap n L H _ hga (hc.below hB16) hsm).mono ?_
  rintro e w18 ⟨rfl, hr18, hb18⟩
  have hB18 := hB16.trans (hb18.mono hB16.size)
  have ho18 := own_below ho16 hb18
  have hm18 := own_below hm16 hb18
  go_wp2_with fail
  refine (toSpanS_any a' b' off' cap' m L' H' _ hga' (hc'.below hB18) hsm').mono ?_
  rintro e w19 ⟨rfl, hr19, hb19⟩
  have hB19 := hB18.trans (hb19.mono hB18.size)
  have ho19 := own_below ho18 hb19
  have hm19 := own_below hm18 hb19
  clear ho16 hm16 ho18 hm18
  go_wp2_with fail
  refine (implSetJoin_any _ _ _ 0 _ n _ 0 _ m L H L' H' _ (fun _ => rfl) (Sp.of_row (row_below hr18 hb19)) (fun _ => rfl) (Sp.of_row hr19) (by omega) (by omega) R hR).mono ?_
  rintro e w20 ⟨h0, rfl, hh20, hb20⟩
  have hB20 := hB19.trans (hb20.mono hB19.size)
  have ho20 := own_below ho19 hb20
  have hm20 := own_below hm19 hb20
  clear ho19 hm19
  go_wp2_with fail
  refine (eqV_any _ hh20 ho20 (by omega)).mono ?_
  rintro e w21 ⟨rfl, hb21⟩
  have hB21 := hB20.trans (hb21.mono hB20.size)
  have hm21 := own_below hm20 hb21
  go_wp2_with fail
  refine (held_any _ R.length _ 1 _ hm21 (by omega) (by omega) (by omega)).mono ?_
  rintro e w22 ⟨rfl, hw22⟩
  subst w22
  go_wp2
  go_ret
  exact ⟨rfl, hB21⟩
end Go.Proofs.Ytifmebeffihkmaa
