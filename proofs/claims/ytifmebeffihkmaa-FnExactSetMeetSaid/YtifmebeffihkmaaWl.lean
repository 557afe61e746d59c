/- the walks of the program's SetJoin, SetMeet, SetNot -/
import Derived.Test.YtifmebeffihkmaaWk
namespace Go.Proofs.Ytifmebeffihkmaa
open Go.RowKit

set_option maxHeartbeats 1000000 in
theorem implSetJoin_any (a a' : Option Addr) (b off cap n b' off' cap' m : Nat) (L H L' H' : Nat → Int) (w : World) (hga : 0 < n → a = some ⟨b, off, none⟩) (hc : Sp w b off n L H)
    (hga' : 0 < m → a' = some ⟨b', off', none⟩) (hc' : Sp w b' off' m L' H') (hn : n ≤ 4194304) (hm : m ≤ 4194304) (R : List (Nat × Nat)) (hR : Hid (R = setR (okB n L H && okB m L' H') (fun x => hs n L H x || hs m L' H' x))) :
    Calls Try.prog 20 #[.slice a n cap, .slice a' m cap'] w fun e w' => ∃ v, e = .returned v ∧ w'.ownsRow w.heap.size 37 2 v R.length (cellsR R) ∧ Below w.heap.size w w' := by
  have O1 := implSetOk_any a b off cap n L H w hga hc hn
  by_cases h1 : okB n L H = true
  · rw [h1] at O1
    by_cases h2 : okB m L' H' = true
    · have HR : Hid (R = runs (fun x => hs n L H x || hs m L' H' x) 256) := by rw [hR.out, h1, h2]; simp [setR, Hid]
      have O2 : ∀ w1, Below w.heap.size w w1 → Calls Try.prog 13 #[.slice a' m cap'] w1 fun e w' => e = .returned (.bool true) ∧ Below w1.heap.size w1 w' := fun w1 hb1 => by
        have h := implSetOk_any a' b' off' cap' m L' H' w1 hga' (hc'.below hb1) hm
        rwa [h2] at h
      have O1' : Hid (Calls Try.prog 13 #[.slice a n cap] w fun e w' => e = .returned (.bool true) ∧ Below w.heap.size w w') := O1
      have O2' : Hid (∀ w1, Below w.heap.size w w1 → Calls Try.prog 13 #[.slice a' m cap'] w1 fun e w' => e = .returned (.bool true) ∧ Below w1.heap.size w1 w') := O2
      clear O1 O2 h1 h2
      go_enter Try.func20, Try.ntmps20
      go_wp2_with fail
      refine O1'.out.mono ?_
      rintro e w1 ⟨rfl, hb1⟩
      go_wp2_with fail
      refine (O2'.out w1 hb1).mono ?_
      rintro e w2 ⟨rfl, hb2⟩
      have hB2 := hb1.trans (hb2.mono hb1.size)
      clear O1' O2'
      go_wp2_with fail
      refine (bitsOf_any a b off cap n L H w2 hga (hc.below hB2) hn).mono ?_
      rintro e w3 ⟨rfl, hb3⟩
      have hB3 := hB2.trans (hb3.mono hB2.size)
      go_wp2_with fail
      refine (bitsOf_any a' b' off' cap' m L' H' w3 hga' (hc'.below hB3) hm).mono ?_
      rintro e w4 ⟨rfl, hb4⟩
      have hB4 := hB3.trans (hb4.mono hB3.size)
      go_wp2_with fail
      refine (join_any (hs n L H) (hs m L' H') w4).mono ?_
      rintro e w5 ⟨rfl, hb5⟩
      have hB5 := hB4.trans (hb5.mono hB4.size)
      go_wp2_with fail
      refine (list_any (fun x => hs n L H x || hs m L' H' x) w5).mono ?_
      rintro e w6 ⟨v, rfl, ho, hb6⟩
      have hB6 := hB5.trans (hb6.mono hB5.size)
      go_wp2
      go_ret
      exact ⟨v, rfl, by rw [HR.out]; exact ownsRow_down ho hB5.size, hB6⟩
    · have h2' : okB m L' H' = false := Bool.eq_false_iff.2 h2
      have HR : Hid (R = []) := by rw [hR.out, h1, h2']; simp [setR, Hid]
      have O2 : ∀ w1, Below w.heap.size w w1 → Calls Try.prog 13 #[.slice a' m cap'] w1 fun e w' => e = .returned (.bool false) ∧ Below w1.heap.size w1 w' := fun w1 hb1 => by
        have h := implSetOk_any a' b' off' cap' m L' H' w1 hga' (hc'.below hb1) hm
        rwa [h2'] at h
      have O1' : Hid (Calls Try.prog 13 #[.slice a n cap] w fun e w' => e = .returned (.bool true) ∧ Below w.heap.size w w') := O1
      have O2' : Hid (∀ w1, Below w.heap.size w w1 → Calls Try.prog 13 #[.slice a' m cap'] w1 fun e w' => e = .returned (.bool false) ∧ Below w1.heap.size w1 w') := O2
      clear O1 O2 h1 h2 h2'
      go_enter Try.func20, Try.ntmps20
      go_wp2_with fail
      refine O1'.out.mono ?_
      rintro e w1 ⟨rfl, hb1⟩
      go_wp2_with fail
      refine (O2'.out w1 hb1).mono ?_
      rintro e w2 ⟨rfl, hb2⟩
      have hB2 := hb1.trans (hb2.mono hb1.size)
      go_wp2
      go_ret
      exact ⟨_, rfl, by rw [HR.out]; exact World.ownsRow_nil _ _ _ _, hB2⟩
  · have h1' : okB n L H = false := Bool.eq_false_iff.2 h1
    rw [h1'] at O1
    have HR : Hid (R = []) := by rw [hR.out, h1']; simp [setR, Hid]
    have O1' : Hid (Calls Try.prog 13 #[.slice a n cap] w fun e w' => e = .returned (.bool false) ∧ Below w.heap.size w w') := O1
    clear O1 h1 h1'
    go_enter Try.func20, Try.ntmps20
    go_wp2_with fail
    refine O1'.out.mono ?_
    rintro e w1 ⟨rfl, hb1⟩
    go_wp2
    go_ret
    exact ⟨_, rfl, by rw [HR.out]; exact World.ownsRow_nil _ _ _ _, hb1⟩

set_option maxHeartbeats 1000000 in
theorem implSetMeet_any (a a' : Option Addr) (b off cap n b' off' cap' m : Nat) (L H L' H' : Nat → Int) (w : World) (hga : 0 < n → a = some ⟨b, off, none⟩) (hc : Sp w b off n L H)
    (hga' : 0 < m → a' = some ⟨b', off', none⟩) (hc' : Sp w b' off' m L' H') (hn : n ≤ 4194304) (hm : m ≤ 4194304) (R : List (Nat × Nat)) (hR : Hid (R = setR (okB n L H && okB m L' H') (fun x => hs n L H x && hs m L' H' x))) :
    Calls Try.prog 24 #[.slice a n cap, .slice a' m cap'] w fun e w' => ∃ v, e = .returned v ∧ w'.ownsRow w.heap.size 37 2 v R.length (cellsR R) ∧ Below w.heap.size w w' := by
  have O1 := implSetOk_any a b off cap n L H w hga hc hn
  by_cases h1 : okB n L H = true
  · rw [h1] at O1
    by_cases h2 : okB m L' H' = true
    · have HR : Hid (R = runs (fun x => hs n L H x && hs m L' H' x) 256) := by rw [hR.out, h1, h2]; simp [setR, Hid]
      have O2 : ∀ w1, Below w.heap.size w w1 → Calls Try.prog 13 #[.slice a' m cap'] w1 fun e w' => e = .returned (.bool true) ∧ Below w1.heap.size w1 w' := fun w1 hb1 => by
        have h := implSetOk_any a' b' off' cap' m L' H' w1 hga' (hc'.below hb1) hm
        rwa [h2] at h
      have O1' : Hid (Calls Try.prog 13 #[.slice a n cap] w fun e w' => e = .returned (.bool true) ∧ Below w.heap.size w w') := O1
      have O2' : Hid (∀ w1, Below w.heap.size w w1 → Calls Try.prog 13 #[.slice a' m cap'] w1 fun e w' => e = .returned (.bool true) ∧ Below w1.heap.size w1 w') := O2
      clear O1 O2 h1 h2
      go_enter Try.func24, Try.ntmps24
      go_wp2_with fail
      refine O1'.out.mono ?_
      rintro e w1 ⟨rfl, hb1⟩
      go_wp2_with fail
      refine (O2'.out w1 hb1).mono ?_
      rintro e w2 ⟨rfl, hb2⟩
      have hB2 := hb1.trans (hb2.mono hb1.size)
      clear O1' O2'
      go_wp2_with fail
      refine (bitsOf_any a b off cap n L H w2 hga (hc.below hB2) hn).mono ?_
      rintro e w3 ⟨rfl, hb3⟩
      have hB3 := hB2.trans (hb3.mono hB2.size)
      go_wp2_with fail
      refine (bitsOf_any a' b' off' cap' m L' H' w3 hga' (hc'.below hB3) hm).mono ?_
      rintro e w4 ⟨rfl, hb4⟩
      have hB4 := hB3.trans (hb4.mono hB3.size)
      go_wp2_with fail
      refine (meet_any (hs n L H) (hs m L' H') w4).mono ?_
      rintro e w5 ⟨rfl, hb5⟩
      have hB5 := hB4.trans (hb5.mono hB4.size)
      go_wp2_with fail
      refine (list_any (fun x => hs n L H x && hs m L' H' x) w5).mono ?_
      rintro e w6 ⟨v, rfl, ho, hb6⟩
      have hB6 := hB5.trans (hb6.mono hB5.size)
      go_wp2
      go_ret
      exact ⟨v, rfl, by rw [HR.out]; exact ownsRow_down ho hB5.size, hB6⟩
    · have h2' : okB m L' H' = false := Bool.eq_false_iff.2 h2
      have HR : Hid (R = []) := by rw [hR.out, h1, h2']; simp [setR, Hid]
      have O2 : ∀ w1, Below w.heap.size w w1 → Calls Try.prog 13 #[.slice a' m cap'] w1 fun e w' => e = .returned (.bool false) ∧ Below w1.heap.size w1 w' := fun w1 hb1 => by
        have h := implSetOk_any a' b' off' cap' m L' H' w1 hga' (hc'.below hb1) hm
        rwa [h2'] at h
      have O1' : Hid (Calls Try.prog 13 #[.slice a n cap] w fun e w' => e = .returned (.bool true) ∧ Below w.heap.size w w') := O1
      have O2' : Hid (∀ w1, Below w.heap.size w w1 → Calls Try.prog 13 #[.slice a' m cap'] w1 fun e w' => e = .returned (.bool false) ∧ Below w1.heap.size w1 w') := O2
      clear O1 O2 h1 h2 h2'
      go_enter Try.func24, Try.ntmps24
      go_wp2_with fail
      refine O1'.out.mono ?_
      rintro e w1 ⟨rfl, hb1⟩
      go_wp2_with fail
      refine (O2'.out w1 hb1).mono ?_
      rintro e w2 ⟨rfl, hb2⟩
      have hB2 := hb1.trans (hb2.mono hb1.size)
      go_wp2
      go_ret
      exact ⟨_, rfl, by rw [HR.out]; exact World.ownsRow_nil _ _ _ _, hB2⟩
  · have h1' : okB n L H = false := Bool.eq_false_iff.2 h1
    rw [h1'] at O1
    have HR : Hid (R = []) := by rw [hR.out, h1']; simp [setR, Hid]
    have O1' : Hid (Calls Try.prog 13 #[.slice a n cap] w fun e w' => e = .returned (.bool false) ∧ Below w.heap.size w w') := O1
    clear O1 h1 h1'
    go_enter Try.func24, Try.ntmps24
    go_wp2_with fail
    refine O1'.out.mono ?_
    rintro e w1 ⟨rfl, hb1⟩
    go_wp2
    go_ret
    exact ⟨_, rfl, by rw [HR.out]; exact World.ownsRow_nil _ _ _ _, hb1⟩

set_option maxHeartbeats 1000000 in
theorem implSetNot_any (a : Option Addr) (b off cap n : Nat) (L H : Nat → Int) (w : World) (hga : 0 < n → a = some ⟨b, off, none⟩) (hc : Sp w b off n L H)
    (hn : n ≤ 4194304) (R : List (Nat × Nat)) (hR : Hid (R = setR (okB n L H) (fun x => !hs n L H x))) :
    Calls Try.prog 26 #[.slice a n cap] w fun e w' => ∃ v, e = .returned v ∧ w'.ownsRow w.heap.size 37 2 v R.length (cellsR R) ∧ Below w.heap.size w w' := by
  have O1 := implSetOk_any a b off cap n L H w hga hc hn
  by_cases h1 : okB n L H = true
  · rw [h1] at O1
    have HR : Hid (R = runs (fun x => !hs n L H x) 256) := by rw [hR.out, h1]; simp [setR, Hid]
    have O1' : Hid (Calls Try.prog 13 #[.slice a n cap] w fun e w' => e = .returned (.bool true) ∧ Below w.heap.size w w') := O1
    clear O1 h1
    go_enter Try.func26, Try.ntmps26
    go_wp2_with fail
    refine O1'.out.mono ?_
    rintro e w1 ⟨rfl, hb1⟩
    clear O1'
    go_wp2_with fail
    refine (bitsOf_any a b off cap n L H w1 hga (hc.below hb1) hn).mono ?_
    rintro e w3 ⟨rfl, hb3⟩
    have hB3 := hb1.trans (hb3.mono hb1.size)
    go_wp2_with fail
    refine (others_any (hs n L H) w3).mono ?_
    rintro e w5 ⟨rfl, hb5⟩
    have hB5 := hB3.trans (hb5.mono hB3.size)
    go_wp2_with fail
    refine (list_any (fun x => !hs n L H x) w5).mono ?_
    rintro e w6 ⟨v, rfl, ho, hb6⟩
    have hB6 := hB5.trans (hb6.mono hB5.size)
    go_wp2
    go_ret
    exact ⟨v, rfl, by rw [HR.out]; exact ownsRow_down ho hB5.size, hB6⟩
  · have h1' : okB n L H = false := Bool.eq_false_iff.2 h1
    rw [h1'] at O1
    have HR : Hid (R = []) := by rw [hR.out, h1']; simp [setR, Hid]
    have O1' : Hid (Calls Try.prog 13 #[.slice a n cap] w fun e w' => e = .returned (.bool false) ∧ Below w.heap.size w w') := O1
    clear O1 h1 h1'
    go_enter Try.func26, Try.ntmps26
    go_wp2_with fail
    refine O1'.out.mono ?_
    rintro e w1 ⟨rfl, hb1⟩
    go_wp2
    go_ret
    exact ⟨_, rfl, by rw [HR.out]; exact World.ownsRow_nil _ _ _ _, hb1⟩
end Go.Proofs.Ytifmebeffihkmaa
