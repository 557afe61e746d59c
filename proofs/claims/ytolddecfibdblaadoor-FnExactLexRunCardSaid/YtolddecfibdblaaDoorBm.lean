/- the walks of the model's SetJoin, SetMeet, SetNot -/
import Derived.Test.YtolddecfibdblaaDoorDe
import Derived.Test.YtolddecfibdblaaDoorPan
import Derived.Test.YtolddecfibdblaaDoorBw
namespace Go.Proofs.YtolddecfibdblaaDoor
open Go.RowKit
set_option linter.unusedVariables false
set_option linter.unusedSimpArgs false

theorem Tryd.infoBool : (Tryd.prog.info? 4).map (fun i => (i.zero, i.size, i.bytes)) = some (some (.bool false), 1, 1) := by kernel_rfl

/-- what a function that makes a set tells: the runs, if what it was given is ok -/
def setR (ok : Bool) (B : Nat → Bool) : List (Nat × Nat) := if ok then runs B 256 else []

theorem bool_step {w : World} {g k : Nat} {C : Nat → Bool} {b : Bool} (h : w.rowIs g 4 256 (fun j => .bool (if j < k then C j else false))) (hb : b = C k) :
    (w.setCell ⟨g, k, none⟩ (.bool b)).rowIs g 4 256 (fun j => .bool (if j < k + 1 then C j else false)) := by
  refine (h.set k _).congr (fun j _ => ?_)
  by_cases e : j = k
  · subst e; rw [if_pos rfl, if_pos (by omega), hb]
  · rw [if_neg e]
    by_cases e2 : j < k
    · rw [if_pos e2, if_pos (by omega)]
    · rw [if_neg e2, if_neg (by omega)]

theorem make41 (w : World) : (Instr.makeSlice 100 (.int .i64 256) (.int .i64 256)).run Tryd.prog w = .ok (.slice (some ⟨w.heap.size, 0, none⟩) 256 256) (w.alloc (.cells (madeCells #[.bool false] 256) 4)) :=
  run_make_row' (P := Tryd.prog) 100 4 (.bool false) 1 Tryd.underlying100 Tryd.infoBool rfl .i64 .i64 256 (by omega) (by omega) w

theorem empty_row (w : World) : (w.alloc (.cells #[] 87)).ownsRow w.heap.size 87 2 (.slice (some ⟨w.heap.size, 0, none⟩) 0 0) 0 [] :=
  World.ownsRow_lit w #[] 0 (Nat.le_refl _) (by unfold maxLen; omega) rfl

theorem ownsRow_down {w : World} {base base' e size n : Nat} {v : Value} {xs : List Value} (h : w.ownsRow base e size v n xs) (hb : base' ≤ base) : w.ownsRow base' e size v n xs := by
  obtain ⟨h1, h2⟩ := h
  rcases h2 with h2 | ⟨g, cap, cur, e1, e2, e3⟩
  · exact ⟨h1, .inl h2⟩
  · exact ⟨h1, .inr ⟨g, cap, cur, e1, Nat.le_trans hb e2, e3⟩⟩

set_option maxRecDepth 100000 in
set_option maxHeartbeats 1000000 in
set_option maxRecDepth 100000 in
set_option maxHeartbeats 1000000 in
theorem specSetMeet_any (a a' : Option Addr) (b off cap n b' off' cap' m : Nat) (L H L' H' : Nat → Int) (w : World) (hga : 0 < n → a = some ⟨b, off, none⟩) (hc : Sp w b off n L H)
    (hga' : 0 < m → a' = some ⟨b', off', none⟩) (hc' : Sp w b' off' m L' H') (hn : n ≤ 4194304) (hm : m ≤ 4194304) (C : Nat → Bool) (hC : Hid (∀ x, C x = (hs n L H x && hs m L' H' x))) (R : List (Nat × Nat)) (hR : Hid (R = setR (okB n L H && okB m L' H') C)) :
    Calls Tryd.prog 58 #[.slice a n cap, .slice a' m cap'] w fun e w' => ∃ v, e = .returned v ∧ w'.ownsRow w.heap.size 87 2 v R.length (cellsR R) ∧ Below w.heap.size w w' := by
  have hmk := make41
  go_enter Tryd.func58, Tryd.ntmps58
  go_wp2
  clear hmk
  go_loopw [6] (fun i wr => ∃ (k : Nat), k ≤ 256 ∧ i = .int .i64 k ∧ wr.rowIs w.heap.size 4 256 (fun j => .bool (if j < k then C j else false)) ∧ Below w.heap.size w wr) (fun i _ => 256 - (intOf i).toNat)
  case atStart => exact ⟨0, by omega, rfl, (World.rowIs_made w (.bool false) 256 4).congr (fun j _ => by simp), (Below.refl _ _).alloc (Nat.le_refl _) _⟩
  case round =>
    obtain ⟨k, hk, rfl, hrow, hB⟩ := hrel
    by_cases hlt : k < 256
    · have hltz : (k : Int) < 256 := by omega
      have f1 := hrow.frozen k
      have e1 : wr.cell? ⟨w.heap.size, k, none⟩ = some (.bool false) := by have h := hrow.cell hlt; rw [h]; simp
      have H1 := specSetHas_any a b off cap n L H k wr hga (hc.below hB) hn
      have H2 := specSetHas_any a' b' off' cap' m L' H' k wr hga' (hc'.below hB) hm
      have hCk := hC.out k
      unfold hs at hCk
      by_cases hh : hasB n L H k = true
      · obtain ⟨c, hcc⟩ : ∃ c, hasB m L' H' k = c := ⟨_, rfl⟩
        have HC : Hid (c = C k) := by rw [hCk, hh, hcc]; simp [Hid]
        rw [hh] at H1
        rw [hcc] at H2
        clear hCk hh hcc
        have H1' : Hid (Calls Tryd.prog 60 #[.slice a n cap, .int .i64 k] wr fun e w' => e = .returned (.bool true) ∧ w' = wr) := H1
        have H2' : Hid (Calls Tryd.prog 60 #[.slice a' m cap', .int .i64 k] wr fun e w' => e = .returned (.bool c) ∧ w' = wr) := H2
        clear H1 H2
        go_wp2_with fail
        refine H1'.out.mono ?_
        rintro e w1 ⟨rfl, rfl⟩
        go_wp2_with fail
        refine H2'.out.mono ?_
        rintro e w1 ⟨rfl, rfl⟩
        clear H1' H2'
        go_wp2
        go_roundw
        case rel => exact ⟨k + 1, by omega, by go_num, bool_step hrow HC.out, hB.setCell (by simp) _⟩
        case measure => simp [intOf]; omega
      · have hh' : hasB n L H k = false := Bool.eq_false_iff.2 hh
        have HC : Hid (false = C k) := by rw [hCk, hh']; simp [Hid]
        rw [hh'] at H1
        clear hCk hh hh' H2
        have H1' : Hid (Calls Tryd.prog 60 #[.slice a n cap, .int .i64 k] wr fun e w' => e = .returned (.bool false) ∧ w' = wr) := H1
        clear H1
        go_wp2_with fail
        refine H1'.out.mono ?_
        rintro e w1 ⟨rfl, rfl⟩
        clear H1'
        go_wp2
        go_roundw
        case rel => exact ⟨k + 1, by omega, by go_num, bool_step hrow HC.out, hB.setCell (by simp) _⟩
        case measure => simp [intOf]; omega
    · have hin : wr.rowIs w.heap.size 4 256 (fun i => .bool (C i)) := hrow.congr (fun j hj => by rw [if_pos (by omega)])
      clear hrow
      by_cases h1 : okB n L H = true
      · by_cases h2 : okB m L' H' = true
        · have HR : Hid (R = runs C 256) := by rw [hR.out, h1, h2]; simp [setR, Hid]
          have O2 : ∀ w1, Below wr.heap.size wr w1 → Calls Tryd.prog 56 #[.slice a' m cap'] w1 fun e w' => e = .returned (.bool true) ∧ Below w1.heap.size w1 w' := fun w1 hb1 => by
            have h := specSetOk_any a' b' off' cap' m L' H' w1 hga' ((hc'.below hB).below hb1) hm
            rwa [h2] at h
          have O1 := specSetOk_any a b off cap n L H wr hga (hc.below hB) hn
          rw [h1] at O1
          have O1' : Hid (Calls Tryd.prog 56 #[.slice a n cap] wr fun e w' => e = .returned (.bool true) ∧ Below wr.heap.size wr w') := O1
          have O2' : Hid (∀ w1, Below wr.heap.size wr w1 → Calls Tryd.prog 56 #[.slice a' m cap'] w1 fun e w' => e = .returned (.bool true) ∧ Below w1.heap.size w1 w') := O2
          clear O1 O2 h1 h2
          go_wp2_with fail
          refine O1'.out.mono ?_
          rintro e w1 ⟨rfl, hb1⟩
          go_wp2_with fail
          refine (O2'.out w1 hb1).mono ?_
          rintro e w2 ⟨rfl, hb2⟩
          go_wp2_with fail
          refine (l1Of_any w.heap.size 256 C w2 (row_below (row_below hin hb1) hb2)).mono ?_
          rintro e w3 ⟨v, rfl, ho, hb3⟩
          have hB1 := hB.trans (hb1.mono hB.size)
          have hB2 := hB1.trans (hb2.mono hB1.size)
          have hB3 := hB2.trans (hb3.mono hB2.size)
          go_wp2
          go_ret
          exact ⟨v, rfl, by rw [HR.out]; exact ownsRow_down ho hB2.size, hB3⟩
        · have h2' : okB m L' H' = false := Bool.eq_false_iff.2 h2
          have HR : Hid (R = []) := by rw [hR.out, h1, h2']; simp [setR, Hid]
          have O2 : ∀ w1, Below wr.heap.size wr w1 → Calls Tryd.prog 56 #[.slice a' m cap'] w1 fun e w' => e = .returned (.bool false) ∧ Below w1.heap.size w1 w' := fun w1 hb1 => by
            have h := specSetOk_any a' b' off' cap' m L' H' w1 hga' ((hc'.below hB).below hb1) hm
            rwa [h2'] at h
          have O1 := specSetOk_any a b off cap n L H wr hga (hc.below hB) hn
          rw [h1] at O1
          have O1' : Hid (Calls Tryd.prog 56 #[.slice a n cap] wr fun e w' => e = .returned (.bool true) ∧ Below wr.heap.size wr w') := O1
          have O2' : Hid (∀ w1, Below wr.heap.size wr w1 → Calls Tryd.prog 56 #[.slice a' m cap'] w1 fun e w' => e = .returned (.bool false) ∧ Below w1.heap.size w1 w') := O2
          clear O1 O2 h1 h2 h2'
          go_wp2_with fail
          refine O1'.out.mono ?_
          rintro e w1 ⟨rfl, hb1⟩
          go_wp2_with fail
          refine (O2'.out w1 hb1).mono ?_
          rintro e w2 ⟨rfl, hb2⟩
          have hB1 := hB.trans (hb1.mono hB.size)
          have hB2 := hB1.trans (hb2.mono hB1.size)
          go_wp2
          go_ret
          exact ⟨_, rfl, by rw [HR.out]; exact ownsRow_down (empty_row w2) hB2.size, hB2.alloc hB2.size _⟩
      · have h1' : okB n L H = false := Bool.eq_false_iff.2 h1
        have HR : Hid (R = []) := by rw [hR.out, h1']; simp [setR, Hid]
        have O1 := specSetOk_any a b off cap n L H wr hga (hc.below hB) hn
        rw [h1'] at O1
        have O1' : Hid (Calls Tryd.prog 56 #[.slice a n cap] wr fun e w' => e = .returned (.bool false) ∧ Below wr.heap.size wr w') := O1
        clear O1 h1 h1'
        go_wp2_with fail
        refine O1'.out.mono ?_
        rintro e w1 ⟨rfl, hb1⟩
        have hB1 := hB.trans (hb1.mono hB.size)
        go_wp2
        go_ret
        exact ⟨_, rfl, by rw [HR.out]; exact ownsRow_down (empty_row w1) hB1.size, hB1.alloc hB1.size _⟩

end Go.Proofs.YtolddecfibdblaaDoor

