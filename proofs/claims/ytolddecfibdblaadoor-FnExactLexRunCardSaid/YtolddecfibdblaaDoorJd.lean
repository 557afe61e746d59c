/- the walks of toDfa, eqIntS, eqIntSS, eqDfa at equal ones -/
import Derived.Test.YtolddecfibdblaaDoorJc
import Derived.Test.YtolddecfibdblaaDoorTe
namespace Go.Proofs.YtolddecfibdblaaDoor
open Go.RowKit
set_option linter.unusedVariables false
set_option linter.unusedSimpArgs false

set_option maxHeartbeats 400000 in
theorem eqI_any (a a' : Option Addr) (b off cap b' off' cap' n : Nat) (G G' : Nat → Int) (w : World) (hga : 0 < n → a = some ⟨b, off, none⟩) (hc : Ip w b off n G)
    (hga' : 0 < n → a' = some ⟨b', off', none⟩) (hc' : Ip w b' off' n G') (hn : n ≤ 4194304) (heq : ∀ i, i < n → G i = G' i) :
    Calls Tryd.prog 34 #[.slice a n cap, .slice a' n cap'] w fun e w' => e = .returned (.bool true) ∧ Below w.heap.size w w' := by
  have HEQ : Hid (∀ i, i < n → G i = G' i) := heq
  clear heq
  have hnn : ((n : Int) != (n : Int)) = false := by simp
  go_enter Tryd.func34, Tryd.ntmps34
  go_wp2
  go_loopw [5] (fun i wr => ∃ k : Nat, k ≤ n ∧ i = .int .i64 k ∧ Below w.heap.size w wr) (fun i _ => n - (intOf i).toNat)
  case atStart => exact ⟨0, Nat.zero_le _, rfl, Below.refl _ _⟩
  case round =>
    obtain ⟨k, hk, rfl, hB⟩ := hrel
    by_cases hlt : k < n
    · obtain rfl := hga (by omega)
      obtain rfl := hga' (by omega)
      have hltz : (k : Int) < (n : Int) := by omega
      have c1 := (hc.below hB) k hlt
      have c2 := (hc'.below hB) k hlt
      have hne : (G k != G' k) = false := by simp [HEQ.out k hlt]
      go_wp2_with fail
      go_quiet (fail)
      go_wp2
      go_roundw
      case rel => exact ⟨k + 1, by omega, by go_num, below_drewN hB _⟩
      case measure => simp [intOf]; omega
    · have hltz : ¬ ((k : Int) < (n : Int)) := by omega
      go_wp2
      go_ret
      exact ⟨rfl, hB⟩

set_option maxHeartbeats 1000000 in
theorem eqIS_any (a a' : Option Addr) (b off cap b' off' cap' n : Nat) (N N' : Nsi) (w : World) (hga : 0 < n → a = some ⟨b, off, none⟩) (hga' : 0 < n → a' = some ⟨b', off', none⟩) (hc : IS w b off n N) (hc' : IS w b' off' n N') (hn : n ≤ 4194304) (hm : ∀ i, i < n → N.n i ≤ 4194304)
    (heq : ∀ i, i < n → N.n i = N'.n i ∧ ∀ j, j < N.n i → N.G i j = N'.G i j) :
    Calls Tryd.prog 33 #[.slice a n cap, .slice a' n cap'] w fun e w' => e = .returned (.bool true) ∧ Below w.heap.size w w' := by
  have HEQ : Hid (∀ i, i < n → N.n i = N'.n i ∧ ∀ j, j < N.n i → N.G i j = N'.G i j) := heq
  clear heq
  have hnn : ((n : Int) != (n : Int)) = false := by simp
  go_enter Tryd.func33, Tryd.ntmps33
  go_wp2
  go_loopw [5] (fun i wr => ∃ k : Nat, k ≤ n ∧ i = .int .i64 k ∧ Below w.heap.size w wr) (fun i _ => n - (intOf i).toNat)
  case atStart => exact ⟨0, Nat.zero_le _, rfl, Below.refl _ _⟩
  case round =>
    obtain ⟨k, hk, rfl, hB⟩ := hrel
    by_cases hlt : k < n
    · obtain rfl := hga (by omega)
      obtain rfl := hga' (by omega)
      have hltz : (k : Int) < (n : Int) := by omega
      obtain ⟨c1, g1, s1⟩ := (hc.below hB) k hlt
      obtain ⟨c2, g2, s2⟩ := (hc'.below hB) k hlt
      have hcall : ∀ W, Below wr.heap.size wr W → Calls Tryd.prog 34 #[.slice (N.a k) (N.n k) (N.cap k), .slice (N'.a k) (N'.n k) (N'.cap k)] W fun e w' => e = .returned (.bool true) ∧ Below W.heap.size W w' := by
        intro W hW
        obtain ⟨e1, e2⟩ := HEQ.out k hlt
        have h := eqI_any (N.a k) (N'.a k) (N.b k) (N.off k) (N.cap k) (N'.b k) (N'.off k) (N'.cap k) (N.n k) (N.G k) (N'.G k) W g1 (s1.below hW) (by rw [e1]; exact g2) (by rw [e1]; exact s2.below hW) (hm k hlt) e2
        rw [e1] at h ⊢
        exact h
      have hcall1 := hcall wr.drew (Below.refl _ _).drew
      have hcall0 := hcall wr (Below.refl _ _)
      clear hcall
      go_wp2_with fail
      go_region_with (go_at_call 34; (first | refine hcall1.mono ?_ | refine hcall0.mono ?_); rintro e w1 ⟨rfl, hb1⟩)
      all_goals go_wp2
      all_goals
        (go_roundw
         case rel => first | exact ⟨k + 1, by omega, by go_num, hB.trans (hb1.mono hB.size)⟩ | exact ⟨k + 1, by omega, by go_num, hB.drew.trans (hb1.mono hB.size)⟩
         case measure => simp [intOf]; omega)
    · have hltz : ¬ ((k : Int) < (n : Int)) := by omega
      go_wp2
      go_ret
      exact ⟨rfl, hB⟩

set_option maxHeartbeats 1000000 in
theorem eqDfa_any (D D' : Dx) (w : World) (h : DIn w D) (h' : DIn w D') (hm : DLe D 4194304) (he : DEq D D') :
    Calls Tryd.prog 11 #[dv D, dv D'] w fun e w' => e = .returned (.bool true) ∧ Below w.heap.size w w' := by
  obtain ⟨⟨e1, f1⟩, ⟨e2, f2⟩, ⟨e3, f3⟩⟩ := he
  have H1 : Hid (∀ w1, Below w.heap.size w w1 → Calls Tryd.prog 32 #[.slice D.pa D.pn D.pc, .slice D'.pa D'.pn D'.pc] w1 fun e w' => e = .returned (.bool true) ∧ Below w1.heap.size w1 w') := fun w1 hb => by
    have := eqSS_any D.pa D'.pa D.pb D.poff D.pc D'.pb D'.poff D'.pc D.pn D.P D'.P w1 h.pg (by rw [e1]; exact h'.pg) (h.p.below hb) (by rw [e1]; exact h'.p.below hb) hm.p hm.pi f1
    rw [e1] at this ⊢
    exact this
  have H2 : Hid (∀ w1, Below w.heap.size w w1 → Calls Tryd.prog 33 #[.slice D.ra D.rn D.rc, .slice D'.ra D'.rn D'.rc] w1 fun e w' => e = .returned (.bool true) ∧ Below w1.heap.size w1 w') := fun w1 hb => by
    have := eqIS_any D.ra D'.ra D.rb D.roff D.rc D'.rb D'.roff D'.rc D.rn D.R D'.R w1 h.rg (by rw [e2]; exact h'.rg) (h.r.below hb) (by rw [e2]; exact h'.r.below hb) hm.r hm.ri f2
    rw [e2] at this ⊢
    exact this
  have H3 : Hid (∀ w1, Below w.heap.size w w1 → Calls Tryd.prog 34 #[.slice D.aa D.an D.ac, .slice D'.aa D'.an D'.ac] w1 fun e w' => e = .returned (.bool true) ∧ Below w1.heap.size w1 w') := fun w1 hb => by
    have := eqI_any D.aa D'.aa D.ab D.aoff D.ac D'.ab D'.aoff D'.ac D.an D.A D'.A w1 h.ag (h.a.below hb) (by rw [e3]; exact h'.ag) (by rw [e3]; exact h'.a.below hb) hm.a f3
    rw [e3] at this ⊢
    exact this
  rw [dv, dv]
  clear h h' hm e1 f1 e2 f2 e3 f3
  have hb0 : Below w.heap.size w ((w.alloc (.cells #[.slice D.pa D.pn D.pc, .slice D.ra D.rn D.rc, .slice D.aa D.an D.ac] 31)).alloc (.cells #[.slice D'.pa D'.pn D'.pc, .slice D'.ra D'.rn D'.rc, .slice D'.aa D'.an D'.ac] 31)) := ((Below.refl _ _).alloc (Nat.le_refl _) _).alloc (by simp) _
  go_enter Tryd.func11, Tryd.ntmps11
  go_wp2_with fail
  refine (H1.out _ hb0).mono ?_
  rintro e w1 ⟨rfl, hb1⟩
  obtain ⟨hc1, hf1⟩ := bcell hb1
  have p1 : w1.cell? ⟨w.heap.size, 1, none⟩ = some (.slice D.ra D.rn D.rc) := by rw [hc1 _ _ (by simp <;> omega)]; simp [go_sem]
  have p2 : w1.cell? ⟨w.heap.size, 2, none⟩ = some (.slice D.aa D.an D.ac) := by rw [hc1 _ _ (by simp <;> omega)]; simp [go_sem]
  have q1 : w1.cell? ⟨w.heap.size + 1, 1, none⟩ = some (.slice D'.ra D'.rn D'.rc) := by rw [hc1 _ _ (by simp <;> omega)]; simp [go_sem]
  have q2 : w1.cell? ⟨w.heap.size + 1, 2, none⟩ = some (.slice D'.aa D'.an D'.ac) := by rw [hc1 _ _ (by simp <;> omega)]; simp [go_sem]
  have hB1 := hb0.trans (hb1.mono hb0.size)
  have hz1 : w.heap.size + 2 ≤ w1.heap.size := by have := hb1.size; simp at this; omega
  clear hc1 hf1
  go_wp2_with fail
  refine (H2.out _ hB1).mono ?_
  rintro e w2 ⟨rfl, hb2⟩
  obtain ⟨hc2, hf2⟩ := bcell hb2
  have p3 : w2.cell? ⟨w.heap.size, 2, none⟩ = some (.slice D.aa D.an D.ac) := by rw [hc2 _ _ (by omega)]; exact p2
  have q3 : w2.cell? ⟨w.heap.size + 1, 2, none⟩ = some (.slice D'.aa D'.an D'.ac) := by rw [hc2 _ _ (by omega)]; exact q2
  have hB2 := hB1.trans (hb2.mono hB1.size)
  clear hc2 hf2 p1 p2 q1 q2
  go_wp2_with fail
  refine (H3.out _ hB2).mono ?_
  rintro e w3 ⟨rfl, hb3⟩
  go_wp2_with fail
  go_ret
  exact ⟨rfl, hB2.trans (hb3.mono hB2.size)⟩
end Go.Proofs.YtolddecfibdblaaDoor

