/- the walks of toDfa, eqIntS, eqIntSS, eqDfa at equal ones -/
import Derived.Test.YtolddecfibdblaaDoorJc
import Derived.Test.YtolddecfibdblaaDoorTc
namespace Go.Proofs.YtolddecfibdblaaDoor
open Go.RowKit
set_option linter.unusedVariables false
set_option linter.unusedSimpArgs false

set_option maxHeartbeats 1000000 in
theorem toDfa_any (D : Dx) (w : World) (h : DIn w D) (hm : DLe D 1048576) :
    Calls Tryd.prog 9 #[dv D] w (ToD D w) := by
  have H1 : Hid (∀ w1, Below w.heap.size w w1 → Calls Tryd.prog 27 #[.slice D.pa D.pn D.pc] w1 (ToSSRes D.pn D.P w1)) := fun w1 hb => toSS_any _ _ _ _ _ _ _ h.pg (h.p.below hb) hm.p hm.pi
  have H2 : Hid (∀ w1, Below w.heap.size w w1 → Calls Tryd.prog 28 #[.slice D.ra D.rn D.rc] w1 (ToISRes D.rn D.R w1)) := fun w1 hb => toIS_any _ _ _ _ _ _ _ h.rg (h.r.below hb) hm.r hm.ri
  have H3 : Hid (∀ w1, Below w.heap.size w w1 → Calls Tryd.prog 29 #[.slice D.aa D.an D.ac] w1 fun e w' => e = .returned (.slice (some ⟨w1.heap.size, 0, none⟩) D.an D.an) ∧ w'.rowIs w1.heap.size 3 D.an (fun j => .int .i64 (D.A j)) ∧ Below w1.heap.size w1 w') := fun w1 hb => toI_any _ _ _ _ _ _ _ h.ag (h.a.below hb) hm.a
  rw [dv]
  clear h hm
  go_enter Tryd.func9, Tryd.ntmps9
  go_wp2_with fail
  refine (H1.out _ (by repeat (first | exact Below.refl _ _ | refine Below.alloc ?_ (by simp <;> omega) _ | refine Below.setCell ?_ (by simp <;> omega) _))).mono ?_
  rintro e w1 ⟨rfl, ⟨G1, hg1⟩, hb1⟩
  have HG1 : Hid (Copy w1 (w.heap.size + 1 + 1 + 1) D.pn D.P G1) := by simpa [Hid] using hg1
  obtain ⟨hc1, hf1⟩ := bcell hb1
  have hz1 : w.heap.size + 3 ≤ w1.heap.size := by have := hb1.size; simp at this; omega
  have p1 : w1.cell? ⟨w.heap.size, 1, none⟩ = some (.slice D.ra D.rn D.rc) := by rw [hc1 _ _ (by simp <;> omega)]; simp [go_sem]
  have p2 : w1.cell? ⟨w.heap.size, 2, none⟩ = some (.slice D.aa D.an D.ac) := by rw [hc1 _ _ (by simp <;> omega)]; simp [go_sem]
  have t0 : ∀ o, o < 3 → w1.cell? ⟨w.heap.size + 1 + 1, o, none⟩ = some (.slice none 0 0) := fun o ho => by
    rw [hc1 _ _ (by simp <;> omega)]
    match o, ho with
    | 0, _ => simp [go_sem]
    | 1, _ => simp [go_sem]
    | 2, _ => simp [go_sem]
  have r0 : ∀ o, o < 3 → w1.cell? ⟨w.heap.size + 1, o, none⟩ = some (.slice none 0 0) := fun o ho => by
    rw [hc1 _ _ (by simp <;> omega)]
    match o, ho with
    | 0, _ => simp [go_sem]
    | 1, _ => simp [go_sem]
    | 2, _ => simp [go_sem]
  have ft : ∀ o, w1.frozen? ⟨w.heap.size + 1 + 1, o, none⟩ = false := fun o => by rw [hf1 _ _ (by simp <;> omega)]; simp [go_sem]
  have fr : ∀ o, w1.frozen? ⟨w.heap.size + 1, o, none⟩ = false := fun o => by rw [hf1 _ _ (by simp <;> omega)]; simp [go_sem]
  have t00 := t0 0 (by omega)
  have t01 := t0 1 (by omega)
  have t02 := t0 2 (by omega)
  have r00 := r0 0 (by omega)
  have r01 := r0 1 (by omega)
  have r02 := r0 2 (by omega)
  have HB1 : Hid (Below w.heap.size w w1) := Below.trans (by repeat (first | exact Below.refl _ _ | refine Below.alloc ?_ (by simp <;> omega) _ | refine Below.setCell ?_ (by simp <;> omega) _)) (hb1.mono (by simp; omega))
  clear hc1 hf1 hg1 t0 r0 hb1
  go_wp2_with fail
  refine (H2.out _ (HB1.out.setCell (by simp; omega) _)).mono ?_
  rintro e w2 ⟨rfl, ⟨G2, hg2⟩, hb2⟩
  obtain ⟨hc2, hf2⟩ := bcell hb2
  have hz2 : w1.heap.size ≤ w2.heap.size := by have := hb2.size; simpa using this
  have s2 : w2.cell? ⟨w.heap.size, 2, none⟩ = some (.slice D.aa D.an D.ac) := by rw [hc2 _ _ (by simp <;> omega)]; simp [go_sem, p2]
  have u0 : w2.cell? ⟨w.heap.size + 1 + 1, 0, none⟩ = some (.slice (some ⟨w.heap.size + 1 + 1 + 1, 0, none⟩) D.pn D.pn) := by rw [hc2 _ _ (by simp <;> omega)]; simp [go_sem, t00, ft]
  have u1 : w2.cell? ⟨w.heap.size + 1 + 1, 1, none⟩ = some (.slice none 0 0) := by rw [hc2 _ _ (by simp <;> omega)]; simp [go_sem, t01]
  have u2 : w2.cell? ⟨w.heap.size + 1 + 1, 2, none⟩ = some (.slice none 0 0) := by rw [hc2 _ _ (by simp <;> omega)]; simp [go_sem, t02]
  have v0 : w2.cell? ⟨w.heap.size + 1, 0, none⟩ = some (.slice none 0 0) := by rw [hc2 _ _ (by simp <;> omega)]; simp [go_sem, r00]
  have v1 : w2.cell? ⟨w.heap.size + 1, 1, none⟩ = some (.slice none 0 0) := by rw [hc2 _ _ (by simp <;> omega)]; simp [go_sem, r01]
  have v2 : w2.cell? ⟨w.heap.size + 1, 2, none⟩ = some (.slice none 0 0) := by rw [hc2 _ _ (by simp <;> omega)]; simp [go_sem, r02]
  have gt : ∀ o, w2.frozen? ⟨w.heap.size + 1 + 1, o, none⟩ = false := fun o => by rw [hf2 _ _ (by simp <;> omega)]; simp [go_sem, ft]
  have gr : ∀ o, w2.frozen? ⟨w.heap.size + 1, o, none⟩ = false := fun o => by rw [hf2 _ _ (by simp <;> omega)]; simp [go_sem, fr]
  have HB2 : Hid (Below w.heap.size w w2) := Below.trans (HB1.out.setCell (by simp; omega) _) (hb2.mono (by simp; omega))
  have HG2 : Hid (Copy w2 (w.heap.size + 1 + 1 + 1) D.pn D.P G1) := HG1.out.keep fun x hx hx' => by
    rw [hb2.block x (by simpa using hx')]
    exact Below.heap_setCell _ _ _ _ (by simp; omega)
  have HI2 : Hid (CopyI w2 w1.heap.size D.rn D.R G2) := by simpa [Hid] using hg2
  clear hc2 hf2 hg2 hb2 t00 t01 t02 r00 r01 r02 ft fr p1 p2 HG1 HB1
  go_wp2_with fail
  refine (H3.out _ (HB2.out.setCell (by simp; omega) _)).mono ?_
  rintro e w3 ⟨rfl, hg3, hb3⟩
  obtain ⟨hc3, hf3⟩ := bcell hb3
  have hz3 : w2.heap.size ≤ w3.heap.size := by have := hb3.size; simpa using this
  have u30 : w3.cell? ⟨w.heap.size + 1 + 1, 0, none⟩ = some (.slice (some ⟨w.heap.size + 1 + 1 + 1, 0, none⟩) D.pn D.pn) := by rw [hc3 _ _ (by simp <;> omega)]; simp [go_sem, u0]
  have u31 : w3.cell? ⟨w.heap.size + 1 + 1, 1, none⟩ = some (.slice (some ⟨w1.heap.size, 0, none⟩) D.rn D.rn) := by rw [hc3 _ _ (by simp <;> omega)]; simp [go_sem, u1, gt]
  have u32 : w3.cell? ⟨w.heap.size + 1 + 1, 2, none⟩ = some (.slice none 0 0) := by rw [hc3 _ _ (by simp <;> omega)]; simp [go_sem, u2]
  have v30 : w3.cell? ⟨w.heap.size + 1, 0, none⟩ = some (.slice none 0 0) := by rw [hc3 _ _ (by simp <;> omega)]; simp [go_sem, v0]
  have v31 : w3.cell? ⟨w.heap.size + 1, 1, none⟩ = some (.slice none 0 0) := by rw [hc3 _ _ (by simp <;> omega)]; simp [go_sem, v1]
  have v32 : w3.cell? ⟨w.heap.size + 1, 2, none⟩ = some (.slice none 0 0) := by rw [hc3 _ _ (by simp <;> omega)]; simp [go_sem, v2]
  have gt3 : ∀ o, w3.frozen? ⟨w.heap.size + 1 + 1, o, none⟩ = false := fun o => by rw [hf3 _ _ (by simp <;> omega)]; simp [go_sem, gt]
  have gr3 : ∀ o, w3.frozen? ⟨w.heap.size + 1, o, none⟩ = false := fun o => by rw [hf3 _ _ (by simp <;> omega)]; simp [go_sem, gr]
  have HB3 : Hid (Below w.heap.size w w3) := Below.trans (HB2.out.setCell (by simp; omega) _) (hb3.mono (by simp; omega))
  have HG3 : Hid (Copy w3 (w.heap.size + 1 + 1 + 1) D.pn D.P G1) := HG2.out.keep fun x hx hx' => by
    rw [hb3.block x (by simpa using hx')]
    exact Below.heap_setCell _ _ _ _ (by simp; omega)
  have HI3 : Hid (CopyI w3 w1.heap.size D.rn D.R G2) := HI2.out.keep fun x hx hx' => by
    rw [hb3.block x (by simpa using hx')]
    exact Below.heap_setCell _ _ _ _ (by simp; omega)
  have HJ3 : Hid (w3.rowIs w2.heap.size 3 D.an (fun j => .int .i64 (D.A j))) := by simpa [Hid] using hg3
  clear hc3 hf3 hg3 hb3 u0 u1 u2 v0 v1 v2 gt gr s2 HG2 HI2 HB2
  go_wp2_with fail
  obtain ⟨W, hW⟩ : ∃ W, ((((w3.setCell ⟨w.heap.size + 1 + 1, 2, none⟩ (.slice (some ⟨w2.heap.size, 0, none⟩) D.an D.an)).setCell ⟨w.heap.size + 1, 0, none⟩ (.slice (some ⟨w.heap.size + 1 + 1 + 1, 0, none⟩) D.pn D.pn)).setCell ⟨w.heap.size + 1, 1, none⟩ (.slice (some ⟨w1.heap.size, 0, none⟩) D.rn D.rn)).setCell ⟨w.heap.size + 1, 2, none⟩ (.slice (some ⟨w2.heap.size, 0, none⟩) D.an D.an)) = W := ⟨_, rfl⟩
  have hks : ∀ x, w.heap.size + 1 + 1 < x → W.heap[x]? = w3.heap[x]? := fun x hx => by
    rw [← hW]
    rw [Below.heap_setCell _ _ _ _ (by simp; omega), Below.heap_setCell _ _ _ _ (by simp; omega), Below.heap_setCell _ _ _ _ (by simp; omega), Below.heap_setCell _ _ _ _ (by simp; omega)]
  refine bodyPost_ret (v := .agg #[.slice (some ⟨w.heap.size + 1 + 1 + 1, 0, none⟩) D.pn D.pn, .slice (some ⟨w1.heap.size, 0, none⟩) D.rn D.rn, .slice (some ⟨w2.heap.size, 0, none⟩) D.an D.an]) (by simp [results, Tryd.results9, go_sem, v30, v31, v32, gr3]) rfl ?_
  rw [hW]
  refine ToD.mk' (HG3.out.keep fun x hx _ => hks x (by omega)) (HI3.out.keep fun x hx _ => hks x (by omega)) (HJ3.out.of_block (hks _ (by omega))) ?_
  rw [← hW]
  exact (((HB3.out.setCell (by simp; omega) _).setCell (by simp) _).setCell (by simp) _).setCell (by simp) _

set_option maxHeartbeats 400000 in
theorem eqI_any (a a' : Option Addr) (b off cap b' off' cap' n : Nat) (G G' : Nat → Int) (w : World) (hga : 0 < n → a = some ⟨b, off, none⟩) (hc : Ip w b off n G)
    (hga' : 0 < n → a' = some ⟨b', off', none⟩) (hc' : Ip w b' off' n G') (hn : n ≤ 4194304) (heq : ∀ i, i < n → G i = G' i) :
    Calls Tryd.prog 34 #[.slice a n cap, .slice a' n cap'] w fun e w' => e = .returned (.bool true) ∧ Below w.heap.size w w' := by
  have HEQ : Hid (∀ i, i < n → G i = G' i) := heq
  clear heq
  have hnn : ((n : Int) != (n : Int)) = false := by simp
  go_enter Tryd.func34, Tryd.ntmps34
  go_wp2
  go_loopw [5] (fun i wr => ∃ k : Nat, k ≤ n ∧ i = .int .i64 k ∧ Below w.heap.size w wr) (fun i _ => n - (intOf i).toNat)
  case atStart => exact ⟨0, Nat.zero_le _, rfl, Below.refl _ _⟩
  case round =>
    obtain ⟨k, hk, rfl, hB⟩ := hrel
    by_cases hlt : k < n
    · obtain rfl := hga (by omega)
      obtain rfl := hga' (by omega)
      have hltz : (k : Int) < (n : Int) := by omega
      have c1 := (hc.below hB) k hlt
      have c2 := (hc'.below hB) k hlt
      have hne : (G k != G' k) = false := by simp [HEQ.out k hlt]
      go_wp2_with fail
      go_quiet (fail)
      go_wp2
      go_roundw
      case rel => exact ⟨k + 1, by omega, by go_num, below_drewN hB _⟩
      case measure => simp [intOf]; omega
    · have hltz : ¬ ((k : Int) < (n : Int)) := by omega
      go_wp2
      go_ret
      exact ⟨rfl, hB⟩

set_option maxHeartbeats 1000000 in
theorem eqIS_any (a a' : Option Addr) (b off cap b' off' cap' n : Nat) (N N' : Nsi) (w : World) (hga : 0 < n → a = some ⟨b, off, none⟩) (hga' : 0 < n → a' = some ⟨b', off', none⟩) (hc : IS w b off n N) (hc' : IS w b' off' n N') (hn : n ≤ 4194304) (hm : ∀ i, i < n → N.n i ≤ 4194304)
    (heq : ∀ i, i < n → N.n i = N'.n i ∧ ∀ j, j < N.n i → N.G i j = N'.G i j) :
    Calls Tryd.prog 33 #[.slice a n cap, .slice a' n cap'] w fun e w' => e = .returned (.bool true) ∧ Below w.heap.size w w' := by
  have HEQ : Hid (∀ i, i < n → N.n i = N'.n i ∧ ∀ j, j < N.n i → N.G i j = N'.G i j) := heq
  clear heq
  have hnn : ((n : Int) != (n : Int)) = false := by simp
  go_enter Tryd.func33, Tryd.ntmps33
  go_wp2
  go_loopw [5] (fun i wr => ∃ k : Nat, k ≤ n ∧ i = .int .i64 k ∧ Below w.heap.size w wr) (fun i _ => n - (intOf i).toNat)
  case atStart => exact ⟨0, Nat.zero_le _, rfl, Below.refl _ _⟩
  case round =>
    obtain ⟨k, hk, rfl, hB⟩ := hrel
    by_cases hlt : k < n
    · obtain rfl := hga (by omega)
      obtain rfl := hga' (by omega)
      have hltz : (k : Int) < (n : Int) := by omega
      obtain ⟨c1, g1, s1⟩ := (hc.below hB) k hlt
      obtain ⟨c2, g2, s2⟩ := (hc'.below hB) k hlt
      have hcall : ∀ W, Below wr.heap.size wr W → Calls Tryd.prog 34 #[.slice (N.a k) (N.n k) (N.cap k), .slice (N'.a k) (N'.n k) (N'.cap k)] W fun e w' => e = .returned (.bool true) ∧ Below W.heap.size W w' := by
        intro W hW
        obtain ⟨e1, e2⟩ := HEQ.out k hlt
        have h := eqI_any (N.a k) (N'.a k) (N.b k) (N.off k) (N.cap k) (N'.b k) (N'.off k) (N'.cap k) (N.n k) (N.G k) (N'.G k) W g1 (s1.below hW) (by rw [e1]; exact g2) (by rw [e1]; exact s2.below hW) (hm k hlt) e2
        rw [e1] at h ⊢
        exact h
      have hcall1 := hcall wr.drew (Below.refl _ _).drew
      have hcall0 := hcall wr (Below.refl _ _)
      clear hcall
      go_wp2_with fail
      go_region_with (go_at_call 34; (first | refine hcall1.mono ?_ | refine hcall0.mono ?_); rintro e w1 ⟨rfl, hb1⟩)
      all_goals go_wp2
      all_goals
        (go_roundw
         case rel => first | exact ⟨k + 1, by omega, by go_num, hB.trans (hb1.mono hB.size)⟩ | exact ⟨k + 1, by omega, by go_num, hB.drew.trans (hb1.mono hB.size)⟩
         case measure => simp [intOf]; omega)
    · have hltz : ¬ ((k : Int) < (n : Int)) := by omega
      go_wp2
      go_ret
      exact ⟨rfl, hB⟩

set_option maxHeartbeats 1000000 in
theorem eqDfa_any (D D' : Dx) (w : World) (h : DIn w D) (h' : DIn w D') (hm : DLe D 4194304) (he : DEq D D') :
    Calls Tryd.prog 11 #[dv D, dv D'] w fun e w' => e = .returned (.bool true) ∧ Below w.heap.size w w' := by
  obtain ⟨⟨e1, f1⟩, ⟨e2, f2⟩, ⟨e3, f3⟩⟩ := he
  have H1 : Hid (∀ w1, Below w.heap.size w w1 → Calls Tryd.prog 32 #[.slice D.pa D.pn D.pc, .slice D'.pa D'.pn D'.pc] w1 fun e w' => e = .returned (.bool true) ∧ Below w1.heap.size w1 w') := fun w1 hb => by
    have := eqSS_any D.pa D'.pa D.pb D.poff D.pc D'.pb D'.poff D'.pc D.pn D.P D'.P w1 h.pg (by rw [e1]; exact h'.pg) (h.p.below hb) (by rw [e1]; exact h'.p.below hb) hm.p hm.pi f1
    rw [e1] at this ⊢
    exact this
  have H2 : Hid (∀ w1, Below w.heap.size w w1 → Calls Tryd.prog 33 #[.slice D.ra D.rn D.rc, .slice D'.ra D'.rn D'.rc] w1 fun e w' => e = .returned (.bool true) ∧ Below w1.heap.size w1 w') := fun w1 hb => by
    have := eqIS_any D.ra D'.ra D.rb D.roff D.rc D'.rb D'.roff D'.rc D.rn D.R D'.R w1 h.rg (by rw [e2]; exact h'.rg) (h.r.below hb) (by rw [e2]; exact h'.r.below hb) hm.r hm.ri f2
    rw [e2] at this ⊢
    exact this
  have H3 : Hid (∀ w1, Below w.heap.size w w1 → Calls Tryd.prog 34 #[.slice D.aa D.an D.ac, .slice D'.aa D'.an D'.ac] w1 fun e w' => e = .returned (.bool true) ∧ Below w1.heap.size w1 w') := fun w1 hb => by
    have := eqI_any D.aa D'.aa D.ab D.aoff D.ac D'.ab D'.aoff D'.ac D.an D.A D'.A w1 h.ag (h.a.below hb) (by rw [e3]; exact h'.ag) (by rw [e3]; exact h'.a.below hb) hm.a f3
    rw [e3] at this ⊢
    exact this
  rw [dv, dv]
  clear h h' hm e1 f1 e2 f2 e3 f3
  have hb0 : Below w.heap.size w ((w.alloc (.cells #[.slice D.pa D.pn D.pc, .slice D.ra D.rn D.rc, .slice D.aa D.an D.ac] 31)).alloc (.cells #[.slice D'.pa D'.pn D'.pc, .slice D'.ra D'.rn D'.rc, .slice D'.aa D'.an D'.ac] 31)) := ((Below.refl _ _).alloc (Nat.le_refl _) _).alloc (by simp) _
  go_enter Tryd.func11, Tryd.ntmps11
  go_wp2_with fail
  refine (H1.out _ hb0).mono ?_
  rintro e w1 ⟨rfl, hb1⟩
  obtain ⟨hc1, hf1⟩ := bcell hb1
  have p1 : w1.cell? ⟨w.heap.size, 1, none⟩ = some (.slice D.ra D.rn D.rc) := by rw [hc1 _ _ (by simp <;> omega)]; simp [go_sem]
  have p2 : w1.cell? ⟨w.heap.size, 2, none⟩ = some (.slice D.aa D.an D.ac) := by rw [hc1 _ _ (by simp <;> omega)]; simp [go_sem]
  have q1 : w1.cell? ⟨w.heap.size + 1, 1, none⟩ = some (.slice D'.ra D'.rn D'.rc) := by rw [hc1 _ _ (by simp <;> omega)]; simp [go_sem]
  have q2 : w1.cell? ⟨w.heap.size + 1, 2, none⟩ = some (.slice D'.aa D'.an D'.ac) := by rw [hc1 _ _ (by simp <;> omega)]; simp [go_sem]
  have hB1 := hb0.trans (hb1.mono hb0.size)
  have hz1 : w.heap.size + 2 ≤ w1.heap.size := by have := hb1.size; simp at this; omega
  clear hc1 hf1
  go_wp2_with fail
  refine (H2.out _ hB1).mono ?_
  rintro e w2 ⟨rfl, hb2⟩
  obtain ⟨hc2, hf2⟩ := bcell hb2
  have p3 : w2.cell? ⟨w.heap.size, 2, none⟩ = some (.slice D.aa D.an D.ac) := by rw [hc2 _ _ (by omega)]; exact p2
  have q3 : w2.cell? ⟨w.heap.size + 1, 2, none⟩ = some (.slice D'.aa D'.an D'.ac) := by rw [hc2 _ _ (by omega)]; exact q2
  have hB2 := hB1.trans (hb2.mono hB1.size)
  clear hc2 hf2 p1 p2 q1 q2
  go_wp2_with fail
  refine (H3.out _ hB2).mono ?_
  rintro e w3 ⟨rfl, hb3⟩
  go_wp2_with fail
  go_ret
  exact ⟨rfl, hB2.trans (hb3.mono hB2.size)⟩
end Go.Proofs.YtolddecfibdblaaDoor

