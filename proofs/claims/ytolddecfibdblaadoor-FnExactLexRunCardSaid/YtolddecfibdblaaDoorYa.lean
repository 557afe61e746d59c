/- lists of sets: what lies in memory; the walks of szSpanSS, toSpanSS, eqSpanSS -/
import Derived.Test.YtolddecfibdblaaDoorWa
namespace Go.Proofs.YtolddecfibdblaaDoor
open Go.RowKit
set_option linter.unusedVariables false
set_option linter.unusedSimpArgs false

set_option maxHeartbeats 400000 in
theorem eqSpanS_any (a a' : Option Addr) (b off cap n b' off' cap' m : Nat) (L H L' H' : Nat → Int) (w : World) (hga : 0 < n → a = some ⟨b, off, none⟩) (hc : Sp w b off n L H)
    (hga' : 0 < m → a' = some ⟨b', off', none⟩) (hc' : Sp w b' off' m L' H') (hn : n ≤ 4194304) (hm : m ≤ 4194304) :
    Calls Tryd.prog 52 #[.slice a n cap, .slice a' m cap'] w fun e w' => e = .returned (.bool (eqB n L H m L' H')) ∧ Below w.heap.size w w' := by
  by_cases hnm : n = m
  · subst hnm
    have hnn : ((n : Int) != (n : Int)) = false := by simp
    go_enter Tryd.func52, Tryd.ntmps52
    go_wp2
    go_loopw [5] (fun i wr => ∃ k : Nat, k ≤ n ∧ i = .int .i64 k ∧ (∀ j, j < k → L j = L' j ∧ H j = H' j) ∧ Below w.heap.size w wr) (fun i _ => n - (intOf i).toNat)
    case atStart => exact ⟨0, Nat.zero_le _, rfl, fun j hj => absurd hj (Nat.not_lt_zero _), Below.refl _ _⟩
    case round =>
      obtain ⟨k, hk, rfl, hall, hB⟩ := hrel
      have Hall : Hid (∀ j, j < k → L j = L' j ∧ H j = H' j) := hall
      clear hall
      by_cases hlt : k < n
      · obtain rfl := hga (by omega)
        obtain rfl := hga' (by omega)
        have hltz : (k : Int) < (n : Int) := by omega
        obtain ⟨c1, c2⟩ := (hc.below hB) k hlt
        obtain ⟨c3, c4⟩ := (hc'.below hB) k hlt
        go_wp2_with fail
        go_region_with (go_at_call 69; refine (eqSpan_any _ _ _ _ _).mono ?_; rintro e w1 ⟨rfl, hb1⟩)
        all_goals go_wp2
        all_goals first
          | (go_roundw; case rel => exact ⟨k + 1, by omega, by go_num, eq_step Hall.out (by assumption), hB.drew.trans (hb1.mono hB.size)⟩
             case measure => simp [intOf]; omega)
          | (go_ret; exact ⟨ret_bool (eqB_at' hlt (by assumption)).symm, hB.drew.trans (hb1.mono hB.size)⟩)
      · go_wp2
        go_ret
        obtain rfl : k = n := by omega
        exact ⟨ret_bool (eqB_all Hall.out).symm, hB⟩
  · have hnn : ((n : Int) != (m : Int)) = true := by simp; omega
    go_enter Tryd.func52, Tryd.ntmps52
    go_wp2
    go_ret
    exact ⟨ret_bool (eqB_len hnm).symm, Below.refl _ _⟩
end Go.Proofs.YtolddecfibdblaaDoor
namespace Go.Proofs.YtolddecfibdblaaDoor
open Go.RowKit
set_option linter.unusedVariables false
set_option linter.unusedSimpArgs false

/-- a list of sets: where each lies and what it is -/
structure Nest where
  a : Nat → Option Addr
  b : Nat → Nat
  off : Nat → Nat
  cap : Nat → Nat
  n : Nat → Nat
  L : Nat → Nat → Int
  H : Nat → Nat → Int
/-- n sets lie in block b from off on, one cell each -/
def SS (w : World) (b off n : Nat) (N : Nest) : Prop :=
  ∀ i, i < n → w.cell? ⟨b, off + i, none⟩ = some (.slice (N.a i) (N.n i) (N.cap i)) ∧ (0 < N.n i → N.a i = some ⟨N.b i, N.off i, none⟩) ∧ Sp w (N.b i) (N.off i) (N.n i) (N.L i) (N.H i)
theorem SS.below {w w' : World} {b off n : Nat} {N : Nest} (h : SS w b off n N) (hb : Below w.heap.size w w') : SS w' b off n N := by
  intro i hi
  obtain ⟨h1, h2, h3⟩ := h i hi
  exact ⟨(hb.cell (p := ⟨b, _, none⟩) (World.block_lt_of_cell? _ _ h1)).trans h1, h2, h3.below hb⟩

/-- how many spans the first k have together -/
def tot (n : Nat → Nat) : Nat → Nat
  | 0 => 0
  | k + 1 => tot n k + n k
theorem tot_le (n : Nat → Nat) {j k : Nat} (h : j ≤ k) : tot n j ≤ tot n k := by
  induction k with
  | zero => have : j = 0 := by omega
            subst this; exact Nat.le_refl _
  | succ k ih =>
    by_cases e : j = k + 1
    · subst e; exact Nat.le_refl _
    · have := ih (by omega); simp only [tot]; omega
theorem tot_at (n : Nat → Nat) {j k : Nat} (h : j < k) : n j ≤ tot n k := by
  have := tot_le n (j := j + 1) (k := k) h
  simp only [tot] at this
  omega

set_option maxHeartbeats 1000000 in
theorem eqSS_any (a a' : Option Addr) (b off cap b' off' cap' n : Nat) (N N' : Nest) (w : World) (hga : 0 < n → a = some ⟨b, off, none⟩) (hga' : 0 < n → a' = some ⟨b', off', none⟩) (hc : SS w b off n N) (hc' : SS w b' off' n N') (hn : n ≤ 4194304) (hm : ∀ i, i < n → N.n i ≤ 4194304)
    (heq : ∀ i, i < n → N.n i = N'.n i ∧ ∀ j, j < N.n i → N.L i j = N'.L i j ∧ N.H i j = N'.H i j) :
    Calls Tryd.prog 32 #[.slice a n cap, .slice a' n cap'] w fun e w' => e = .returned (.bool true) ∧ Below w.heap.size w w' := by
  have HEQ : Hid (∀ i, i < n → N.n i = N'.n i ∧ ∀ j, j < N.n i → N.L i j = N'.L i j ∧ N.H i j = N'.H i j) := heq
  clear heq
  have hnn : ((n : Int) != (n : Int)) = false := by simp
  go_enter Tryd.func32, Tryd.ntmps32
  go_wp2
  go_loopw [5] (fun i wr => ∃ k : Nat, k ≤ n ∧ i = .int .i64 k ∧ Below w.heap.size w wr) (fun i _ => n - (intOf i).toNat)
  case atStart => exact ⟨0, Nat.zero_le _, rfl, Below.refl _ _⟩
  case round =>
    obtain ⟨k, hk, rfl, hB⟩ := hrel
    by_cases hlt : k < n
    · obtain rfl := hga (by omega)
      obtain rfl := hga' (by omega)
      have hltz : (k : Int) < (n : Int) := by omega
      obtain ⟨c1, g1, s1⟩ := (hc.below hB) k hlt
      obtain ⟨c2, g2, s2⟩ := (hc'.below hB) k hlt
      have hcall : Calls Tryd.prog 52 #[.slice (N.a k) (N.n k) (N.cap k), .slice (N'.a k) (N'.n k) (N'.cap k)] wr.drew fun e w' => e = .returned (.bool true) ∧ Below wr.heap.size wr w' := by
        obtain ⟨e1, e2⟩ := HEQ.out k hlt
        have h := eqSpanS_any (N.a k) (N'.a k) (N.b k) (N.off k) (N.cap k) (N.n k) (N'.b k) (N'.off k) (N'.cap k) (N'.n k) (N.L k) (N.H k) (N'.L k) (N'.H k) wr.drew g1 s1 g2 s2 (hm k hlt) (by rw [← e1]; exact hm k hlt)
        have hq : eqB (N.n k) (N.L k) (N.H k) (N'.n k) (N'.L k) (N'.H k) = true := by rw [← e1]; exact eqB_all e2
        rw [hq] at h
        exact h.mono fun e w' ⟨h1, h2⟩ => ⟨h1, ⟨h2.os, h2.tape, h2.output, h2.size, h2.block⟩⟩
      have hcall0 : Calls Tryd.prog 52 #[.slice (N.a k) (N.n k) (N.cap k), .slice (N'.a k) (N'.n k) (N'.cap k)] wr fun e w' => e = .returned (.bool true) ∧ Below wr.heap.size wr w' := by
        obtain ⟨e1, e2⟩ := HEQ.out k hlt
        have h := eqSpanS_any (N.a k) (N'.a k) (N.b k) (N.off k) (N.cap k) (N.n k) (N'.b k) (N'.off k) (N'.cap k) (N'.n k) (N.L k) (N.H k) (N'.L k) (N'.H k) wr g1 s1 g2 s2 (hm k hlt) (by rw [← e1]; exact hm k hlt)
        have hq : eqB (N.n k) (N.L k) (N.H k) (N'.n k) (N'.L k) (N'.H k) = true := by rw [← e1]; exact eqB_all e2
        rwa [hq] at h
      go_wp2_with fail
      go_region_with (go_at_call 52; (first | refine hcall.mono ?_ | refine hcall0.mono ?_); rintro e w1 ⟨rfl, hb1⟩)
      all_goals go_wp2
      all_goals
        (go_roundw
         case rel => exact ⟨k + 1, by omega, by go_num, hB.trans (hb1.mono hB.size)⟩
         case measure => simp [intOf]; omega)
    · have hltz : ¬ ((k : Int) < (n : Int)) := by omega
      go_wp2
      go_ret
      exact ⟨rfl, hB⟩
end Go.Proofs.YtolddecfibdblaaDoor

