/- The walks of pick, num and of: whatever is drawn, it is within its bounds. -/
import Derived.Test.YtkbhljpdneibaaaDoorDa
namespace Go.Proofs.YtkbhljpdneibaaaDoor
open Go.RowKit
set_option linter.unusedVariables false
set_option linter.unusedSimpArgs false

theorem ofInt64 (a : Nat) (ha : a < 18446744073709551616) : (BitVec.ofInt 64 (a : Int)).toNat = a := by
  rw [BitVec.ofInt_natCast, BitVec.toNat_ofNat]; exact Nat.mod_eq_of_lt (by omega)
theorem i64_xor_nat (a b : Nat) (ha : a < 9223372036854775808) (hb : b < 9223372036854775808) : bits .xor .i64 (a : Int) (b : Int) = ((a ^^^ b : Nat) : Int) := by
  have hx : a ^^^ b < 2 ^ 63 := Nat.xor_lt_two_pow (by omega) (by omega)
  show IntKind.i64.wrap ((BitVec.ofInt 64 (a : Int) ^^^ BitVec.ofInt 64 (b : Int)).toNat : Int) = _
  rw [BitVec.toNat_xor, ofInt64 a (by omega), ofInt64 b (by omega), IntKind.wrap_i64]
  omega
theorem xor_bd (x : Int) (h0 : 0 ≤ x) (h1 : x ≤ 1000000000000) : 0 ≤ bits .xor .i64 x (x / 64) ∧ bits .xor .i64 x (x / 64) ≤ 9223372036854775807 := by
  have e1 : x = (x.toNat : Int) := by omega
  have e2 : x / 64 = ((x / 64).toNat : Int) := by omega
  have hx : x.toNat ^^^ (x / 64).toNat < 2 ^ 63 := Nat.xor_lt_two_pow (by omega) (by omega)
  rw [e2, e1, i64_xor_nat _ _ (by omega) (by omega)]
  rw [← e1]
  omega

/-- what a draw below N tells -/
def PickRes (N : Int) (rb p : Nat) (w : World) (e : Ending) (w' : World) : Prop := ∃ i : Int, e = .returned (.int .i64 i) ∧ (0 ≤ i ∧ (1 ≤ N → i < N) ∧ i ≤ 1000000000000) ∧ Rdr w' rb (p + 1) ∧ w.grownBy w' (some rb)
theorem PickRes.mk {N : Int} {rb p : Nat} {w w' : World} {i : Int} (h0 : 0 ≤ i) (h1 : 1 ≤ N → i < N) (h2 : i ≤ 1000000000000) (h3 : Rdr w' rb (p + 1)) (h4 : w.grownBy w' (some rb)) : PickRes N rb p w (.returned (.int .i64 i)) w' := ⟨i, rfl, ⟨h0, h1, h2⟩, h3, h4⟩

theorem Rdr.step {w : World} {rb p : Nat} (h : Rdr w rb p) : Rdr (w.setCell ⟨rb, 1, none⟩ (.int .i64 ((p : Int) + 1))) rb (p + 1) := by
  obtain ⟨a, n, c, bb, off, V, h1, h2, h3, h4⟩ := h
  refine ⟨a, n, c, bb, off, V, ?_, h2, h3, fun i hi => ⟨(h4 i hi).1, ?_⟩⟩
  · simp [World.setCell, Array.getElem?_modify, h1]
  · exact (World.cell?_of_block (w := w) (a := ⟨bb, _, none⟩) (Below.heap_setCell _ _ _ _ (by have := (h3 (by omega)).2; simp; omega))).trans (h4 i hi).2
theorem grown_set (w : World) (rb o : Nat) (v : Value) : w.grownBy (w.setCell ⟨rb, o, none⟩ v) (some rb) :=
  ⟨rfl, rfl, rfl, by simp [World.setCell], fun k hk hne => Below.heap_setCell _ _ _ _ (fun e => hne (by rw [e]))⟩

set_option maxRecDepth 100000 in
set_option maxHeartbeats 2000000 in
theorem pick_any (rb p : Nat) (hp : p ≤ 1000000) (N : Int) (hN : N ≤ 1000000) (hN2 : -1000000 ≤ N) (w : World) (h : Rdr w rb p) :
    Calls Tryd.prog 28 #[.pointer (some ⟨rb, 0, none⟩), .int .i64 N] w (PickRes N rb p w) := by
  have HR : Hid (Rdr (w.setCell ⟨rb, 1, none⟩ (.int .i64 ((p : Int) + 1))) rb (p + 1)) := h.step
  have HG : Hid (w.grownBy (w.setCell ⟨rb, 1, none⟩ (.int .i64 ((p : Int) + 1))) (some rb)) := grown_set _ _ _ _
  obtain ⟨a, n, c, bb, off, V, h1, h2, h3, h4⟩ := h
  have x0 : w.cell? ⟨rb, 0, none⟩ = some (.slice a n c) := by simp [World.cell?, h1]
  have x1 : w.cell? ⟨rb, 1, none⟩ = some (.int .i64 (p : Int)) := by simp [World.cell?, h1]
  have fz : w.frozen? ⟨rb, 1, none⟩ = false := by simp [World.frozen?, h1]
  clear h1
  by_cases hb : N < 1
  · go_enter Tryd.func28, Tryd.ntmps28
    go_wp2_with fail
    go_ret
    exact PickRes.mk (Int.le_refl _) (fun h => by omega) (by omega) HR.out HG.out
  have hb' : decide (N < 1) = false := decide_eq_false hb
  by_cases hn : n = 0
  · have hn0 : ((n : Int) == 0) = true := by simp [hn]
    subst hn
    go_enter Tryd.func28, Tryd.ntmps28
    go_wp2_with fail
    go_ret
    exact PickRes.mk (Int.le_refl _) (fun h => by omega) (by omega) HR.out HG.out
  have hn0 : ((n : Int) == 0) = false := by simp; omega
  obtain ⟨rfl, hbl⟩ := h3 (by omega)
  have hbb : bb ≠ rb := by omega
  have hcell : ∀ i, i < n → (w.setCell ⟨rb, 1, none⟩ (.int .i64 ((p : Int) + 1))).cell? ⟨bb, off + i, none⟩ = some (.int .u8 (V i : Int)) := fun i hi => (World.cell?_of_block (w := w) (a := ⟨bb, _, none⟩) (Below.heap_setCell _ _ _ _ hbb)).trans (h4 i hi).2
  by_cases hk : p < n
  · have hkz : (p : Int) < (n : Int) := by omega
    have hc0 := hcell p hk
    have hv := (h4 p hk).1
    have hv0 : (0 : Int) ≤ (V p : Int) := by omega
    have hv1 : (V p : Int) ≤ 255 := by omega
    have hN1 : (1 : Int) ≤ N := by omega
    have m0 := Int.emod_nonneg (V p : Int) (show N ≠ 0 by omega)
    have m1 := Int.emod_lt_of_pos (V p : Int) (show 0 < N by omega)
    clear hcell h4
    go_enter Tryd.func28, Tryd.ntmps28
    go_wp2_with fail
    go_ret
    exact PickRes.mk m0 (fun _ => m1) (by omega) HR.out HG.out
  · have hkz : ¬ ((p : Int) < (n : Int)) := by omega
    have hk2 : (n : Int) ≤ (p : Int) := by omega
    have hN1 : (1 : Int) ≤ N := by omega
    have hn1 : (0 : Int) < (n : Int) := by omega
    have hn2 : (n : Int) ≤ 2000 := by omega
    have i0 : p % n < n := Nat.mod_lt _ (by omega)
    have j0 : (p * 7 + 3) % n < n := Nat.mod_lt _ (by omega)
    have e1 : ((p : Int) % (n : Int)) = ((p % n : Nat) : Int) := (Int.natCast_emod p n).symm
    have e2 : (((p : Int) * 7 + 3) % (n : Int)) = (((p * 7 + 3) % n : Nat) : Int) := by rw [Int.natCast_emod]; simp
    have ci := hcell (p % n) i0
    have cj := hcell ((p * 7 + 3) % n) j0
    have vi := (h4 (p % n) i0).1
    have vj := (h4 ((p * 7 + 3) % n) j0).1
    obtain ⟨i, hi⟩ : ∃ i, i = p % n := ⟨_, rfl⟩
    obtain ⟨j, hj⟩ : ∃ j, j = (p * 7 + 3) % n := ⟨_, rfl⟩
    rw [← hi] at e1 ci vi i0
    rw [← hj] at e2 cj vj j0
    have iz : (i : Int) < (n : Int) := by omega
    have jz : (j : Int) < (n : Int) := by omega
    have vi0 : (0 : Int) ≤ (V i : Int) := by omega
    have vi1 : (V i : Int) ≤ 255 := by omega
    have vj0 : (0 : Int) ≤ (V j : Int) := by omega
    have vj1 : (V j : Int) ≤ 255 := by omega
    have q0 : 0 ≤ (p : Int) / (n : Int) := Int.ediv_nonneg (by omega) (by omega)
    have q1 : (p : Int) / (n : Int) ≤ 1000000 := by
      have := Int.ediv_le_self (n : Int) (show (0 : Int) ≤ (p : Int) by omega)
      omega
    have HX : Hid (0 ≤ bits .xor .i64 ((V i : Int) * 131 + (V j : Int) * 1117 + (p : Int) * 29 + (p : Int) / (n : Int) * 53) (((V i : Int) * 131 + (V j : Int) * 1117 + (p : Int) * 29 + (p : Int) / (n : Int) * 53) / 64) ∧ bits .xor .i64 ((V i : Int) * 131 + (V j : Int) * 1117 + (p : Int) * 29 + (p : Int) / (n : Int) * 53) (((V i : Int) * 131 + (V j : Int) * 1117 + (p : Int) * 29 + (p : Int) / (n : Int) * 53) / 64) ≤ 9223372036854775807) := xor_bd _ (by omega) (by omega)
    clear hcell h4 hi hj
    go_enter Tryd.func28, Tryd.ntmps28
    go_wp2_with fail
    go_quiet (fail)
    go_wp2_with fail
    go_ret
    have hx := HX.out.1
    generalize bits .xor .i64 ((V i : Int) * 131 + (V j : Int) * 1117 + (p : Int) * 29 + (p : Int) / (n : Int) * 53) (((V i : Int) * 131 + (V j : Int) * 1117 + (p : Int) * 29 + (p : Int) / (n : Int) * 53) / 64) = y at hx ⊢
    have r0 : 0 ≤ y.tmod N := Int.tmod_nonneg N hx
    have r1 : y.tmod N < N := Int.tmod_lt_of_pos y (by omega)
    exact PickRes.mk r0 (fun _ => r1) (by omega) (HR.out.below (below_drewN (Below.refl _ _) _)) (HG.out.trans (grown_of_below (below_drewN (Below.refl _ _) _)))
end Go.Proofs.YtkbhljpdneibaaaDoor

