/- the walk of find -/
import Derived.Test.YtplpdikkkbiacaaGreatDoorMj
import Derived.Deep.RegionHeld
namespace Go.Proofs.YtplpdikkkbiacaaGreatDoor
open Go.RowKit
set_option linter.unusedVariables false
set_option linter.unusedSimpArgs false

/-- where the pieces end that begin at i and are like the part, by what is known of others -/
def findB (t : List UInt8) (kind : Int) (n : Nat) (L H : Nat → Int) (k0 k1 : Nat) (F : Nat → Nat → Nat → Bool) (p i : Nat) : Nat → Bool :=
  if kind = 1 then byteB t n L H i
  else if kind = 2 then fun j => j == i
  else if kind = 3 then behB (F k0 i) (F k1) (t.length + 1)
  else if kind = 4 then fun j => F k0 i j || F k1 i j
  else if kind = 5 then fun j => (j == i) || behB (fun x => F k0 i x && !(x == i)) (F p) (t.length + 1) j
  else if kind = 6 then fun j => F k0 i j && F k1 i j
  else fun j => fromB i (t.length + 1) j && !F k0 i j

set_option maxRecDepth 100000 in
set_option maxHeartbeats 4000000 in
theorem find_any (mb bm N : Nat) (s : ByteArray) (hs : s.size ≤ 12) (kind : Int) (hkind : kind = 1 ∨ kind = 2 ∨ kind = 3 ∨ kind = 4 ∨ kind = 5 ∨ kind = 6 ∨ kind = 7) (a : Option Addr) (b off cap n : Nat) (L H : Nat → Int) (k0 k1 gp q c : Nat) (p i : Nat) (hpq : p < q) (hq : q ≤ 4194304) (hk0 : k0 ≤ 4194304) (hk1 : k1 ≤ 4194304) (hi : i ≤ s.size)
    (F : Nat → Nat → Nat → Bool) (w : World) (c0 : w.cell? ⟨mb, 0, none⟩ = some (.string s)) (c1 : w.cell? ⟨mb, 1, none⟩ = some (.slice (some ⟨gp, 0, none⟩) q c)) (c2 : w.cell? ⟨mb, 2, none⟩ = some (.map (some bm)))
    (d0 : w.cell? ⟨gp, p * 4, none⟩ = some (.int .i64 kind)) (d1 : w.cell? ⟨gp, p * 4 + 1, none⟩ = some (.slice a n cap)) (d2 : w.cell? ⟨gp, p * 4 + 2, none⟩ = some (.int .i64 (k0 : Int))) (d3 : w.cell? ⟨gp, p * 4 + 3, none⟩ = some (.int .i64 (k1 : Int)))
    (HM : Hid (Mp w bm N F)) (hga : 0 < n → a = some ⟨b, off, none⟩) (hc : Sp w b off n L H) (hn : n ≤ 1048576) :
    Calls Tryz.prog 81 #[.pointer (some ⟨mb, 0, none⟩), .int .i64 p, .int .i64 i] w fun e w' => e = .returned (.int .u16 (pw (findB (tx s) kind n L H k0 k1 F p i))) ∧ Below w.heap.size w w' := by
  have hpz : (p : Int) < (q : Int) := by omega
  have HO : Hid (∀ w, Calls Tryz.prog 87 #[.int .i64 (i : Int)] w fun e w' => e = .returned (.int .u16 (pw (fun j => j == i))) ∧ w' = w) := onePlace_any i (by omega)
  have HALL : Hid (∃ W : World, W = (w.alloc (.cells #[.int .i64 kind, .slice a n cap, .int .i64 (k0 : Int), .int .i64 (k1 : Int)] 151)).drew ∧ Below w.heap.size w W ∧ W.cell? ⟨w.heap.size, 0, none⟩ = some (.int .i64 kind) ∧ W.cell? ⟨w.heap.size, 1, none⟩ = some (.slice a n cap) ∧ W.cell? ⟨w.heap.size, 2, none⟩ = some (.int .i64 (k0 : Int)) ∧ W.cell? ⟨w.heap.size, 3, none⟩ = some (.int .i64 (k1 : Int)) ∧
      W.cell? ⟨mb, 0, none⟩ = some (.string s) ∧ W.cell? ⟨mb, 2, none⟩ = some (.map (some bm)) ∧ Mp W bm N F ∧ Sp W b off n L H) := by
    have hBW : Below w.heap.size w (w.alloc (.cells #[.int .i64 kind, .slice a n cap, .int .i64 (k0 : Int), .int .i64 (k1 : Int)] 151)).drew := ((Below.refl _ _).alloc (Nat.le_refl _) _).drew
    exact ⟨_, rfl, hBW, by simp [go_sem], by simp [go_sem], by simp [go_sem], by simp [go_sem], (hBW.cell (p := ⟨mb, 0, none⟩) (World.block_lt_of_cell? _ _ c0)).trans c0, (hBW.cell (p := ⟨mb, 2, none⟩) (World.block_lt_of_cell? _ _ c2)).trans c2, HM.out.kept hBW, hc.below hBW⟩
  clear hc HM c0 c2
  go_enter Tryz.func81, Tryz.ntmps81
  go_wp2_with fail
  go_region_held (fun w' => w'.cell? ⟨mb, 1, none⟩ = some (.slice (some ⟨gp, 0, none⟩) q c) ∧ w'.cell? ⟨gp, p * 4, none⟩ = some (.int .i64 kind) ∧ w'.cell? ⟨gp, p * 4 + 1, none⟩ = some (.slice a n cap) ∧ w'.cell? ⟨gp, p * 4 + 2, none⟩ = some (.int .i64 (k0 : Int)) ∧ w'.cell? ⟨gp, p * 4 + 3, none⟩ = some (.int .i64 (k1 : Int))) (go_keep) (first | (go_at_call 87; refine (HO.out _).mono ?_; rintro e w1 ⟨rfl, hw1⟩; subst w1))
  all_goals go_wp2_with fail
  all_goals
    obtain ⟨W, hW, hBW, x0, x1, x2, x3, y0, y2, hmw, hsp⟩ := HALL.out
    rw [← hW]
    clear hW c1 d0 d1 d2 d3 HO
    have HBW : Hid (Below w.heap.size w W) := hBW
    have HMW : Hid (Mp W bm N F) := hmw
    have HSP : Hid (Sp W b off n L H) := hsp
    clear hBW hmw hsp
    have l0 : (Instr.lookup 120 (.map (some bm)) (.agg #[.int .i64 (k0 : Int), .int .i64 (i : Int)]) false).run Tryz.prog W.drew = .ok (.int .u16 (pw (F k0 i) : Int)) W.drew := Mp.look (w := W.drew) HMW.out hk0 (by omega)
    go_region_held (fun w' => w'.cell? ⟨mb, 2, none⟩ = some (.map (some bm)) ∧ w'.cell? ⟨w.heap.size, 2, none⟩ = some (.int .i64 (k0 : Int)) ∧ (Instr.lookup 120 (.map (some bm)) (.agg #[.int .i64 (k0 : Int), .int .i64 (i : Int)]) false).run Tryz.prog w' = .ok (.int .u16 (pw (F k0 i) : Int)) w') (go_keep) (fail)
    all_goals go_wp2_with fail
    all_goals clear l0
    all_goals
      have l1 : (Instr.lookup 120 (.map (some bm)) (.agg #[.int .i64 (k1 : Int), .int .i64 (i : Int)]) false).run Tryz.prog W.drew.drew = .ok (.int .u16 (pw (F k1 i) : Int)) W.drew.drew := Mp.look (w := W.drew.drew) HMW.out hk1 (by omega)
      go_region_held (fun w' => w'.cell? ⟨mb, 2, none⟩ = some (.map (some bm)) ∧ w'.cell? ⟨w.heap.size, 3, none⟩ = some (.int .i64 (k1 : Int)) ∧ (Instr.lookup 120 (.map (some bm)) (.agg #[.int .i64 (k1 : Int), .int .i64 (i : Int)]) false).run Tryz.prog w' = .ok (.int .u16 (pw (F k1 i) : Int)) w') (go_keep) (fail)
    all_goals clear l1
    all_goals
      obtain ⟨W2, hW2⟩ : ∃ W2, W2 = W.drew.drew := ⟨_, rfl⟩
      have z0 : W2.cell? ⟨w.heap.size, 0, none⟩ = some (.int .i64 kind) := by rw [hW2]; exact x0
      have z1 : W2.cell? ⟨w.heap.size, 1, none⟩ = some (.slice a n cap) := by rw [hW2]; exact x1
      have z2 : W2.cell? ⟨w.heap.size, 2, none⟩ = some (.int .i64 (k0 : Int)) := by rw [hW2]; exact x2
      have z3 : W2.cell? ⟨w.heap.size, 3, none⟩ = some (.int .i64 (k1 : Int)) := by rw [hW2]; exact x3
      have HY0 : Hid (W2.cell? ⟨mb, 0, none⟩ = some (.string s)) := by rw [Hid, hW2]; exact y0
      have HY2 : Hid (W2.cell? ⟨mb, 2, none⟩ = some (.map (some bm))) := by rw [Hid, hW2]; exact y2
      have HB2 : Hid (Below w.heap.size w W2) := by rw [Hid, hW2]; exact HBW.out.drew.drew
      have HM2 : Hid (Mp W2 bm N F) := by rw [Hid, hW2]; exact HMW.out
      have HS2 : Hid (Sp W2 b off n L H) := by rw [Hid, hW2]; exact HSP.out
      have HLN : Hid ((tx s).length = s.size) := (tx_size s).symm
      rw [← hW2]
      clear hW2 x0 x1 x2 x3 y0 y2 HBW HMW HSP HALL
      rcases hkind with rfl | rfl | rfl | rfl | rfl | rfl | rfl
      · have HC : Hid (Calls Tryz.prog 88 #[.pointer (some ⟨mb, 0, none⟩), .slice a n cap, .int .i64 i] W2 fun e w' => e = .returned (.int .u16 (pw (byteB (tx s) n L H i))) ∧ Below W2.heap.size W2 w') := behindByte_any mb s hs a b off cap n L H i hi W2 HY0.out hga HS2.out hn
        clear hga
        go_wp2_with fail
        refine HC.out.mono ?_
        rintro e w3 ⟨rfl, hb3⟩
        go_wp2_with fail
        go_ret
        exact ⟨rfl, HB2.out.trans (hb3.mono HB2.out.size)⟩
      · clear hga
        go_wp2_with fail
        go_ret
        exact ⟨rfl, HB2.out⟩
      · have HC : Hid (Calls Tryz.prog 89 #[.pointer (some ⟨mb, 0, none⟩), .int .u16 (pw (F k0 i)), .int .i64 k1] W2 fun e w' => e = .returned (.int .u16 (pw (behB (F k0 i) (F k1) (s.size + 1)))) ∧ w' = W2) := behind_any mb bm N s hs (F k0 i) F k1 hk1 W2 HY0.out HY2.out HM2
        clear hga
        go_wp2_with fail
        refine HC.out.mono ?_
        rintro e w3 ⟨rfl, hw3⟩
        subst w3
        go_wp2_with fail
        go_ret
        exact ⟨by rw [← HLN.out]; rfl, HB2.out⟩
      · clear hga
        go_wp2_with fail
        go_ret
        exact ⟨congrArg Ending.returned (congrArg (Value.int .u16) (u16_or _ _)), HB2.out⟩
      · have HC : Hid (Calls Tryz.prog 89 #[.pointer (some ⟨mb, 0, none⟩), .int .u16 (pw (fun x => F k0 i x && !(x == i))), .int .i64 p] W2 fun e w' => e = .returned (.int .u16 (pw (behB (fun x => F k0 i x && !(x == i)) (F p) (s.size + 1)))) ∧ w' = W2) := behind_any mb bm N s hs _ F p (by omega) W2 HY0.out HY2.out HM2
        have HA : Hid (bits .andNot .u16 (pw (F k0 i) : Int) (pw (fun j => j == i) : Int) = (pw (fun x => F k0 i x && !(x == i)) : Int)) := u16_andNot _ _
        clear hga
        go_wp2_with fail
        rw [HA.out]
        refine HC.out.mono ?_
        rintro e w3 ⟨rfl, hw3⟩
        subst w3
        go_wp2_with fail
        go_ret
        exact ⟨by rw [← HLN.out]; exact congrArg Ending.returned (congrArg (Value.int .u16) (u16_or _ _)), HB2.out⟩
      · clear hga
        go_wp2_with fail
        go_ret
        exact ⟨congrArg Ending.returned (congrArg (Value.int .u16) (u16_and _ _)), HB2.out⟩
      · have HC : Hid (Calls Tryz.prog 90 #[.pointer (some ⟨mb, 0, none⟩), .int .i64 i] W2 fun e w' => e = .returned (.int .u16 (pw (fromB i (s.size + 1)))) ∧ w' = W2) := allFrom_any mb s hs i hi W2 HY0.out
        clear hga
        go_wp2_with fail
        refine HC.out.mono ?_
        rintro e w3 ⟨rfl, hw3⟩
        subst w3
        go_wp2_with fail
        go_ret
        exact ⟨by rw [← HLN.out]; exact congrArg Ending.returned (congrArg (Value.int .u16) (u16_andNot _ _)), HB2.out⟩
end Go.Proofs.YtplpdikkkbiacaaGreatDoor

