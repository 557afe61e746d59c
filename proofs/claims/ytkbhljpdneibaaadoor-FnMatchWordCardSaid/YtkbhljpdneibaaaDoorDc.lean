/- The walks of num, of, l3Word, l15Many. -/
import Derived.Test.YtkbhljpdneibaaaDoorDb
import Derived.Deep.AppendLies
namespace Go.Proofs.YtkbhljpdneibaaaDoor
open Go.RowKit
set_option linter.unusedVariables false
set_option linter.unusedSimpArgs false

/-- one of a list is drawn -/
def OneRes (F : Nat → Value) (n rb p : Nat) (w : World) (e : Ending) (w' : World) : Prop := ∃ i, i < n ∧ e = .returned (F i) ∧ Rdr w' rb (p + 1) ∧ w.grownBy w' (some rb)

set_option maxHeartbeats 1000000 in
theorem num_any (rb p : Nat) (hp : p ≤ 1000000) (lb n c : Nat) (F : Nat → Int) (hn : 1 ≤ n) (hn2 : n ≤ 1000) (w : World) (h : Rdr w rb p) (hlb : lb ≠ rb) (hl : ∀ i, i < n → w.cell? ⟨lb, i, none⟩ = some (.int .i64 (F i))) :
    Calls Tryd.prog 30 #[.pointer (some ⟨rb, 0, none⟩), .slice (some ⟨lb, 0, none⟩) n c] w (OneRes (fun i => .int .i64 (F i)) n rb p w) := by
  have HP : Hid (Calls Tryd.prog 28 #[.pointer (some ⟨rb, 0, none⟩), .int .i64 (n : Int)] w (PickRes n rb p w)) := pick_any rb p hp n (by omega) (by omega) w h
  go_enter Tryd.func30, Tryd.ntmps30
  go_wp2_with fail
  refine HP.out.mono ?_
  rintro e w1 ⟨i, rfl, ⟨i0, i1, i2⟩, hr, hg⟩
  obtain ⟨k, rfl⟩ : ∃ k : Nat, i = (k : Int) := ⟨i.toNat, by omega⟩
  have hk : k < n := by have := i1 (by omega); omega
  have hkz : (k : Int) < (n : Int) := by omega
  have hlt : lb < w.heap.size := World.block_lt_of_cell? _ _ (hl k hk)
  have hc : w1.cell? ⟨lb, k, none⟩ = some (.int .i64 (F k)) := (hg.cell_far ⟨lb, k, none⟩ hlt (by simp [hlb])).trans (hl k hk)
  have HR : Hid (OneRes (fun i => .int .i64 (F i)) n rb p w (.returned (.int .i64 (F k))) w1) := ⟨k, hk, rfl, hr, hg⟩
  clear hl hr hg i1 i2 hlt
  go_wp2_with fail
  go_ret
  exact HR.out

set_option maxHeartbeats 1000000 in
theorem of_any (rb p : Nat) (hp : p ≤ 1000000) (lb n c : Nat) (F : Nat → ByteArray) (hn : 1 ≤ n) (hn2 : n ≤ 1000) (w : World) (h : Rdr w rb p) (hlb : lb ≠ rb) (hl : ∀ i, i < n → w.cell? ⟨lb, i, none⟩ = some (.string (F i))) :
    Calls Tryd.prog 45 #[.pointer (some ⟨rb, 0, none⟩), .slice (some ⟨lb, 0, none⟩) n c] w (OneRes (fun i => .string (F i)) n rb p w) := by
  have HP : Hid (Calls Tryd.prog 28 #[.pointer (some ⟨rb, 0, none⟩), .int .i64 (n : Int)] w (PickRes n rb p w)) := pick_any rb p hp n (by omega) (by omega) w h
  go_enter Tryd.func45, Tryd.ntmps45
  go_wp2_with fail
  refine HP.out.mono ?_
  rintro e w1 ⟨i, rfl, ⟨i0, i1, i2⟩, hr, hg⟩
  obtain ⟨k, rfl⟩ : ∃ k : Nat, i = (k : Int) := ⟨i.toNat, by omega⟩
  have hk : k < n := by have := i1 (by omega); omega
  have hkz : (k : Int) < (n : Int) := by omega
  have hlt : lb < w.heap.size := World.block_lt_of_cell? _ _ (hl k hk)
  have hc : w1.cell? ⟨lb, k, none⟩ = some (.string (F k)) := (hg.cell_far ⟨lb, k, none⟩ hlt (by simp [hlb])).trans (hl k hk)
  have HR : Hid (OneRes (fun i => .string (F i)) n rb p w (.returned (.string (F k))) w1) := ⟨k, hk, rfl, hr, hg⟩
  clear hl hr hg i1 i2 hlt
  go_wp2_with fail
  go_ret
  exact HR.out
end Go.Proofs.YtkbhljpdneibaaaDoor

