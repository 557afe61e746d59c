/- the walks of need, kindOf and the kinds' kids -/
import Derived.Test.YtplpdikkkbiacaaGreatDoorTg
namespace Go.Proofs.YtplpdikkkbiacaaGreatDoor
open Go.RowKit
set_option linter.unusedVariables false
set_option linter.unusedSimpArgs false

/-- the package's one error lies where it must: an interface value that is not nil -/
def Err (w : World) (t : TypeId) (a : Addr) : Prop := w.cell? ⟨1, 0, none⟩ = some (.iface t (.pointer (some a)))
theorem Err.below {w w' : World} {t : TypeId} {a : Addr} (h : Err w t a) (hb : Below w.heap.size w w') : Err w' t a := (hb.cell (p := ⟨1, 0, none⟩) (World.block_lt_of_cell? _ _ h)).trans h
/-- the panic with it -/
abbrev errChain (t : TypeId) (a : Addr) : List PanicEntry := [{ v := .iface t (.pointer (some a)), recovered := false }]

set_option maxHeartbeats 1000000 in
theorem need_true (w : World) : Calls Tryz.prog 79 #[.bool true] w fun e w' => e = .returned (.tuple #[]) ∧ w' = w := by
  go_enter Tryz.func79, Tryz.ntmps79
  go_wp2_with fail
  go_end0
  exact ⟨rfl, rfl⟩

set_option maxHeartbeats 1000000 in
theorem need_false (w : World) (t : TypeId) (a : Addr) (hE : Err w t a) : Calls Tryz.prog 79 #[.bool false] w fun e w' => e = .panicked (errChain t a) ∧ w' = w := by
  have hc : w.cell? ⟨1, 0, none⟩ = some (.iface t (.pointer (some a))) := hE
  go_enter Tryz.func79, Tryz.ntmps79
  go_wp2_with fail
  exact ⟨rfl, rfl, rfl⟩

set_option maxHeartbeats 1000000 in
theorem kindOf_1 (w : World) : Calls Tryz.prog 85 #[.int .i64 1] w fun e w' => e = .returned (.iface 170 (.agg #[])) ∧ w' = w := by
  go_enter Tryz.func85, Tryz.ntmps85
  go_wp2_with fail
  go_ret
  exact ⟨rfl, rfl⟩
set_option maxHeartbeats 1000000 in
theorem kids_1 (w : World) : Calls Tryz.prog 136 #[.agg #[]] w fun e w' => e = .returned (.int .i64 0) ∧ Below w.heap.size w w' := by
  go_enter Tryz.func136, Tryz.ntmps136
  go_wp2_with fail
  go_ret
  exact ⟨rfl, by repeat (first | exact Below.refl _ _ | refine Below.alloc ?_ (by simp <;> omega) _)⟩

set_option maxHeartbeats 1000000 in
theorem kindOf_2 (w : World) : Calls Tryz.prog 85 #[.int .i64 2] w fun e w' => e = .returned (.iface 171 (.agg #[])) ∧ w' = w := by
  go_enter Tryz.func85, Tryz.ntmps85
  go_wp2_with fail
  go_ret
  exact ⟨rfl, rfl⟩
set_option maxHeartbeats 1000000 in
theorem kids_2 (w : World) : Calls Tryz.prog 140 #[.agg #[]] w fun e w' => e = .returned (.int .i64 0) ∧ Below w.heap.size w w' := by
  go_enter Tryz.func140, Tryz.ntmps140
  go_wp2_with fail
  go_ret
  exact ⟨rfl, by repeat (first | exact Below.refl _ _ | refine Below.alloc ?_ (by simp <;> omega) _)⟩

set_option maxHeartbeats 1000000 in
theorem kindOf_3 (w : World) : Calls Tryz.prog 85 #[.int .i64 3] w fun e w' => e = .returned (.iface 172 (.agg #[])) ∧ w' = w := by
  go_enter Tryz.func85, Tryz.ntmps85
  go_wp2_with fail
  go_ret
  exact ⟨rfl, rfl⟩
set_option maxHeartbeats 1000000 in
theorem kids_3 (w : World) : Calls Tryz.prog 144 #[.agg #[]] w fun e w' => e = .returned (.int .i64 2) ∧ Below w.heap.size w w' := by
  go_enter Tryz.func144, Tryz.ntmps144
  go_wp2_with fail
  go_ret
  exact ⟨rfl, by repeat (first | exact Below.refl _ _ | refine Below.alloc ?_ (by simp <;> omega) _)⟩

set_option maxHeartbeats 1000000 in
theorem kindOf_4 (w : World) : Calls Tryz.prog 85 #[.int .i64 4] w fun e w' => e = .returned (.iface 173 (.agg #[])) ∧ w' = w := by
  go_enter Tryz.func85, Tryz.ntmps85
  go_wp2_with fail
  go_ret
  exact ⟨rfl, rfl⟩
set_option maxHeartbeats 1000000 in
theorem kids_4 (w : World) : Calls Tryz.prog 148 #[.agg #[]] w fun e w' => e = .returned (.int .i64 2) ∧ Below w.heap.size w w' := by
  go_enter Tryz.func148, Tryz.ntmps148
  go_wp2_with fail
  go_ret
  exact ⟨rfl, by repeat (first | exact Below.refl _ _ | refine Below.alloc ?_ (by simp <;> omega) _)⟩

set_option maxHeartbeats 1000000 in
theorem kindOf_5 (w : World) : Calls Tryz.prog 85 #[.int .i64 5] w fun e w' => e = .returned (.iface 174 (.agg #[])) ∧ w' = w := by
  go_enter Tryz.func85, Tryz.ntmps85
  go_wp2_with fail
  go_ret
  exact ⟨rfl, rfl⟩
set_option maxHeartbeats 1000000 in
theorem kids_5 (w : World) : Calls Tryz.prog 152 #[.agg #[]] w fun e w' => e = .returned (.int .i64 1) ∧ Below w.heap.size w w' := by
  go_enter Tryz.func152, Tryz.ntmps152
  go_wp2_with fail
  go_ret
  exact ⟨rfl, by repeat (first | exact Below.refl _ _ | refine Below.alloc ?_ (by simp <;> omega) _)⟩

set_option maxHeartbeats 1000000 in
theorem kindOf_6 (w : World) : Calls Tryz.prog 85 #[.int .i64 6] w fun e w' => e = .returned (.iface 175 (.agg #[])) ∧ w' = w := by
  go_enter Tryz.func85, Tryz.ntmps85
  go_wp2_with fail
  go_ret
  exact ⟨rfl, rfl⟩
set_option maxHeartbeats 1000000 in
theorem kids_6 (w : World) : Calls Tryz.prog 156 #[.agg #[]] w fun e w' => e = .returned (.int .i64 2) ∧ Below w.heap.size w w' := by
  go_enter Tryz.func156, Tryz.ntmps156
  go_wp2_with fail
  go_ret
  exact ⟨rfl, by repeat (first | exact Below.refl _ _ | refine Below.alloc ?_ (by simp <;> omega) _)⟩

set_option maxHeartbeats 1000000 in
theorem kindOf_7 (w : World) : Calls Tryz.prog 85 #[.int .i64 7] w fun e w' => e = .returned (.iface 176 (.agg #[])) ∧ w' = w := by
  go_enter Tryz.func85, Tryz.ntmps85
  go_wp2_with fail
  go_ret
  exact ⟨rfl, rfl⟩
set_option maxHeartbeats 1000000 in
theorem kids_7 (w : World) : Calls Tryz.prog 160 #[.agg #[]] w fun e w' => e = .returned (.int .i64 1) ∧ Below w.heap.size w w' := by
  go_enter Tryz.func160, Tryz.ntmps160
  go_wp2_with fail
  go_ret
  exact ⟨rfl, by repeat (first | exact Below.refl _ _ | refine Below.alloc ?_ (by simp <;> omega) _)⟩

/-- the type of a kind -/
def kindT (k : Int) : TypeId := 169 + k.toNat
/-- the function that tells its kids -/
def kidsF (k : Int) : FuncId := 136 - 4 + 4 * k.toNat

theorem kind_cases {k : Int} (h : kidsOf k ≠ -1) : k = 1 ∨ k = 2 ∨ k = 3 ∨ k = 4 ∨ k = 5 ∨ k = 6 ∨ k = 7 := by
  by_cases h1 : k = 1; · exact .inl h1
  by_cases h2 : k = 2; · exact .inr (.inl h2)
  by_cases h3 : k = 3; · exact .inr (.inr (.inl h3))
  by_cases h4 : k = 4; · exact .inr (.inr (.inr (.inl h4)))
  by_cases h5 : k = 5; · exact .inr (.inr (.inr (.inr (.inl h5))))
  by_cases h6 : k = 6; · exact .inr (.inr (.inr (.inr (.inr (.inl h6)))))
  by_cases h7 : k = 7; · exact .inr (.inr (.inr (.inr (.inr (.inr h7)))))
  exact absurd (kidsOf_other h1 h2 h3 h4 h5 h6 h7) h

theorem kindOf_ok (k : Int) (h : kidsOf k ≠ -1) (w : World) : Calls Tryz.prog 85 #[.int .i64 k] w fun e w' => e = .returned (.iface (kindT k) (.agg #[])) ∧ w' = w := by
  rcases kind_cases h with rfl | rfl | rfl | rfl | rfl | rfl | rfl
  · exact kindOf_1 w
  · exact kindOf_2 w
  · exact kindOf_3 w
  · exact kindOf_4 w
  · exact kindOf_5 w
  · exact kindOf_6 w
  · exact kindOf_7 w
theorem kids_ok (k : Int) (h : kidsOf k ≠ -1) (w : World) : Calls Tryz.prog (kidsF k) #[.agg #[]] w fun e w' => e = .returned (.int .i64 (kidsOf k)) ∧ Below w.heap.size w w' := by
  rcases kind_cases h with rfl | rfl | rfl | rfl | rfl | rfl | rfl
  · exact kids_1 w
  · exact kids_2 w
  · exact kids_3 w
  · exact kids_4 w
  · exact kids_5 w
  · exact kids_6 w
  · exact kids_7 w

set_option maxHeartbeats 1000000 in
theorem kindOf_bad (k : Int) (h : kidsOf k = -1) (w : World) (t : TypeId) (a : Addr) (hE : Err w t a) : Calls Tryz.prog 85 #[.int .i64 k] w fun e w' => e = .panicked (errChain t a) ∧ w' = w := by
  have hc : w.cell? ⟨1, 0, none⟩ = some (.iface t (.pointer (some a))) := hE
  have b1 : (k == 1) = false := by simp only [beq_eq_false_iff_ne]; rintro rfl; revert h; decide
  have b2 : (k == 2) = false := by simp only [beq_eq_false_iff_ne]; rintro rfl; revert h; decide
  have b3 : (k == 3) = false := by simp only [beq_eq_false_iff_ne]; rintro rfl; revert h; decide
  have b4 : (k == 4) = false := by simp only [beq_eq_false_iff_ne]; rintro rfl; revert h; decide
  have b5 : (k == 5) = false := by simp only [beq_eq_false_iff_ne]; rintro rfl; revert h; decide
  have b6 : (k == 6) = false := by simp only [beq_eq_false_iff_ne]; rintro rfl; revert h; decide
  have b7 : (k == 7) = false := by simp only [beq_eq_false_iff_ne]; rintro rfl; revert h; decide
  clear h
  go_enter Tryz.func85, Tryz.ntmps85
  go_wp2_with fail
  exact ⟨rfl, rfl, rfl⟩

end Go.Proofs.YtplpdikkkbiacaaGreatDoor

