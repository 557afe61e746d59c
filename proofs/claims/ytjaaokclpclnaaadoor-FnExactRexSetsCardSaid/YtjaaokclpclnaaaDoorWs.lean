/- the walk of spanText -/
import Derived.Test.YtjaaokclpclnaaaDoorWr
import Derived.Test.YtjaaokclpclnaaaDoorOpen
import Derived.Lib.AppendIntMem
namespace Go.Proofs.YtjaaokclpclnaaaDoor
open Go.RowKit
set_option linter.unusedVariables false
set_option linter.unusedSimpArgs false

/-- a number of 64 bits -/
def In64 (x : Int) : Prop := -9223372036854775808 ≤ x ∧ x ≤ 9223372036854775807

/-- the name of the library's table of powers of ten, as the row has it -/
abbrev powName : String := (Rows.fnExactRexTextRow.named.drop 1).headD ""
theorem gPow : Tryd.prog.globalNamed powName = some 2 := by kernel_rfl

/-- that table lies where it must -/
def Pow (w : World) : Prop := 2 < w.heap.size ∧ Lib.TabIs Tryd.prog w powName .u64 Lib.pow10Tab
theorem Pow.below {w w' : World} (h : Pow w) (hb : Below w.heap.size w w') : Pow w' :=
  ⟨Nat.lt_of_lt_of_le h.1 hb.size, var?_below hb gPow h.1 h.2⟩

theorem itoa_any (n : Int) (w : World) (hn : In64 n) (hp : Pow w) :
    Calls Tryd.prog 63 #[.int .i64 n] w fun e w' => ∃ s, e = .returned (.string s) ∧ tx s = Lib.itoa n ∧ Below w.heap.size w w' := by
  refine (show Calls Tryd.prog 63 #[.int .i64 n] w fun e w' => e = .returned (.string ⟨(Lib.itoa n).toArray⟩) ∧ ∃ k os, w' = Sort.grow (w.drewN k) os from Any.strconv_Itoa Tryd.laysM171 n hn.1 hn.2 w hp.2).mono ?_
  rintro e w' ⟨rfl, k, os, rfl⟩
  exact ⟨_, rfl, by simp [tx], Lib.below_grow _ _ (Nat.le_refl _) _ _⟩

/-- the text of a span -/
def spanT (x y : Int) : List UInt8 := if y = x then Lib.itoa x else Lib.itoa x ++ [45] ++ Lib.itoa y
theorem itoa_len (n : Int) (h : In64 n) : (Lib.itoa n).length ≤ 21 := Lib.itoa_length_le n h.1 h.2
theorem spanT_len (x y : Int) (hx : In64 x) (hy : In64 y) : (spanT x y).length ≤ 43 := by
  have h1 := itoa_len x hx
  have h2 := itoa_len y hy
  unfold spanT
  split
  · omega
  · simp; omega

theorem un_drew {B : Nat} {a b : World} (h : Below B a.drew b) : Below B a b := ⟨h.os, h.tape, h.output, h.size, h.block⟩
theorem size_of {s : ByteArray} {l : List UInt8} {m : Nat} (h : tx s = l) (hl : l.length ≤ m) : s.size ≤ m := by rw [tx_size, h]; exact hl

set_option maxHeartbeats 1000000 in
theorem spanText_any (x y : Int) (w : World) (hx : In64 x) (hy : In64 y) (hp : Pow w) :
    Calls Tryd.prog 58 #[.agg #[.int .i64 x, .int .i64 y]] w fun e w' => ∃ s, e = .returned (.string s) ∧ tx s = spanT x y ∧ Below w.heap.size w w' := by
  have hb0 : Below w.heap.size w (w.alloc (.cells #[.int .i64 x, .int .i64 y] 66)) := (Below.refl _ _).alloc (Nat.le_refl _) _
  have hp0 := hp.below hb0
  by_cases hxy : y = x
  · have hq : (y == x) = true := by simp [hxy]
    have HS : Hid (spanT x y = Lib.itoa x) := by show spanT x y = Lib.itoa x; rw [spanT, if_pos hxy]
    clear hxy
    go_enter Tryd.func58, Tryd.ntmps58
    go_wp2_with fail
    refine (itoa_any _ _ hx hp0).mono ?_
    rintro e w1 ⟨s, rfl, hs, hb1⟩
    have HT : Hid (tx s = Lib.itoa x) := hs
    clear hs
    go_wp2
    go_ret
    exact ⟨s, rfl, by rw [HS.out, HT.out], hb0.trans (hb1.mono hb0.size)⟩
  · have hq : (y == x) = false := by simp [hxy]
    have HS : Hid (spanT x y = Lib.itoa x ++ [45] ++ Lib.itoa y) := by show spanT x y = _; rw [spanT, if_neg hxy]
    have hlx := itoa_len x hx
    have hly := itoa_len y hy
    have BOX : Hid (∀ w', Below (w.alloc (.cells #[.int .i64 x, .int .i64 y] 66)).heap.size (w.alloc (.cells #[.int .i64 x, .int .i64 y] 66)) w' → w'.cell? ⟨w.heap.size, 0, none⟩ = some (.int .i64 x) ∧ w'.cell? ⟨w.heap.size, 1, none⟩ = some (.int .i64 y) ∧ Pow w' ∧ Below w.heap.size w w') := fun w' hb =>
      ⟨(hb.cell (p := ⟨w.heap.size, 0, none⟩) (by simp)).trans (by simp), (hb.cell (p := ⟨w.heap.size, 1, none⟩) (by simp)).trans (by simp), hp0.below hb, hb0.trans (hb.mono hb0.size)⟩
    clear hxy
    go_enter Tryd.func58, Tryd.ntmps58
    go_wp2_with fail
    go_region_with (first | (go_at_call_of 63 (Value.int IntKind.i64 x); refine (itoa_any x _ hx (by exact hp0)).mono ?_; rintro e w1 ⟨s, rfl, hs, hb1⟩; obtain ⟨q0, q1, hpA, hbA⟩ := BOX.out w1 (by first | exact hb1 | exact un_drew hb1); have hsz := size_of hs hlx) | (go_at_call_of 63 (Value.int IntKind.i64 y); refine (itoa_any y _ hy (by exact hpA)).mono ?_; rintro e w2 ⟨s2, rfl, hs2, hb2⟩; have hsz2 := size_of hs2 hly))
    all_goals go_wp2
    all_goals go_ret
    all_goals exact ⟨_, rfl, by rw [HS.out, tx_append, tx_append, hs, hs2]; rfl, hbA.trans (Below.mono (by first | exact hb2 | exact un_drew hb2) hbA.size)⟩
end Go.Proofs.YtjaaokclpclnaaaDoor
