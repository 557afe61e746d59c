/- the walk of impl.SetText -/
import Derived.Test.YtjaaokclpclnaaaDoorWt
namespace Go.Proofs.YtjaaokclpclnaaaDoor
open Go.RowKit
set_option linter.unusedVariables false
set_option linter.unusedSimpArgs false

theorem Tryd.info9 : (Tryd.prog.info? 9).map (fun i => (i.zero, i.size, i.bytes)) = some (some (.string ⟨#[]⟩), 1, 16) := by kernel_rfl

theorem make54 (n : Nat) (hn : n ≤ 1048576) (w : World) : (Instr.makeSlice 56 (.int .i64 n) (.int .i64 n)).run Tryd.prog w = .ok (.slice (some ⟨w.heap.size, 0, none⟩) n n) (w.alloc (.cells (madeCells #[.string ⟨#[]⟩] n) 9)) := by
  obtain ⟨i0, hi, hz0, hz1, hz2⟩ := info_parts Tryd.info9
  have h := run_make (P := Tryd.prog) w 56 9 i0 _ Tryd.underlying56 hi hz0 .i64 .i64 n n (by omega) (by omega) (by rw [hz2]; omega) (by omega)
  rw [hz1] at h
  simpa [Value.cells] using h

/-- the text of span j -/
def spanB (L H : Nat → Int) (j : Nat) : ByteArray := ⟨(spanT (L j) (H j)).toArray⟩
theorem tx_spanB (L H : Nat → Int) (j : Nat) : tx (spanB L H j) = spanT (L j) (H j) := by simp [tx, spanB]

theorem made_rowS (w : World) (n : Nat) (L H : Nat → Int) : (w.alloc (.cells (madeCells #[.string ⟨#[]⟩] n) 9)).rowIs w.heap.size 9 n (fun j => if j < 0 then .string (spanB L H j) else .string ⟨#[]⟩) := by
  have h := World.rowIs_alloc w (madeCells #[.string ⟨#[]⟩] n) 9 (fun _ => .string ⟨#[]⟩) (fun i hi => by
    rw [size_madeCells] at hi
    simp only [madeCells, Array.getElem?_map]
    rw [Array.getElem?_range, if_pos hi]
    simp [Nat.mod_one])
  rw [size_madeCells] at h
  exact h.congr (fun i _ => by simp)

theorem spans_map (L H : Nat → Int) (n : Nat) : ((List.range n).map (spanB L H)).map (·.data.toList) = spansT L H n := by
  rw [List.map_map]
  rfl

theorem join_any (bk n : Nat) (L H : Nat → Int) (w : World) (hrow : w.rowIs bk 9 n (fun j => .string (spanB L H j))) (hin : ∀ i, i < n → In64 (L i) ∧ In64 (H i)) (hn : n ≤ 1048576) :
    Calls Tryd.prog 46 #[.slice (some ⟨bk, 0, none⟩) n n, .string ⟨#[44]⟩] w fun e w' => ∃ s, e = .returned (.string s) ∧ tx s = joinT L H n ∧ Below w.heap.size w w' := by
  have hl : ((List.range n).map (spanB L H)).length = n := by simp
  have hj := joinT_len L H n hin
  have h := Any.strings_Join Tryd.lays156 Tryd.Builder_Extra_156 bk 0 n ((List.range n).map (spanB L H)) ⟨#[44]⟩ w
    (fun j x hx => by
      rw [List.getElem?_map] at hx
      by_cases hjn : j < n
      · rw [List.getElem?_range hjn] at hx
        obtain rfl := Option.some.inj hx
        rw [Nat.zero_add]
        exact hrow.cell hjn
      · rw [List.getElem?_eq_none (by simp; omega)] at hx
        cases hx)
    hrow.lt (by rw [hl]; omega) (by rw [hl]; exact Nat.le_refl _)
    (by rw [spans_map]; exact Nat.le_trans hj (by omega))
  rw [hl, spans_map] at h
  refine (show Calls Tryd.prog 46 #[.slice (some ⟨bk, 0, none⟩) n n, .string ⟨#[44]⟩] w fun e w' => e = .returned (.string ⟨(joinT L H n).toArray⟩) ∧ Below w.heap.size w w' from h).mono ?_
  rintro e w' ⟨rfl, hb⟩
  exact ⟨_, rfl, by simp [tx], hb⟩

theorem rowS_step {w : World} {b n k : Nat} {L H : Nat → Int} (h : w.rowIs b 9 n (fun j => if j < k then .string (spanB L H j) else .string ⟨#[]⟩)) :
    (w.setCell ⟨b, k, none⟩ (.string (spanB L H k))).rowIs b 9 n (fun j => if j < k + 1 then .string (spanB L H j) else .string ⟨#[]⟩) := by
  refine (h.set k _).congr (fun j _ => ?_)
  by_cases e1 : j = k
  · subst e1
    rw [if_pos rfl, if_pos (by omega)]
  · rw [if_neg e1]
    by_cases e3 : j < k
    · rw [if_pos e3, if_pos (by omega)]
    · rw [if_neg e3, if_neg (by omega)]

set_option maxRecDepth 100000 in
set_option maxHeartbeats 2000000 in
theorem implSetText_any (a : Option Addr) (b off cap n : Nat) (L H : Nat → Int) (w : World) (hp : Pow w) (hga : 0 < n → a = some ⟨b, off, none⟩) (hc : Sp w b off n L H) (hin : ∀ i, i < n → In64 (L i) ∧ In64 (H i)) (hn : n ≤ 1048576) :
    Calls Tryd.prog 45 #[.slice a n cap] w fun e w' => ∃ s, e = .returned (.string s) ∧ tx s = setT n L H ∧ Below w.heap.size w w' := by
  by_cases h0 : n = 0
  · subst h0
    go_enter Tryd.func45, Tryd.ntmps45
    go_wp2
    go_ret
    exact ⟨_, rfl, by rw [setT, if_pos rfl]; rfl, Below.refl _ _⟩
  · have hmk := make54 n hn
    have hn0 : ((n : Int) == 0) = false := by simp; omega
    obtain rfl := hga (by omega)
    go_enter Tryd.func45, Tryd.ntmps45
    go_wp2
    clear hmk
    go_loopw [14] (fun i wr => ∃ k : Nat, k ≤ n ∧ i = .int .i64 k ∧ wr.rowIs w.heap.size 9 n (fun j => if j < k then .string (spanB L H j) else .string ⟨#[]⟩) ∧ Below w.heap.size w wr) (fun i _ => n - (intOf i).toNat)
    case atStart => exact ⟨0, Nat.zero_le _, rfl, made_rowS w n L H, (Below.refl _ _).alloc (Nat.le_refl _) _⟩
    case round =>
      obtain ⟨k, hk, rfl, hrow, hB⟩ := hrel
      by_cases hlt : k < n
      · have hltz : (k : Int) < (n : Int) := by omega
        obtain ⟨c1, c2⟩ := (hc.below hB) k hlt
        obtain ⟨i1, i2⟩ := hin k hlt
        go_wp2_with fail
        have hB0 : Below w.heap.size w (wr.alloc (.cells #[.int .i64 (L k), .int .i64 (H k)] 66)) := hB.alloc hB.size _
        refine (spanText_any (L k) (H k) _ i1 i2 (hp.below hB0)).mono ?_
        rintro e w1 ⟨s1, rfl, hs1, hb1⟩
        obtain rfl : s1 = spanB L H k := tx_inj (hs1.trans (tx_spanB L H k).symm)
        have hrow1 := row_below (row_below hrow ((Below.refl _ _).alloc (Nat.le_refl _) _)) hb1
        have hB1 := hB0.trans (hb1.mono hB0.size)
        have e1 := hrow1.cell (i := k) (by omega)
        have f1 := hrow1.frozen k
        clear hs1 c1 c2 hrow hb1 hB0
        go_wp2
        go_roundw
        case rel => exact ⟨k + 1, by omega, by go_num, rowS_step hrow1, hB1.setCell (by simp) _⟩
        case measure => simp [intOf]; omega
      · have hltz : ¬ ((k : Int) < (n : Int)) := by omega
        obtain rfl : k = n := by omega
        go_wp2_with fail
        refine (join_any w.heap.size k L H wr (hrow.congr (fun j hj => by rw [if_pos hj])) hin hn).mono ?_
        rintro e w1 ⟨s1, rfl, hs1, hb1⟩
        go_wp2
        go_ret
        exact ⟨s1, rfl, by rw [setT, if_neg h0, hs1], hB.trans (hb1.mono hB.size)⟩
end Go.Proofs.YtjaaokclpclnaaaDoor
