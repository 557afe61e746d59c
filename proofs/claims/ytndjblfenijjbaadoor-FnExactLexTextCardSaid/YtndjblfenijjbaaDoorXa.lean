/- tokens of three numbers told by a function of the place; what a slice of tokens holds in memory -/
import Derived.Test.YtndjblfenijjbaaDoorBase
import Derived.OwnWalk
namespace Go.Proofs.YtndjblfenijjbaaDoor
open Go.RowKit
set_option linter.unusedVariables false
set_option linter.unusedSimpArgs false

/-- a token: its rule, from where, to where -/
structure Tk where
  r : Int
  f : Int
  t : Int
theorem Tk.ext' {a b : Tk} (h1 : a.r = b.r) (h2 : a.f = b.f) (h3 : a.t = b.t) : a = b := by cases a; cases b; simp_all
/-- its numbers are of 64 bits -/
def Tk64 (k : Tk) : Prop := (-9223372036854775808 ≤ k.r ∧ k.r ≤ 9223372036854775807) ∧ (-9223372036854775808 ≤ k.f ∧ k.f ≤ 9223372036854775807) ∧ (-9223372036854775808 ≤ k.t ∧ k.t ≤ 9223372036854775807)
/-- n tokens lie in block b from off on -/
def TkIn (w : World) (b off n : Nat) (K : Nat → Tk) : Prop :=
  ∀ i, i < n → w.cell? ⟨b, off + i * 3, none⟩ = some (.int .i64 (K i).r) ∧ w.cell? ⟨b, off + i * 3 + 1, none⟩ = some (.int .i64 (K i).f) ∧ w.cell? ⟨b, off + i * 3 + 2, none⟩ = some (.int .i64 (K i).t)
/-- the cells of a row of tokens, by their place -/
def flat3 (K : Nat → Tk) (j : Nat) : Value := .int .i64 (if j % 3 = 0 then (K (j / 3)).r else if j % 3 = 1 then (K (j / 3)).f else (K (j / 3)).t)
theorem flat3_0 (K : Nat → Tk) (i : Nat) : flat3 K (i * 3) = .int .i64 (K i).r := by
  unfold flat3; rw [if_pos (by omega), show i * 3 / 3 = i by omega]
theorem flat3_1 (K : Nat → Tk) (i : Nat) : flat3 K (i * 3 + 1) = .int .i64 (K i).f := by
  unfold flat3; rw [if_neg (by omega), if_pos (by omega), show (i * 3 + 1) / 3 = i by omega]
theorem flat3_2 (K : Nat → Tk) (i : Nat) : flat3 K (i * 3 + 2) = .int .i64 (K i).t := by
  unfold flat3; rw [if_neg (by omega), if_neg (by omega), show (i * 3 + 2) / 3 = i by omega]
theorem TkIn.of_row {w : World} {b t n : Nat} {K : Nat → Tk} (h : w.rowIs b t (n * 3) (flat3 K)) : TkIn w b 0 n K := by
  intro i hi
  have h1 := h.cell (i := i * 3) (by omega)
  have h2 := h.cell (i := i * 3 + 1) (by omega)
  have h3 := h.cell (i := i * 3 + 2) (by omega)
  rw [flat3_0] at h1
  rw [flat3_1] at h2
  rw [flat3_2] at h3
  exact ⟨by simpa using h1, by simpa using h2, by simpa using h3⟩
theorem TkIn.below {w w' : World} {b off n : Nat} {K : Nat → Tk} (h : TkIn w b off n K) (hb : Below w.heap.size w w') : TkIn w' b off n K := by
  intro i hi
  obtain ⟨h1, h2, h3⟩ := h i hi
  exact ⟨(hb.cell (p := ⟨b, _, none⟩) (World.block_lt_of_cell? _ _ h1)).trans h1, (hb.cell (p := ⟨b, _, none⟩) (World.block_lt_of_cell? _ _ h2)).trans h2, (hb.cell (p := ⟨b, _, none⟩) (World.block_lt_of_cell? _ _ h3)).trans h3⟩
theorem row_step3 {w : World} {g n k : Nat} {K : Nat → Tk} {z : Nat → Value} (h : w.rowIs g 31 (n * 3) (fun j => if j < k * 3 then flat3 K j else z j)) :
    (((w.setCell ⟨g, k * 3, none⟩ (.int .i64 (K k).r)).setCell ⟨g, k * 3 + 1, none⟩ (.int .i64 (K k).f)).setCell ⟨g, k * 3 + 2, none⟩ (.int .i64 (K k).t)).rowIs g 31 (n * 3) (fun j => if j < (k + 1) * 3 then flat3 K j else z j) := by
  refine (((h.set (k * 3) _).set (k * 3 + 1) _).set (k * 3 + 2) _).congr (fun j _ => ?_)
  by_cases e0 : j = k * 3 + 2
  · subst e0
    rw [if_pos rfl, if_pos (by omega), flat3_2]
  · rw [if_neg e0]
    by_cases e1 : j = k * 3 + 1
    · subst e1
      rw [if_pos rfl, if_pos (by omega), flat3_1]
    · rw [if_neg e1]
      by_cases e2 : j = k * 3
      · subst e2
        rw [if_pos rfl, if_pos (by omega), flat3_0]
      · rw [if_neg e2]
        by_cases e3 : j < k * 3
        · rw [if_pos e3, if_pos (by omega)]
        · rw [if_neg e3, if_neg (by omega)]
def tkB (x y : Tk) : Bool := x.r == y.r && (x.f == y.f && x.t == y.t)
theorem tkB_iff {x y : Tk} : tkB x y = true ↔ x = y := by
  constructor
  · intro h
    simp only [tkB, Bool.and_eq_true, beq_iff_eq] at h
    exact Tk.ext' h.1 h.2.1 h.2.2
  · rintro rfl; simp [tkB]
theorem tkB_ne {x y : Tk} (h : x ≠ y) : tkB x y = false := by
  rw [← Bool.not_eq_true]
  exact fun e => h (tkB_iff.1 e)
/-- one and the same tokens -/
def eqTB (n : Nat) (K : Nat → Tk) (m : Nat) (K' : Nat → Tk) : Bool := n == m && (List.range n).all fun i => tkB (K i) (K' i)
theorem eqTB_len {n m : Nat} {K K' : Nat → Tk} (h : n ≠ m) : eqTB n K m K' = false := by simp [eqTB, h]
theorem eqTB_all {n : Nat} {K K' : Nat → Tk} (h : ∀ i, i < n → K i = K' i) : eqTB n K n K' = true := by
  simp only [eqTB, beq_self_eq_true, Bool.true_and, List.all_eq_true, List.mem_range]
  exact fun i hi => tkB_iff.2 (h i hi)
theorem eqTB_at {n k : Nat} {K K' : Nat → Tk} (hk : k < n) (h : K k ≠ K' k) : eqTB n K n K' = false := by
  rw [← Bool.not_eq_true]
  intro e
  simp only [eqTB, beq_self_eq_true, Bool.true_and, List.all_eq_true, List.mem_range] at e
  exact h (tkB_iff.1 (e k hk))
theorem eqT_step {k : Nat} {K K' : Nat → Tk} (hall : ∀ j, j < k → K j = K' j) (h : K k = K' k) : ∀ j, j < k + 1 → K j = K' j := by
  intro j hj
  by_cases e : j = k
  · subst e; exact h
  · exact hall j (by omega)

set_option maxHeartbeats 400000 in
theorem szT_any (a : Option Addr) (len cap : Nat) (left : Int) (w : World) (h0 : 0 ≤ left) (h1 : left ≤ 1048576) (hl : len ≤ 9223372036854775807) :
    Calls Tryd.prog 4 #[.slice a len cap, .int .i64 left] w fun e w' => e = .returned (.int .i64 (if left < len then -1 else left - len)) ∧ w' = w := by
  by_cases h : left < len
  · rw [if_pos h]
    have h' : left - (len : Int) < 0 := by omega
    go_enter Tryd.func4, Tryd.ntmps4
    go_wp2
    go_ret
    exact ⟨rfl, rfl⟩
  · rw [if_neg h]
    have h' : ¬ left - (len : Int) < 0 := by omega
    go_enter Tryd.func4, Tryd.ntmps4
    go_wp2
    go_ret
    exact ⟨rfl, rfl⟩

set_option maxHeartbeats 400000 in
theorem toTok_any (x y z : Int) (w : World) :
    Calls Tryd.prog 10 #[.agg #[.int .i64 x, .int .i64 y, .int .i64 z]] w fun e w' => e = .returned (.agg #[.int .i64 x, .int .i64 y, .int .i64 z]) ∧ Below w.heap.size w w' := by
  go_enter Tryd.func10, Tryd.ntmps10
  go_wp2
  refine bodyPost_ret (v := .agg #[.int .i64 x, .int .i64 y, .int .i64 z]) (by simp [results, Tryd.results10, go_sem]) rfl ⟨rfl, ?_⟩
  repeat (first | exact Below.refl _ _ | refine Below.alloc ?_ (by simp <;> omega) _)

set_option maxHeartbeats 400000 in
theorem eqTok_any (x y : Tk) (w : World) :
    Calls Tryd.prog 13 #[.agg #[.int .i64 x.r, .int .i64 x.f, .int .i64 x.t], .agg #[.int .i64 y.r, .int .i64 y.f, .int .i64 y.t]] w fun e w' => e = .returned (.bool (tkB x y)) ∧ Below w.heap.size w w' := by
  have hne : ∀ {u v : Tk}, u ≠ v → tkB u v = false := tkB_ne
  by_cases h1 : x.r = y.r
  · by_cases h2 : x.f = y.f
    · by_cases h3 : x.t = y.t
      · have e := Tk.ext' h1 h2 h3
        subst e
        have hb : tkB x x = true := tkB_iff.2 rfl
        clear hne h1 h2 h3
        have q1 : (x.r != x.r) = false := by simp
        have q2 : (x.f != x.f) = false := by simp
        have q3 : (x.t != x.t) = false := by simp
        go_enter Tryd.func13, Tryd.ntmps13
        go_wp2
        go_ret
        exact ⟨by rw [hb]; rfl, by repeat (first | exact Below.refl _ _ | refine Below.alloc ?_ (by simp <;> omega) _)⟩
      · have hb : tkB x y = false := hne (fun e => h3 (by rw [e]))
        have q1 : (x.r != y.r) = false := by simp [h1]
        have q2 : (x.f != y.f) = false := by simp [h2]
        have q3 : (x.t != y.t) = true := by simp [h3]
        clear hne h1 h2 h3
        go_enter Tryd.func13, Tryd.ntmps13
        go_wp2
        go_ret
        exact ⟨by rw [hb]; rfl, by repeat (first | exact Below.refl _ _ | refine Below.alloc ?_ (by simp <;> omega) _)⟩
    · have hb : tkB x y = false := hne (fun e => h2 (by rw [e]))
      have q1 : (x.r != y.r) = false := by simp [h1]
      have q2 : (x.f != y.f) = true := by simp [h2]
      clear hne h1 h2
      go_enter Tryd.func13, Tryd.ntmps13
      go_wp2
      go_ret
      exact ⟨by rw [hb]; rfl, by repeat (first | exact Below.refl _ _ | refine Below.alloc ?_ (by simp <;> omega) _)⟩
  · have hb : tkB x y = false := hne (fun e => h1 (by rw [e]))
    have q1 : (x.r != y.r) = true := by simp [h1]
    clear hne h1
    go_enter Tryd.func13, Tryd.ntmps13
    go_wp2
    go_ret
    exact ⟨by rw [hb]; rfl, by repeat (first | exact Below.refl _ _ | refine Below.alloc ?_ (by simp <;> omega) _)⟩

theorem Tryd.infoTok : (Tryd.prog.info? 31).map (fun i => (i.zero, i.size, i.bytes)) = some (some (.agg #[.int .i64 0, .int .i64 0, .int .i64 0]), 3, 24) := by kernel_rfl
theorem makeTok (n : Nat) (hn : n ≤ 1048576) (w : World) : (Instr.makeSlice 25 (.int .i64 n) (.int .i64 n)).run Tryd.prog w = .ok (.slice (some ⟨w.heap.size, 0, none⟩) n n) (w.alloc (.cells (madeCells #[.int .i64 0, .int .i64 0, .int .i64 0] (n * 3)) 31)) := by
  obtain ⟨i0, hi, hz0, hz1, hz2⟩ := info_parts Tryd.infoTok
  have h := run_make (P := Tryd.prog) w 25 31 i0 _ Tryd.underlying25 hi hz0 .i64 .i64 n n (by omega) (by omega) (by rw [hz2]; omega) (by omega)
  rw [hz1] at h
  simpa [Value.cells] using h
theorem made_row3 (w : World) (n : Nat) (K : Nat → Tk) : (w.alloc (.cells (madeCells #[.int .i64 0, .int .i64 0, .int .i64 0] (n * 3)) 31)).rowIs w.heap.size 31 (n * 3) (fun j => if j < 0 * 3 then flat3 K j else .int .i64 0) := by
  have h := World.rowIs_alloc w (madeCells #[.int .i64 0, .int .i64 0, .int .i64 0] (n * 3)) 31 (fun _ => .int .i64 0) (fun i hi => by
    rw [size_madeCells] at hi
    simp only [madeCells, Array.getElem?_map]
    rw [Array.getElem?_range, if_pos hi]
    have : i % 3 = 0 ∨ i % 3 = 1 ∨ i % 3 = 2 := by omega
    rcases this with h | h | h <;> simp [h])
  rw [size_madeCells] at h
  exact h.congr (fun i _ => by simp)

set_option maxHeartbeats 400000 in
theorem toTokS_any (a : Option Addr) (b off cap n : Nat) (K : Nat → Tk) (w : World) (hga : 0 < n → a = some ⟨b, off, none⟩) (hc : TkIn w b off n K) (hn : n ≤ 1048576) :
    Calls Tryd.prog 6 #[.slice a n cap] w fun e w' => e = .returned (.slice (some ⟨w.heap.size, 0, none⟩) n n) ∧ w'.rowIs w.heap.size 31 (n * 3) (flat3 K) ∧ Below w.heap.size w w' := by
  have hmk := makeTok n hn
  go_enter Tryd.func6, Tryd.ntmps6
  go_wp2
  clear hmk
  go_loopw [4] (fun i wr => ∃ k : Nat, k ≤ n ∧ i = .int .i64 k ∧ wr.rowIs w.heap.size 31 (n * 3) (fun j => if j < k * 3 then flat3 K j else .int .i64 0) ∧ Below w.heap.size w wr)
    (fun i _ => n - (intOf i).toNat)
  case atStart => exact ⟨0, Nat.zero_le _, rfl, made_row3 w n K, (Below.refl _ _).alloc (Nat.le_refl _) _⟩
  case round =>
    obtain ⟨k, hk, rfl, hrow, hB⟩ := hrel
    by_cases hlt : k < n
    · obtain rfl := hga (by omega)
      have hltz : (k : Int) < (n : Int) := by omega
      obtain ⟨d1, d2, d3⟩ := (hc.below hB) k hlt
      go_wp2_with fail
      refine (toTok_any _ _ _ _).mono ?_
      rintro e w1 ⟨rfl, hb1⟩
      have hrow1 := row_below hrow hb1
      have e1 := hrow1.cell (i := k * 3) (by omega)
      have e2 := hrow1.cell (i := k * 3 + 1) (by omega)
      have e3 := hrow1.cell (i := k * 3 + 2) (by omega)
      have f1 := hrow1.frozen (k * 3)
      have f2 := hrow1.frozen (k * 3 + 1)
      have f3 := hrow1.frozen (k * 3 + 2)
      go_wp2
      go_roundw
      case rel => exact ⟨k + 1, by omega, by go_num, row_step3 hrow1, (((hB.trans (hb1.mono hB.size)).setCell (by simp) _).setCell (by simp) _).setCell (by simp) _⟩
      case measure => simp [intOf]; omega
    · go_wp2
      go_ret
      obtain rfl : k = n := by omega
      exact ⟨rfl, hrow.congr (fun j hj => by rw [if_pos hj]), hB⟩
end Go.Proofs.YtndjblfenijjbaaDoor

