/- LexAt: the project's side: the longest token at a place -/
import Derived.Test.YtplpdikkkbiacaaGreatDoorBase
import Derived.OwnWalk
import Derived.Test.YtplpdikkkbiacaaGreatDoorXg
import Derived.Deep.RegionHeld
import Derived.Deep.Cut
namespace Go.Proofs.YtplpdikkkbiacaaGreatDoor
open Go.RowKit
set_option linter.unusedVariables false
set_option linter.unusedSimpArgs false

/-- a token: its rule, from where, to where -/
structure Tk where
  r : Int
  f : Int
  t : Int
theorem Tk.ext' {a b : Tk} (h1 : a.r = b.r) (h2 : a.f = b.f) (h3 : a.t = b.t) : a = b := by cases a; cases b; simp_all
/-- the cells of a token -/
def tkC (x : Tk) : List Value := [.int .i64 x.r, .int .i64 x.f, .int .i64 x.t]
/-- n tokens lie in block b from off on -/
def TkIn (w : World) (b off n : Nat) (K : Nat → Tk) : Prop :=
  ∀ i, i < n → w.cell? ⟨b, off + i * 3, none⟩ = some (.int .i64 (K i).r) ∧ w.cell? ⟨b, off + i * 3 + 1, none⟩ = some (.int .i64 (K i).f) ∧ w.cell? ⟨b, off + i * 3 + 2, none⟩ = some (.int .i64 (K i).t)
/-- the cells of a row of tokens, by their place -/
def tkFl (K : Nat → Tk) (j : Nat) : Value := .int .i64 (if j % 3 = 0 then (K (j / 3)).r else if j % 3 = 1 then (K (j / 3)).f else (K (j / 3)).t)
theorem tkFl_0 (K : Nat → Tk) (i : Nat) : tkFl K (i * 3) = .int .i64 (K i).r := by
  unfold tkFl; rw [if_pos (by omega), show i * 3 / 3 = i by omega]
theorem tkFl_1 (K : Nat → Tk) (i : Nat) : tkFl K (i * 3 + 1) = .int .i64 (K i).f := by
  unfold tkFl; rw [if_neg (by omega), if_pos (by omega), show (i * 3 + 1) / 3 = i by omega]
theorem tkFl_2 (K : Nat → Tk) (i : Nat) : tkFl K (i * 3 + 2) = .int .i64 (K i).t := by
  unfold tkFl; rw [if_neg (by omega), if_neg (by omega), show (i * 3 + 2) / 3 = i by omega]
theorem TkIn.of_row {w : World} {b t n : Nat} {K : Nat → Tk} (h : w.rowIs b t (n * 3) (tkFl K)) : TkIn w b 0 n K := by
  intro i hi
  have h1 := h.cell (i := i * 3) (by omega)
  have h2 := h.cell (i := i * 3 + 1) (by omega)
  have h3 := h.cell (i := i * 3 + 2) (by omega)
  rw [tkFl_0] at h1
  rw [tkFl_1] at h2
  rw [tkFl_2] at h3
  exact ⟨by simpa using h1, by simpa using h2, by simpa using h3⟩
theorem TkIn.below {w w' : World} {b off n : Nat} {K : Nat → Tk} (h : TkIn w b off n K) (hb : Below w.heap.size w w') : TkIn w' b off n K := by
  intro i hi
  obtain ⟨h1, h2, h3⟩ := h i hi
  exact ⟨(hb.cell (p := ⟨b, _, none⟩) (World.block_lt_of_cell? _ _ h1)).trans h1, (hb.cell (p := ⟨b, _, none⟩) (World.block_lt_of_cell? _ _ h2)).trans h2, (hb.cell (p := ⟨b, _, none⟩) (World.block_lt_of_cell? _ _ h3)).trans h3⟩
def tkB (x y : Tk) : Bool := x.r == y.r && (x.f == y.f && x.t == y.t)
theorem tkB_iff {x y : Tk} : tkB x y = true ↔ x = y := by
  constructor
  · intro h
    simp only [tkB, Bool.and_eq_true, beq_iff_eq] at h
    exact Tk.ext' h.1 h.2.1 h.2.2
  · rintro rfl; simp [tkB]
theorem tkB_ne {x y : Tk} (h : x ≠ y) : tkB x y = false := by
  rw [← Bool.not_eq_true]
  exact fun e => h (tkB_iff.1 e)
/-- one and the same tokens -/
def eqTB (n : Nat) (K : Nat → Tk) (m : Nat) (K' : Nat → Tk) : Bool := n == m && (List.range n).all fun i => tkB (K i) (K' i)
theorem eqTB_len {n m : Nat} {K K' : Nat → Tk} (h : n ≠ m) : eqTB n K m K' = false := by simp [eqTB, h]
theorem eqTB_all {n : Nat} {K K' : Nat → Tk} (h : ∀ i, i < n → K i = K' i) : eqTB n K n K' = true := by
  simp only [eqTB, beq_self_eq_true, Bool.true_and, List.all_eq_true, List.mem_range]
  exact fun i hi => tkB_iff.2 (h i hi)
theorem eqTB_at {n k : Nat} {K K' : Nat → Tk} (hk : k < n) (h : K k ≠ K' k) : eqTB n K n K' = false := by
  rw [← Bool.not_eq_true]
  intro e
  simp only [eqTB, beq_self_eq_true, Bool.true_and, List.all_eq_true, List.mem_range] at e
  exact h (tkB_iff.1 (e k hk))
theorem eqT_step {k : Nat} {K K' : Nat → Tk} (hall : ∀ j, j < k → K j = K' j) (h : K k = K' k) : ∀ j, j < k + 1 → K j = K' j := by
  intro j hj
  by_cases e : j = k
  · subst e; exact h
  · exact hall j (by omega)

set_option maxHeartbeats 400000 in
theorem eqTok_any (x y : Tk) (w : World) :
    Calls Tryz.prog 23 #[.agg #[.int .i64 x.r, .int .i64 x.f, .int .i64 x.t], .agg #[.int .i64 y.r, .int .i64 y.f, .int .i64 y.t]] w fun e w' => e = .returned (.bool (tkB x y)) ∧ Below w.heap.size w w' := by
  have hne : ∀ {u v : Tk}, u ≠ v → tkB u v = false := tkB_ne
  by_cases h1 : x.r = y.r
  · by_cases h2 : x.f = y.f
    · by_cases h3 : x.t = y.t
      · have e := Tk.ext' h1 h2 h3
        subst e
        have hb : tkB x x = true := tkB_iff.2 rfl
        clear hne h1 h2 h3
        have q1 : (x.r != x.r) = false := by simp
        have q2 : (x.f != x.f) = false := by simp
        have q3 : (x.t != x.t) = false := by simp
        go_enter Tryz.func23, Tryz.ntmps23
        go_wp2
        go_ret
        exact ⟨by rw [hb]; rfl, by repeat (first | exact Below.refl _ _ | refine Below.alloc ?_ (by simp <;> omega) _)⟩
      · have hb : tkB x y = false := hne (fun e => h3 (by rw [e]))
        have q1 : (x.r != y.r) = false := by simp [h1]
        have q2 : (x.f != y.f) = false := by simp [h2]
        have q3 : (x.t != y.t) = true := by simp [h3]
        clear hne h1 h2 h3
        go_enter Tryz.func23, Tryz.ntmps23
        go_wp2
        go_ret
        exact ⟨by rw [hb]; rfl, by repeat (first | exact Below.refl _ _ | refine Below.alloc ?_ (by simp <;> omega) _)⟩
    · have hb : tkB x y = false := hne (fun e => h2 (by rw [e]))
      have q1 : (x.r != y.r) = false := by simp [h1]
      have q2 : (x.f != y.f) = true := by simp [h2]
      clear hne h1 h2
      go_enter Tryz.func23, Tryz.ntmps23
      go_wp2
      go_ret
      exact ⟨by rw [hb]; rfl, by repeat (first | exact Below.refl _ _ | refine Below.alloc ?_ (by simp <;> omega) _)⟩
  · have hb : tkB x y = false := hne (fun e => h1 (by rw [e]))
    have q1 : (x.r != y.r) = true := by simp [h1]
    clear hne h1
    go_enter Tryz.func23, Tryz.ntmps23
    go_wp2
    go_ret
    exact ⟨by rw [hb]; rfl, by repeat (first | exact Below.refl _ _ | refine Below.alloc ?_ (by simp <;> omega) _)⟩

theorem Tryz.infoTok : (Tryz.prog.info? 46).map (fun i => (i.zero, i.size, i.bytes)) = some (some (.agg #[.int .i64 0, .int .i64 0, .int .i64 0]), 3, 24) := by kernel_rfl
end Go.Proofs.YtplpdikkkbiacaaGreatDoor
namespace Go.Proofs.YtplpdikkkbiacaaGreatDoor
open Go.RowKit
set_option linter.unusedVariables false
set_option linter.unusedSimpArgs false

set_option maxHeartbeats 1000000 in
theorem noToken_any (x : Int) (w : World) : Calls Tryz.prog 36 #[.int .i64 x] w fun e w' => e = .returned (.agg #[.int .i64 (-1), .int .i64 x, .int .i64 x]) ∧ Below w.heap.size w w' := by
  go_enter Tryz.func36, Tryz.ntmps36
  go_wp2_with fail
  refine bodyPost_ret (v := .agg #[.int .i64 (-1), .int .i64 x, .int .i64 x]) (by simp [results, Tryz.results36, go_sem]) rfl ⟨rfl, ?_⟩
  exact (Below.refl _ _).alloc (Nat.le_refl _) _

end Go.Proofs.YtplpdikkkbiacaaGreatDoor
namespace Go.Proofs.YtplpdikkkbiacaaGreatDoor
open Go.RowKit
set_option linter.unusedVariables false
set_option linter.unusedSimpArgs false

/-- a token, in a box -/
def BoxT (w : World) (g : Nat) (x : Tk) : Prop := w.rowIs g 46 3 (tkFl (fun _ => x))
theorem BoxT.cells {w : World} {g : Nat} {x : Tk} (h : BoxT w g x) : (w.cell? ⟨g, 0, none⟩ = some (.int .i64 x.r) ∧ w.cell? ⟨g, 1, none⟩ = some (.int .i64 x.f) ∧ w.cell? ⟨g, 2, none⟩ = some (.int .i64 x.t)) ∧ w.frozen? ⟨g, 0, none⟩ = false ∧ w.frozen? ⟨g, 1, none⟩ = false ∧ w.frozen? ⟨g, 2, none⟩ = false := by
  have h0 := h.cell (i := 0) (by omega)
  have h1 := h.cell (i := 1) (by omega)
  have h2 := h.cell (i := 2) (by omega)
  exact ⟨⟨h0, h1, h2⟩, h.frozen 0, h.frozen 1, h.frozen 2⟩
theorem BoxT.new (w : World) (x : Tk) : BoxT (w.alloc (.cells #[.int .i64 x.r, .int .i64 x.f, .int .i64 x.t] 46)) w.heap.size x := by
  have h := World.rowIs_alloc w #[.int .i64 x.r, .int .i64 x.f, .int .i64 x.t] 46 (tkFl (fun _ => x)) (fun i hi => by
    have : i = 0 ∨ i = 1 ∨ i = 2 := by simp at hi; omega
    rcases this with rfl | rfl | rfl <;> rfl)
  exact h
theorem BoxT.below {w w' : World} {g : Nat} {x : Tk} (h : BoxT w g x) (hb : Below w.heap.size w w') : BoxT w' g x := row_below h hb
theorem BoxT.set {w : World} {g : Nat} {x : Tk} (h : BoxT w g x) (y : Tk) : BoxT (((w.setCell ⟨g, 0, none⟩ (.int .i64 y.r)).setCell ⟨g, 1, none⟩ (.int .i64 y.f)).setCell ⟨g, 2, none⟩ (.int .i64 y.t)) g y := by
  refine (((World.rowIs.set h 0 _).set 1 _).set 2 _).congr (fun j hj => ?_)
  have : j = 0 ∨ j = 1 ∨ j = 2 := by omega
  rcases this with rfl | rfl | rfl <;> rfl

end Go.Proofs.YtplpdikkkbiacaaGreatDoor

