/- the walk of bitsOf -/
import Derived.Test.YtolddecfibdblaaDoorBt
import Derived.RegionTactic
import Derived.ChangeAlike
import Derived.BigRegion
namespace Go.Proofs.YtolddecfibdblaaDoor
open Go.RowKit
set_option linter.unusedVariables false
set_option linter.unusedSimpArgs false

/-- the bytes of the first k spans -/
def hs (k : Nat) (L H : Nat → Int) (x : Nat) : Bool := hasB k L H (x : Int)
/-- and those of the next one below b -/
def hs' (k : Nat) (L H : Nat → Int) (b : Int) (x : Nat) : Bool := hasB k L H (x : Int) || decide (L k ≤ (x : Int) ∧ (x : Int) < b)
/-- the cells of a set of bytes -/
abbrev wc (B : Nat → Bool) (i : Nat) : Value := .int .u64 ((W B i : Nat) : Int)

theorem hs_zero (L H : Nat → Int) : hs 0 L H = fun _ => false := by funext x; simp [hs, hasB]
theorem hs'_start {k : Nat} {L H : Nat → Int} {b : Int} (hb : b = 0 ∨ b = L k) (_h0 : 0 ≤ b) : ∀ x, hs' k L H b x = hs k L H x := by
  intro x
  unfold hs' hs
  have : decide (L k ≤ (x : Int) ∧ (x : Int) < b) = false := by simp; omega
  rw [this]; simp
theorem hs'_end {k : Nat} {L H : Nat → Int} {b : Int} (h : ∀ x : Nat, x < 256 → ((L k ≤ (x : Int) ∧ (x : Int) < b) ↔ (L k ≤ (x : Int) ∧ (x : Int) ≤ H k))) : ∀ x, x < 256 → hs' k L H b x = hs (k + 1) L H x := by
  intro x hx
  unfold hs' hs
  rw [Bool.eq_iff_iff]
  simp only [Bool.or_eq_true, decide_eq_true_eq, hasB_iff, h x hx]
  constructor
  · rintro (⟨i, hi, hh⟩ | hh)
    · exact ⟨i, by omega, hh⟩
    · exact ⟨k, by omega, hh⟩
  · rintro ⟨i, hi, hh⟩
    by_cases e : i = k
    · subst e; exact .inr hh
    · exact .inl ⟨i, by omega, hh⟩
theorem hs'_step {k : Nat} {L H : Nat → Int} {b : Nat} (h : L k ≤ (b : Int)) : ∀ x, (hs' k L H b x || x == b) = hs' k L H ((b : Int) + 1) x := by
  intro x
  unfold hs'
  rw [Bool.eq_iff_iff]
  simp only [Bool.or_eq_true, decide_eq_true_eq, beq_iff_eq]
  constructor
  · rintro ((h1 | h1) | h1)
    · exact .inl h1
    · right; omega
    · right; omega
  · rintro (h1 | h1)
    · exact .inl (.inl h1)
    · by_cases e : x = b
      · exact .inr e
      · left; right; omega

theorem row_congr {w : World} {g t : Nat} {B B' : Nat → Bool} (h : w.rowIs g t 4 (wc B)) (e : ∀ x, x < 256 → B x = B' x) : w.rowIs g t 4 (wc B') :=
  h.congr (fun i hi => by show Value.int _ _ = Value.int _ _; rw [W_congr hi e])

theorem row_setbit {w : World} {g t : Nat} {B B' : Nat → Bool} {b : Nat} (h : w.rowIs g t 4 (wc B)) (_hb : b < 256) (e : ∀ x, (B x || x == b) = B' x) :
    (w.setCell ⟨g, b / 64, none⟩ (.int .u64 ((W B (b / 64) ||| 2 ^ (b % 64) : Nat) : Int))).rowIs g t 4 (wc B') := by
  refine (h.set (b / 64) _).congr (fun i hi => ?_)
  have eB : B' = fun x => B x || x == b := by funext x; exact (e x).symm
  rw [eB]
  by_cases c : i = b / 64
  · subst c; rw [if_pos rfl, W_set]
  · rw [if_neg c]; show Value.int _ _ = Value.int _ _; rw [W_set_other B b i c]

theorem cell_new2 (w : World) (x y : Value) (t : TypeId) : (w.alloc (.cells #[x, y] t)).cell? ⟨w.heap.size, 0, none⟩ = some x ∧ (w.alloc (.cells #[x, y] t)).cell? ⟨w.heap.size, 1, none⟩ = some y := by
  constructor <;> simp

theorem or_word (x j : Nat) (hx : x < 18446744073709551616) (hj : j < 64) : bits BinOp.or IntKind.u64 (x : Int) (IntKind.u64.wrap (2 ^ j)) = ((x ||| 2 ^ j : Nat) : Int) := by
  have h2 : (2 : Nat) ^ j < 18446744073709551616 := by
    have h : (2 : Nat) ^ j < 2 ^ 64 := Nat.pow_lt_pow_right (by decide) hj
    simpa using h
  have h3 : IntKind.u64.wrap (2 ^ j) = ((2 ^ j : Nat) : Int) := by
    rw [IntKind.wrap_u64]
    have e : (2 : Int) ^ j = ((2 ^ j : Nat) : Int) := by simp
    rw [e]
    generalize (2 : Nat) ^ j = y at h2
    omega
  rw [h3, bits_or_u64_nat _ _ hx h2]

theorem row_setbit' {w : World} {g t : Nat} {B B' : Nat → Bool} {b : Nat} (h : w.rowIs g t 4 (wc B)) (hb : b < 256) (e : ∀ x, (B x || x == b) = B' x) :
    (w.setCell ⟨g, b / 64, none⟩ (.int .u64 (bits BinOp.or IntKind.u64 ((W B (b / 64) : Nat) : Int) (IntKind.u64.wrap (2 ^ (b % 64)))))).rowIs g t 4 (wc B') := by
  rw [or_word _ _ (W_lt _ _) (by omega)]
  exact row_setbit h hb e

theorem zero_row (w : World) (B : Nat → Bool) (hB : B = fun _ => false) : (w.alloc (.cells #[.int .u64 0, .int .u64 0, .int .u64 0, .int .u64 0] 92)).rowIs w.heap.size 92 4 (wc B) := by
  subst hB
  refine World.rowIs_alloc w #[.int .u64 0, .int .u64 0, .int .u64 0, .int .u64 0] 92 _ (fun i hi => ?_)
  simp only [wc, W_none]
  simp at hi
  have : i = 0 ∨ i = 1 ∨ i = 2 ∨ i = 3 := by omega
  rcases this with rfl | rfl | rfl | rfl <;> rfl

set_option maxHeartbeats 1000000 in
theorem bitsOf_any (a : Option Addr) (b off cap n : Nat) (L H : Nat → Int) (w : World) (hga : 0 < n → a = some ⟨b, off, none⟩) (hc : Sp w b off n L H) (hn : n ≤ 4194304) :
    Calls Tryd.prog 63 #[.slice a n cap] w fun e w' => e = .returned (.agg #[wc (hs n L H) 0, wc (hs n L H) 1, wc (hs n L H) 2, wc (hs n L H) 3]) ∧ Below w.heap.size w w' := by
  go_enter Tryd.func63, Tryd.ntmps63
  go_wp2
  go_loopw [9] (fun i wr => ∃ (k : Nat), k ≤ n ∧ i = .int .i64 k ∧ wr.rowIs (w.heap.size + 1) 92 4 (wc (hs k L H)) ∧ wr.rowIs w.heap.size 92 4 (fun _ => .int .u64 0) ∧ Below w.heap.size w wr) (fun i _ => n - (intOf i).toNat)
  case atStart =>
    refine ⟨0, Nat.zero_le _, rfl, ?_, ?_, ((Below.refl _ _).alloc (Nat.le_refl _) _).alloc (by simp) _⟩
    · have h := zero_row (w.alloc (.cells #[.int .u64 0, .int .u64 0, .int .u64 0, .int .u64 0] 92)) _ (hs_zero L H)
      rw [World.size_alloc] at h
      exact h
    · exact ((zero_row w (fun _ => false) rfl).congr (fun i _ => by show Value.int _ _ = _; rw [W_none]; rfl)).alloc _
  case round =>
    obtain ⟨k, hk, rfl, hrow, hres, hB⟩ := hrel
    by_cases hlt : k < n
    · obtain rfl := hga (by omega)
      have hltz : (k : Int) < (n : Int) := by omega
      obtain ⟨c1, c2⟩ := (hc.below hB) k hlt
      obtain ⟨c0, hb0⟩ : ∃ c0 : Nat, (if L k < 0 then 0 else L k) = (c0 : Int) := by
        by_cases h : L k < 0
        · exact ⟨0, by rw [if_pos h]; rfl⟩
        · exact ⟨(L k).toNat, by rw [if_neg h]; omega⟩
      obtain ⟨h1, hh1⟩ : ∃ h1, (if 255 < H k then 255 else H k) = h1 := ⟨_, rfl⟩
      have q0 : L k ≤ c0 ∧ ((c0 : Int) = 0 ∨ (c0 : Int) = L k) := by rw [← hb0]; split <;> omega
      have q1 : h1 ≤ 255 ∧ h1 ≤ H k ∧ (h1 = 255 ∨ h1 = H k) := by rw [← hh1]; split <;> omega
      have Q0 : Hid (L k ≤ c0 ∧ ((c0 : Int) = 0 ∨ (c0 : Int) = L k)) := q0
      have Q1 : Hid (h1 ≤ 255 ∧ h1 ≤ H k ∧ (h1 = 255 ∨ h1 = H k)) := q1
      have hle : h1 ≤ 255 := q1.1
      clear q0 q1
      obtain ⟨pb, hpb⟩ : ∃ pb, wr.heap.size = pb := ⟨_, rfl⟩
      have hpl : w.heap.size + 1 < pb := hpb ▸ hrow.lt
      go_wp2
      have hbel0 := hB.alloc hB.size (.cells #[.int .i64 (L k), .int .i64 (H k)] 87)
      go_loopw [6] (fun t wi => ∃ c : Nat, t = .int .i64 c ∧ Hid (c0 ≤ c ∧ ((c : Int) ≤ h1 + 1 ∨ c = c0)) ∧ wi.rowIs (w.heap.size + 1) 92 4 (wc (hs' k L H c)) ∧ wi.rowIs w.heap.size 92 4 (fun _ => .int .u64 0) ∧
          wi.cell? ⟨pb, 0, none⟩ = some (.int .i64 (L k)) ∧ wi.cell? ⟨pb, 1, none⟩ = some (.int .i64 (H k)) ∧ Below w.heap.size w wi) (fun t _ => 256 - (intOf t).toNat)
      case atStart =>
        refine ⟨c0, rfl, ⟨Nat.le_refl _, .inr rfl⟩, row_congr (hrow.alloc _) (fun x _ => (hs'_start Q0.out.2 (by omega) x).symm), hres.alloc _, ?_, ?_, hbel0⟩
        · rw [← hpb]; exact (cell_new2 wr _ _ _).1
        · rw [← hpb]; exact (cell_new2 wr _ _ _).2
      case round =>
        obtain ⟨c, rfl, HC, irow, ires, p0, p1, iB⟩ := hrel
        by_cases htest : (c : Int) ≤ h1
        · have hc256 : c < 256 := by omega
          have i1 : wr.cell? ⟨w.heap.size + 1, c / 64, none⟩ = some (.int .u64 ((W (hs' k L H c) (c / 64) : Nat) : Int)) := irow.cell (i := c / 64) (by omega)
          have i2 := irow.frozen (c / 64)
          go_wp2_with fail
          go_region
          go_wp2
          go_roundw
          case rel => exact ⟨c + 1, by go_num, ⟨by have := HC.out; omega, by have := HC.out; omega⟩, row_setbit' irow hc256 (fun x => by have := hs'_step (k := k) (L := L) (H := H) (b := c) (by have := HC.out; have := Q0.out; omega) x; simpa using this), ires.setOther (by simp) _,
            (World.cell?_setCell_other _ _ _ _ (fun e => by have := congrArg Addr.block e; simp at this; omega)).trans p0, (World.cell?_setCell_other _ _ _ _ (fun e => by have := congrArg Addr.block e; simp at this; omega)).trans p1, (iB.setCell (by simp) _).drew⟩
          case measure => simp [intOf]; omega
        · go_wp2
          go_roundw
          case rel => exact ⟨k + 1, by omega, by go_num, row_congr irow (hs'_end (fun x hx => by have := HC.out; have := Q0.out; have := Q1.out; omega)), ires, iB⟩
          case measure => simp [intOf]; omega
    · have e0 : wr.cell? ⟨w.heap.size + 1, 0, none⟩ = some (.int .u64 ((W (hs k L H) 0 : Nat) : Int)) := hrow.cell (i := 0) (by omega)
      have e1 : wr.cell? ⟨w.heap.size + 1, 1, none⟩ = some (.int .u64 ((W (hs k L H) 1 : Nat) : Int)) := hrow.cell (i := 1) (by omega)
      have e2 : wr.cell? ⟨w.heap.size + 1, 2, none⟩ = some (.int .u64 ((W (hs k L H) 2 : Nat) : Int)) := hrow.cell (i := 2) (by omega)
      have e3 : wr.cell? ⟨w.heap.size + 1, 3, none⟩ = some (.int .u64 ((W (hs k L H) 3 : Nat) : Int)) := hrow.cell (i := 3) (by omega)
      have g0 := hres.cell (i := 0) (by omega)
      have g1 := hres.cell (i := 1) (by omega)
      have g2 := hres.cell (i := 2) (by omega)
      have g3 := hres.cell (i := 3) (by omega)
      have f0 := hres.frozen 0
      have f1 := hres.frozen 1
      have f2 := hres.frozen 2
      have f3 := hres.frozen 3
      go_wp2
      obtain rfl : k = n := by omega
      refine bodyPost_ret (v := .agg #[wc (hs k L H) 0, wc (hs k L H) 1, wc (hs k L H) 2, wc (hs k L H) 3]) (by simp [results, Tryd.results63, go_sem, g0, g1, g2, g3]) rfl ⟨rfl, ?_⟩
      exact (((hB.setCell (by simp) _).setCell (by simp) _).setCell (by simp) _).setCell (by simp) _
end Go.Proofs.YtolddecfibdblaaDoor

