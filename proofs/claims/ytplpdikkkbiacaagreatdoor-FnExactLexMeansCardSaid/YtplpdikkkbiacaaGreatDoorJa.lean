/- What lists of numbers and machines hold in memory; no Go text is walked here. -/
import Derived.Test.YtplpdikkkbiacaaGreatDoorTree
import Derived.Test.YtplpdikkkbiacaaGreatDoorWc
namespace Go.Proofs.YtplpdikkkbiacaaGreatDoor
open Go.RowKit
set_option linter.unusedVariables false
set_option linter.unusedSimpArgs false

abbrev AnyB : Nat → Prop := fun _ => True

theorem leftOf_neg {left : Int} {c : Nat} (h : left < c) : leftOf left c = -1 := by simp [leftOf, h]
theorem leftOf_pos {left : Int} {c : Nat} (h : ¬ left < c) : leftOf left c = left - c := by simp [leftOf, h]

set_option maxHeartbeats 1000000 in
theorem szRexS_of (m : Nat) (K : Nat → Sh) (M : Nat → Mx) (hm : m ≤ 9223372036854775807)
    (ih : ∀ i, i < m → ∀ (left : Int) (w : World), In AnyB w (K i) (M i) → 0 ≤ left → left ≤ 1048576 → Calls Tryz.prog 28 #[vx (K i) (M i), .int .i64 left] w fun e w' => e = .returned (.int .i64 (leftOf left (cnt (K i)))) ∧ Below w.heap.size w w')
    (a : Option Addr) (b off cap : Nat) (left : Int) (w : World) (hga : 0 < m → a = some ⟨b, off, none⟩) (hk : ∀ i, i < m → Kid w b (off + i * 3) (K i) (M i) ∧ In AnyB w (K i) (M i)) (h0 : 0 ≤ left) (h1 : left ≤ 1048576) :
    Calls Tryz.prog 40 #[.slice a m cap, .int .i64 left] w fun e w' => e = .returned (.int .i64 (leftOf left (m + sumN (fun i => cnt (K i)) m))) ∧ Below w.heap.size w w' := by
  by_cases hneg : left < m
  · have h' : left - (m : Int) < 0 := by omega
    have HR : Hid (leftOf left (m + sumN (fun i => cnt (K i)) m) = -1) := leftOf_neg (by omega)
    go_enter Tryz.func40, Tryz.ntmps40
    go_wp2_with fail
    go_ret
    exact ⟨ret_int HR.out.symm, Below.refl _ _⟩
  · have h' : ¬ left - (m : Int) < 0 := by omega
    go_enter Tryz.func40, Tryz.ntmps40
    go_wp2_with fail
    go_loopw [1, 5] (fun t i wr => ∃ (k : Nat) (s : Int), k ≤ m ∧ i = .int .i64 k ∧ t = .int .i64 s ∧ 0 ≤ s ∧ s ≤ 1048576 ∧ Hid (s = left - m - sumN (fun i => cnt (K i)) k) ∧ Below w.heap.size w wr)
      (fun _ i _ => m - (intOf i).toNat)
    case atStart => exact ⟨0, left - m, Nat.zero_le _, rfl, rfl, by omega, by omega, by simp [Hid, sumN], Below.refl _ _⟩
    case round =>
      obtain ⟨k, s, hk', rfl, rfl, hs0, hs1, HS, hB⟩ := hrel
      by_cases hlt : k < m
      · obtain rfl := hga (by omega)
        have hltz : (k : Int) < (m : Int) := by omega
        obtain ⟨⟨c1, c2, c3⟩, hin⟩ := hk k hlt
        have d1 : wr.cell? ⟨b, off + k * 3, none⟩ = _ := (hB.cell (p := ⟨b, _, none⟩) (World.block_lt_of_cell? _ _ c1)).trans c1
        have d2 : wr.cell? ⟨b, off + k * 3 + 1, none⟩ = _ := (hB.cell (p := ⟨b, _, none⟩) (World.block_lt_of_cell? _ _ c2)).trans c2
        have d3 : wr.cell? ⟨b, off + k * 3 + 2, none⟩ = _ := (hB.cell (p := ⟨b, _, none⟩) (World.block_lt_of_cell? _ _ c3)).trans c3
        have hcall := ih k hlt s wr (hin.below hB) hs0 hs1
        have HC : Hid (Calls Tryz.prog 28 #[vx (K k) (M k), .int .i64 s] wr fun e w' => e = .returned (.int .i64 (leftOf s (cnt (K k)))) ∧ Below wr.heap.size wr w') := hcall
        clear c1 c2 c3 hcall
        by_cases hlow : s < cnt (K k)
        · have e1 : leftOf s (cnt (K k)) = -1 := leftOf_neg hlow
          rw [e1] at HC
          have HR : Hid (leftOf left (m + sumN (fun i => cnt (K i)) m) = -1) := leftOf_neg (by have := sumN_at (f := fun i => cnt (K i)) hlt; have := HS.out; simp only at *; omega)
          clear e1
          go_wp2_with fail
          refine HC.out.mono ?_
          rintro e w1 ⟨rfl, hb1⟩
          go_wp2_with fail
          go_ret
          exact ⟨ret_int HR.out.symm, hB.trans (hb1.mono hB.size)⟩
        · have e1 : leftOf s (cnt (K k)) = s - cnt (K k) := leftOf_pos hlow
          rw [e1] at HC
          have h3 : ¬ s - (cnt (K k) : Int) < 0 := by omega
          clear e1
          go_wp2_with fail
          refine HC.out.mono ?_
          rintro e w1 ⟨rfl, hb1⟩
          go_wp2_with fail
          go_roundw
          case rel => exact ⟨k + 1, s - cnt (K k), by omega, by go_num, rfl, by omega, by omega, by have := HS.out; simp only [Hid, sumN]; omega, hB.trans (hb1.mono hB.size)⟩
          case measure => simp [intOf]; omega
      · go_wp2_with fail
        go_ret
        obtain rfl : k = m := by omega
        exact ⟨ret_int (by have := HS.out; rw [leftOf_pos (by omega)]; omega), hB⟩

set_option maxHeartbeats 1000000 in
theorem szRex_any (S : Sh) : ∀ (M : Mx) (left : Int) (w : World), In AnyB w S M → 0 ≤ left → left ≤ 1048576 →
    Calls Tryz.prog 28 #[vx S M, .int .i64 left] w fun e w' => e = .returned (.int .i64 (leftOf left (cnt S))) ∧ Below w.heap.size w w' := by
  induction S using Sh.ind with
  | h kind n L H m K ih =>
    intro M left w h h0 h1
    obtain ⟨sv, kv, M, rfl⟩ := Mx.cases M
    · skip
      obtain ⟨a, b, off, cap, a', b', off', cap', e1, hn, hs, hl, e2, hm, hl', hk⟩ := h
      obtain rfl : sv = _ := e1
      obtain rfl : kv = _ := e2
      simp only [Mx.mk_kid] at hk
      simp only [vx, Sh.mk_kind, Mx.mk_sv, Mx.mk_kv]
      have hsz := fun w => sz_any a n cap left w h0 h1 (by omega)
      by_cases hneg : left < n
      · simp only [if_pos hneg] at hsz
        have HZ : Hid (∀ w, Calls Tryz.prog 39 #[.slice a n cap, .int .i64 left] w fun e w' => e = .returned (.int .i64 (-1)) ∧ w' = w) := hsz
        have HR : Hid (leftOf left (cnt (.mk kind n L H m K)) = -1) := leftOf_neg (by simp only [cnt_mk]; omega)
        clear hsz ih hk
        go_enter Tryz.func28, Tryz.ntmps28
        go_wp2_with fail
        refine (HZ.out _).mono ?_
        rintro e w1 ⟨rfl, rfl⟩
        go_wp2_with fail
        go_ret
        exact ⟨ret_int HR.out.symm, (Below.refl _ _).alloc (Nat.le_refl _) _⟩
      · simp only [if_neg hneg] at hsz
        have HZ : Hid (∀ w, Calls Tryz.prog 39 #[.slice a n cap, .int .i64 left] w fun e w' => e = .returned (.int .i64 (left - n)) ∧ w' = w) := hsz
        have HI : Hid (∀ w1, Below w.heap.size w w1 → Calls Tryz.prog 40 #[.slice a' m cap', .int .i64 (left - n)] w1 fun e w' => e = .returned (.int .i64 (leftOf (left - n) (m + sumN (fun i => cnt (K i)) m))) ∧ Below w1.heap.size w1 w') := fun w1 hb1 =>
          szRexS_of m K M hl' (fun i hi => ih i hi (M i)) a' b' off' cap' (left - n) w1 (fun h => (hm h).1) (fun i hi => ⟨(hk i hi).1.keep (fun hlt => hb1.block _ hlt), (hk i hi).2.below hb1⟩) (by omega) (by omega)
        have h3 : ¬ left - (n : Int) < 0 := by omega
        clear hsz ih hk
        by_cases hlow : left - n < (m + sumN (fun i => cnt (K i)) m : Nat)
        · rw [show leftOf (left - n) (m + sumN (fun i => cnt (K i)) m) = -1 from leftOf_neg hlow] at HI
          have HR : Hid (leftOf left (cnt (.mk kind n L H m K)) = -1) := leftOf_neg (by simp only [cnt_mk]; omega)
          go_enter Tryz.func28, Tryz.ntmps28
          go_wp2_with fail
          refine (HZ.out _).mono ?_
          rintro e w1 ⟨rfl, rfl⟩
          go_wp2_with fail
          refine (HI.out _ ((Below.refl _ _).alloc (Nat.le_refl _) _)).mono ?_
          rintro e w2 ⟨rfl, hb2⟩
          go_wp2_with fail
          go_ret
          exact ⟨ret_int HR.out.symm, ((Below.refl _ _).alloc (Nat.le_refl _) _).trans (hb2.mono (by simp))⟩
        · rw [show leftOf (left - n) (m + sumN (fun i => cnt (K i)) m) = left - n - (m + sumN (fun i => cnt (K i)) m : Nat) from leftOf_pos hlow] at HI
          have HR : Hid (leftOf left (cnt (.mk kind n L H m K)) = left - n - (m + sumN (fun i => cnt (K i)) m : Nat)) := by
            have : leftOf left (cnt (.mk kind n L H m K)) = _ := leftOf_pos (by simp only [cnt_mk]; omega)
            rw [Hid, this]; simp only [cnt_mk]; omega
          have h4 : ¬ left - (n : Int) - ((m + sumN (fun i => cnt (K i)) m : Nat) : Int) < 0 := by omega
          obtain ⟨z, HZ2⟩ : ∃ z : Nat, Hid (m + sumN (fun i => cnt (K i)) m = z) := ⟨_, rfl⟩
          rw [HZ2.out] at HI HR h4
          go_enter Tryz.func28, Tryz.ntmps28
          go_wp2_with fail
          refine (HZ.out _).mono ?_
          rintro e w1 ⟨rfl, rfl⟩
          go_wp2_with fail
          refine (HI.out _ ((Below.refl _ _).alloc (Nat.le_refl _) _)).mono ?_
          rintro e w2 ⟨rfl, hb2⟩
          go_wp2_with fail
          go_ret
          exact ⟨ret_int HR.out.symm, ((Below.refl _ _).alloc (Nat.le_refl _) _).trans (hb2.mono (by simp))⟩

end Go.Proofs.YtplpdikkkbiacaaGreatDoor
namespace Go.Proofs.YtplpdikkkbiacaaGreatDoor
open Go.RowKit
set_option linter.unusedVariables false
set_option linter.unusedSimpArgs false

/-- n numbers lie in block b from off on -/
def Ip (w : World) (b off n : Nat) (G : Nat → Int) : Prop := ∀ i, i < n → w.cell? ⟨b, off + i, none⟩ = some (.int .i64 (G i))
theorem Ip.below {w w' : World} {b off n : Nat} {G : Nat → Int} (h : Ip w b off n G) (hb : Below w.heap.size w w') : Ip w' b off n G :=
  fun i hi => (hb.cell (p := ⟨b, _, none⟩) (World.block_lt_of_cell? _ _ (h i hi))).trans (h i hi)
theorem Ip.of_row {w : World} {b t n : Nat} {G : Nat → Int} (h : w.rowIs b t n (fun j => .int .i64 (G j))) : Ip w b 0 n G := by
  intro i hi
  have h1 := h.cell hi
  simpa using h1

/-- a list of lists of numbers: where each lies and what it is -/
structure Nsi where
  a : Nat → Option Addr
  b : Nat → Nat
  off : Nat → Nat
  cap : Nat → Nat
  n : Nat → Nat
  G : Nat → Nat → Int
/-- n lists lie in block b from off on, one cell each -/
def IS (w : World) (b off n : Nat) (N : Nsi) : Prop :=
  ∀ i, i < n → w.cell? ⟨b, off + i, none⟩ = some (.slice (N.a i) (N.n i) (N.cap i)) ∧ (0 < N.n i → N.a i = some ⟨N.b i, N.off i, none⟩) ∧ Ip w (N.b i) (N.off i) (N.n i) (N.G i)
theorem IS.below {w w' : World} {b off n : Nat} {N : Nsi} (h : IS w b off n N) (hb : Below w.heap.size w w') : IS w' b off n N := by
  intro i hi
  obtain ⟨h1, h2, h3⟩ := h i hi
  exact ⟨(hb.cell (p := ⟨b, _, none⟩) (World.block_lt_of_cell? _ _ h1)).trans h1, h2, h3.below hb⟩

/-- a machine: where its lists lie and what they are -/
structure Dx where
  pa : Option Addr
  pb : Nat
  poff : Nat
  pc : Nat
  pn : Nat
  P : Nest
  ra : Option Addr
  rb : Nat
  roff : Nat
  rc : Nat
  rn : Nat
  R : Nsi
  aa : Option Addr
  ab : Nat
  aoff : Nat
  ac : Nat
  an : Nat
  A : Nat → Int
/-- it as a value -/
def dv (D : Dx) : Value := .agg #[.slice D.pa D.pn D.pc, .slice D.ra D.rn D.rc, .slice D.aa D.an D.ac]
/-- it lies there -/
structure DIn (w : World) (D : Dx) : Prop where
  pg : 0 < D.pn → D.pa = some ⟨D.pb, D.poff, none⟩
  p : SS w D.pb D.poff D.pn D.P
  rg : 0 < D.rn → D.ra = some ⟨D.rb, D.roff, none⟩
  r : IS w D.rb D.roff D.rn D.R
  ag : 0 < D.an → D.aa = some ⟨D.ab, D.aoff, none⟩
  a : Ip w D.ab D.aoff D.an D.A
theorem DIn.below {w w' : World} {D : Dx} (h : DIn w D) (hb : Below w.heap.size w w') : DIn w' D := ⟨h.pg, h.p.below hb, h.rg, h.r.below hb, h.ag, h.a.below hb⟩

/-- all lists are of so many at most -/
structure DLe (D : Dx) (m : Nat) : Prop where
  p : D.pn ≤ m
  pi : ∀ i, i < D.pn → D.P.n i ≤ m
  r : D.rn ≤ m
  ri : ∀ i, i < D.rn → D.R.n i ≤ m
  a : D.an ≤ m
theorem DLe.mono {D : Dx} {m m' : Nat} (h : DLe D m) (e : m ≤ m') : DLe D m' :=
  ⟨Nat.le_trans h.p e, fun i hi => Nat.le_trans (h.pi i hi) e, Nat.le_trans h.r e, fun i hi => Nat.le_trans (h.ri i hi) e, Nat.le_trans h.a e⟩

/-- the two lists of sets are one -/
def PEq (n : Nat) (N : Nest) (m : Nat) (N' : Nest) : Prop := n = m ∧ ∀ i, i < n → N.n i = N'.n i ∧ ∀ j, j < N.n i → N.L i j = N'.L i j ∧ N.H i j = N'.H i j
/-- the two lists of lists are one -/
def REq (n : Nat) (N : Nsi) (m : Nat) (N' : Nsi) : Prop := n = m ∧ ∀ i, i < n → N.n i = N'.n i ∧ ∀ j, j < N.n i → N.G i j = N'.G i j
/-- the two lists are one -/
def AEq (n : Nat) (G : Nat → Int) (m : Nat) (G' : Nat → Int) : Prop := n = m ∧ ∀ i, i < n → G i = G' i
/-- the two machines are one -/
def DEq (D D' : Dx) : Prop := PEq D.pn D.P D'.pn D'.P ∧ REq D.rn D.R D'.rn D'.R ∧ AEq D.an D.A D'.an D'.A
theorem DEq.refl (D : Dx) : DEq D D := ⟨⟨rfl, fun _ _ => ⟨rfl, fun _ _ => ⟨rfl, rfl⟩⟩⟩, ⟨rfl, fun _ _ => ⟨rfl, fun _ _ => rfl⟩⟩, ⟨rfl, fun _ _ => rfl⟩⟩
theorem PEq.symm {n : Nat} {N : Nest} {m : Nat} {N' : Nest} (h : PEq n N m N') : PEq m N' n N := by
  obtain ⟨rfl, h⟩ := h
  exact ⟨rfl, fun i hi => ⟨(h i hi).1.symm, fun j hj => ⟨((h i hi).2 j (by rw [(h i hi).1]; exact hj)).1.symm, ((h i hi).2 j (by rw [(h i hi).1]; exact hj)).2.symm⟩⟩⟩
theorem REq.symm {n : Nat} {N : Nsi} {m : Nat} {N' : Nsi} (h : REq n N m N') : REq m N' n N := by
  obtain ⟨rfl, h⟩ := h
  exact ⟨rfl, fun i hi => ⟨(h i hi).1.symm, fun j hj => ((h i hi).2 j (by rw [(h i hi).1]; exact hj)).symm⟩⟩
theorem AEq.symm {n : Nat} {G : Nat → Int} {m : Nat} {G' : Nat → Int} (h : AEq n G m G') : AEq m G' n G := by
  obtain ⟨rfl, h⟩ := h
  exact ⟨rfl, fun i hi => (h i hi).symm⟩
theorem DEq.symm {D D' : Dx} (h : DEq D D') : DEq D' D := ⟨h.1.symm, h.2.1.symm, h.2.2.symm⟩
theorem PEq.trans {n : Nat} {N : Nest} {m : Nat} {N' : Nest} {k : Nat} {N2 : Nest} (h : PEq n N m N') (h' : PEq m N' k N2) : PEq n N k N2 := by
  obtain ⟨rfl, h⟩ := h
  obtain ⟨rfl, h'⟩ := h'
  exact ⟨rfl, fun i hi => ⟨(h i hi).1.trans (h' i hi).1, fun j hj => ⟨((h i hi).2 j hj).1.trans ((h' i hi).2 j (by rw [← (h i hi).1]; exact hj)).1, ((h i hi).2 j hj).2.trans ((h' i hi).2 j (by rw [← (h i hi).1]; exact hj)).2⟩⟩⟩
theorem REq.trans {n : Nat} {N : Nsi} {m : Nat} {N' : Nsi} {k : Nat} {N2 : Nsi} (h : REq n N m N') (h' : REq m N' k N2) : REq n N k N2 := by
  obtain ⟨rfl, h⟩ := h
  obtain ⟨rfl, h'⟩ := h'
  exact ⟨rfl, fun i hi => ⟨(h i hi).1.trans (h' i hi).1, fun j hj => ((h i hi).2 j hj).trans ((h' i hi).2 j (by rw [← (h i hi).1]; exact hj))⟩⟩
theorem DEq.trans {D D' D2 : Dx} (h : DEq D D') (h' : DEq D' D2) : DEq D D2 :=
  ⟨h.1.trans h'.1, h.2.1.trans h'.2.1, ⟨h.2.2.1.trans h'.2.2.1, fun i hi => (h.2.2.2 i hi).trans (h'.2.2.2 i (by rw [← h.2.2.1]; exact hi))⟩⟩
end Go.Proofs.YtplpdikkkbiacaaGreatDoor

