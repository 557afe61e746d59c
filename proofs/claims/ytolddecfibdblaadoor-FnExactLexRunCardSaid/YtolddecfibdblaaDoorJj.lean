/- the walk of the project's partsOk -/
import Derived.Test.YtolddecfibdblaaDoorJi
import Derived.Test.YtolddecfibdblaaDoorJe
import Derived.Deep.CutRange
import Derived.Deep.RegionHeld
import Derived.Deep.RegionLaw
import Derived.Test.YtolddecfibdblaaDoorDk
namespace Go.Proofs.YtolddecfibdblaaDoor
open Go.RowKit
set_option linter.unusedVariables false
set_option linter.unusedSimpArgs false

/-- the first byte of the last of the first k, or -1 -/
def LastR (N : Nest) (k : Nat) (r : Int) : Prop := (k = 0 ∧ r = -1) ∨ (0 < k ∧ FirstB (Sb N (k - 1)) r)
theorem LastR.bd {N : Nest} {k : Nat} {r : Int} (h : LastR N k r) : -1 ≤ r ∧ r < 256 := by
  rcases h with ⟨_, rfl⟩ | ⟨_, h⟩
  · omega
  · exact h.bd
/-- what is asked of set k behind those ahead of it, as the project asks it -/
theorem pat_iff {N : Nest} {k : Nat} {l r : Int} (hP : PUpto N k) (hl : LastR N k l) (hr : FirstB (Sb N k) r) (hok : okB (N.n k) (N.L k) (N.H k) = true) :
    PAt N k ↔ l < r ∧ Dis (Sb N k) (uni N k) := by
  constructor
  · intro h
    refine ⟨?_, fun x hx ⟨h1, h2⟩ => ?_⟩
    · rcases hl with ⟨_, rfl⟩ | ⟨h0, hf⟩
      · have := hr.pos h.ne; omega
      · exact h.ord h0 _ _ hf hr
    · obtain ⟨j, hj, h3⟩ := uni_iff.1 h2
      exact h.dis j hj x hx ⟨h1, h3⟩
  · rintro ⟨h1, h2⟩
    have hb := hl.bd
    refine ⟨hok, hr.ne (by omega), fun h0 x y hx hy => ?_, fun j hj x hx ⟨h3, h4⟩ => h2 x hx ⟨h3, uni_iff.2 ⟨j, hj, h4⟩⟩⟩
    rcases hl with ⟨e, _⟩ | ⟨_, hf⟩
    · omega
    · rw [hx.unique hf, hy.unique hr]; exact h1

/-- the three boxes: no bytes, the bytes met, the bytes of this one -/
structure Bst (w : World) (s : Nat) (B m : Nat → Bool) (V : World) : Prop where
  none : V.rowIs w.heap.size 92 4 (wc (fun _ => false))
  met : V.rowIs (w.heap.size + 1) 92 4 (wc m)
  this : V.rowIs s 92 4 (wc B)
  tab : TabZ V
  bel : Below w.heap.size w V
  lt : w.heap.size + 1 < s
  old : 0 < w.heap.size
theorem Bst.below {w : World} {s : Nat} {B m : Nat → Bool} {V V' : World} (h : Bst w s B m V) (hb : Below V.heap.size V V') : Bst w s B m V' :=
  ⟨row_below h.none hb, row_below h.met hb, row_below h.this hb, h.tab.below hb, h.bel.trans (hb.mono h.bel.size), h.lt, h.old⟩
theorem Bst.store {w : World} {s : Nat} {B m m' : Nat → Bool} {V : World} (h : Bst w s B m V) :
    Bst w s B m' ((((V.setCell ⟨w.heap.size + 1, 0, .none⟩ (wc m' 0)).setCell ⟨w.heap.size + 1, 1, .none⟩ (wc m' 1)).setCell ⟨w.heap.size + 1, 2, .none⟩ (wc m' 2)).setCell ⟨w.heap.size + 1, 3, .none⟩ (wc m' 3)) := by
  have hl := h.lt
  have ho := h.old
  have hk : ∀ x, x ≠ w.heap.size + 1 → ((((V.setCell ⟨w.heap.size + 1, 0, .none⟩ (wc m' 0)).setCell ⟨w.heap.size + 1, 1, .none⟩ (wc m' 1)).setCell ⟨w.heap.size + 1, 2, .none⟩ (wc m' 2)).setCell ⟨w.heap.size + 1, 3, .none⟩ (wc m' 3)).heap[x]? = V.heap[x]? := fun x hx => by
    rw [Below.heap_setCell _ _ _ _ (by simpa using hx), Below.heap_setCell _ _ _ _ (by simpa using hx), Below.heap_setCell _ _ _ _ (by simpa using hx), Below.heap_setCell _ _ _ _ (by simpa using hx)]
  refine ⟨h.none.of_block (hk _ (by omega)), ?_, h.this.of_block (hk _ (by omega)), fun i hi => ?_, (((h.bel.setCell (by simp) _).setCell (by simp) _).setCell (by simp) _).setCell (by simp) _, hl, ho⟩
  · refine ((((h.met.set 0 _).set 1 _).set 2 _).set 3 _).congr (fun i hi => ?_)
    match i, hi with
    | 0, _ => simp
    | 1, _ => simp
    | 2, _ => simp
    | 3, _ => simp
  · rw [World.cell?_of_block (w := V) (a := ⟨0, i, .none⟩) (hk 0 (by omega))]
    exact h.tab i hi
theorem Bst.cells {w : World} {s : Nat} {B m : Nat → Bool} {V : World} (h : Bst w s B m V) :
    (V.cell? ⟨s, 0, .none⟩ = some (.int .u64 ((W B 0 : Nat) : Int)) ∧ V.cell? ⟨s, 1, .none⟩ = some (.int .u64 ((W B 1 : Nat) : Int)) ∧ V.cell? ⟨s, 2, .none⟩ = some (.int .u64 ((W B 2 : Nat) : Int)) ∧ V.cell? ⟨s, 3, .none⟩ = some (.int .u64 ((W B 3 : Nat) : Int))) ∧
    (V.cell? ⟨w.heap.size + 1, 0, .none⟩ = some (.int .u64 ((W m 0 : Nat) : Int)) ∧ V.cell? ⟨w.heap.size + 1, 1, .none⟩ = some (.int .u64 ((W m 1 : Nat) : Int)) ∧ V.cell? ⟨w.heap.size + 1, 2, .none⟩ = some (.int .u64 ((W m 2 : Nat) : Int)) ∧ V.cell? ⟨w.heap.size + 1, 3, .none⟩ = some (.int .u64 ((W m 3 : Nat) : Int))) ∧
    (V.frozen? ⟨w.heap.size + 1, 0, .none⟩ = false ∧ V.frozen? ⟨w.heap.size + 1, 1, .none⟩ = false ∧ V.frozen? ⟨w.heap.size + 1, 2, .none⟩ = false ∧ V.frozen? ⟨w.heap.size + 1, 3, .none⟩ = false) :=
  ⟨⟨h.this.cell (by omega), h.this.cell (by omega), h.this.cell (by omega), h.this.cell (by omega)⟩, ⟨h.met.cell (by omega), h.met.cell (by omega), h.met.cell (by omega), h.met.cell (by omega)⟩, ⟨h.met.frozen 0, h.met.frozen 1, h.met.frozen 2, h.met.frozen 3⟩⟩
theorem entersFirst : ∀ args w, (callFunc 64 args).run Tryd.prog w = .ok (.enter 64 args) w := enters_of Tryd.func64 (by kernel_rfl) rfl
theorem entersJoin : ∀ args w, (callFunc 66 args).run Tryd.prog w = .ok (.enter 66 args) w := enters_of Tryd.func66 (by kernel_rfl) rfl

set_option maxRecDepth 100000 in
set_option maxHeartbeats 4000000 in
theorem implParts_any (a : Option Addr) (b off cap n : Nat) (N : Nest) (w : World) (ht : TabZ w) (hw0 : 0 < w.heap.size) (hga : 0 < n → a = some ⟨b, off, none⟩) (hc : SS w b off n N) (hn : n ≤ 4194304) (hni : ∀ i, i < n → N.n i ≤ 4194304) :
    Calls Tryd.prog 48 #[.slice a n cap] w (IsB (PartsGood n N) w) := by
  have hneq := neqBits
  have heql := eqlBits
  go_enter Tryd.func48, Tryd.ntmps48
  go_wp2_with fail
  go_loopw [5, 13] (fun l i wr => ∃ (k : Nat) (r : Int), k ≤ n ∧ i = .int .i64 k ∧ l = .int .i64 r ∧ wr.rowIs w.heap.size 92 4 (wc (fun _ => false)) ∧ wr.rowIs (w.heap.size + 1) 92 4 (wc (uni N k)) ∧ Hid (PUpto N k ∧ LastR N k r) ∧ Below w.heap.size w wr) (fun _ i _ => n - (intOf i).toNat)
  case atStart =>
    refine ⟨0, -1, Nat.zero_le _, rfl, rfl, (zero_row w (fun _ => false) rfl).alloc _, ?_, ⟨fun i hi => absurd hi (Nat.not_lt_zero _), .inl ⟨rfl, rfl⟩⟩, ((Below.refl _ _).alloc (Nat.le_refl _) _).alloc (by simp) _⟩
    have h := zero_row (w.alloc (.cells #[.int .u64 0, .int .u64 0, .int .u64 0, .int .u64 0] 92)) (uni N 0) rfl
    rw [World.size_alloc] at h
    exact h
  case round =>
    obtain ⟨k, l, hk, rfl, rfl, r1, r2, HP, hB⟩ := hrel
    by_cases hlt : k < n
    · obtain rfl := hga (by omega)
      have hltz : (k : Int) < (n : Int) := by omega
      obtain ⟨c1, g1, s1⟩ := (hc.below hB) k hlt
      have HSP : Hid (∀ V, Below wr.heap.size wr V → Sp V (N.b k) (N.off k) (N.n k) (N.L k) (N.H k)) := fun V hV => s1.below hV
      have HR1 : Hid (∀ V, Below wr.heap.size wr V → V.rowIs w.heap.size 92 4 (wc (fun _ => false)) ∧ V.rowIs (w.heap.size + 1) 92 4 (wc (uni N k))) := fun V hV => ⟨row_below r1 hV, row_below r2 hV⟩
      have HG : Hid (0 < N.n k → N.a k = some ⟨N.b k, N.off k, none⟩) := g1
      have hsz := r2.lt
      have HO := implSetOk_any (N.a k) (N.b k) (N.off k) (N.cap k) (N.n k) (N.L k) (N.H k) wr g1 s1 (hni k hlt)
      have HOK : Hid (Calls Tryd.prog 62 #[.slice (N.a k) (N.n k) (N.cap k)] wr fun e w' => e = .returned (.bool (okB (N.n k) (N.L k) (N.H k))) ∧ Below wr.heap.size wr w') := HO
      clear r1 r2 g1 s1 HO
      cases hok : okB (N.n k) (N.L k) (N.H k)
      · rw [hok] at HOK
        have HNO : Hid (¬ PartsGood n N) := fun h => by rw [(h.1 k hlt).ok] at hok; cases hok
        clear hok
        go_wp2_with fail
        refine HOK.out.mono ?_
        rintro e w1 ⟨rfl, hb1⟩
        go_wp2_with fail
        go_ret
        exact .no HNO.out (hB.trans (hb1.mono hB.size))
      have HOKT : Hid (okB (N.n k) (N.L k) (N.H k) = true) := hok
      rw [hok] at HOK
      clear hok
      go_wp2_with fail
      refine HOK.out.mono ?_
      rintro e w1 ⟨rfl, hb1⟩
      have HBO : Hid (Calls Tryd.prog 63 #[.slice (N.a k) (N.n k) (N.cap k)] w1 fun e w' => e = .returned (bv (Sb N k)) ∧ Below w1.heap.size w1 w') := bitsOf_any _ _ _ _ _ _ _ _ HG.out (HSP.out _ hb1) (hni k hlt)
      go_wp2_with fail
      refine HBO.out.mono ?_
      rintro e w2 ⟨rfl, hb2⟩
      go_wp2_with fail
      obtain ⟨W3, hW3⟩ : ∃ W3, W3 = w2.alloc (.cells #[wc (Sb N k) 0, wc (Sb N k) 1, wc (Sb N k) 2, wc (Sb N k) 3] 92) := ⟨_, rfl⟩
      have hb12 := hb1.trans (hb2.mono hb1.size)
      have hb3 : Below wr.heap.size wr W3 := by rw [hW3]; exact hb12.alloc hb12.size _
      have hbx := box_row w2 (Sb N k)
      rw [← hW3] at hbx
      have hsz2 : w.heap.size + 1 < w2.heap.size := by have := hb12.size; omega
      have hsz3 : w2.heap.size < W3.heap.size := hbx.lt
      rw [← hW3]
      have HW : Hid (Below w.heap.size w W3) := hB.trans (hb3.mono hB.size)
      have HRR : Hid (∀ V, Below W3.heap.size W3 V → V.rowIs w.heap.size 92 4 (wc (fun _ => false)) ∧ V.rowIs (w.heap.size + 1) 92 4 (wc (uni N k)) ∧ V.rowIs w2.heap.size 92 4 (wc (Sb N k))) := fun V hV =>
        ⟨(HR1.out V (hb3.trans (hV.mono hb3.size))).1, (HR1.out V (hb3.trans (hV.mono hb3.size))).2, row_below hbx hV⟩
      have HTB : Hid (∀ V, Below W3.heap.size W3 V → TabZ V) := fun V hV => (ht.below HW.out).below hV
      clear hW3 hb1 hb2 hb12 hb3 hbx hB HR1 HSP HG HOK HBO c1
      obtain ⟨r, hr⟩ := first_exists (Sb N k)
      have HFR : Hid (FirstB (Sb N k) r) := hr
      clear hr
      have HF1 : Hid (∀ V, Below W3.heap.size W3 V → Calls Tryd.prog 64 #[.agg #[.int .u64 ((W (Sb N k) 0 : Nat) : Int), .int .u64 ((W (Sb N k) 1 : Nat) : Int), .int .u64 ((W (Sb N k) 2 : Nat) : Int), .int .u64 ((W (Sb N k) 3 : Nat) : Int)]] V fun e w' => e = .returned (.int .i64 r) ∧ Below V.heap.size V w') := fun V hV =>
        (first_any (Sb N k) V (HTB.out V hV)).mono fun e w' ⟨r', e1, e2, e3⟩ => ⟨by rw [e1, e2.unique HFR.out], e3⟩
      have hP1 : LastR N k l := HP.out.2
      by_cases hle : r ≤ l
      · have HNO : Hid (¬ PartsGood n N) := fun h => by
          have := ((pat_iff HP.out.1 HP.out.2 HFR.out HOKT.out).1 (h.1 k hlt)).1
          omega
        obtain ⟨q1, q2, q3⟩ := HRR.out W3 (Below.refl _ _)
        have z0 : W3.cell? ⟨w2.heap.size, 0, none⟩ = some (.int .u64 ((W (Sb N k) 0 : Nat) : Int)) := q3.cell (by omega)
        have z1 : W3.cell? ⟨w2.heap.size, 1, none⟩ = some (.int .u64 ((W (Sb N k) 1 : Nat) : Int)) := q3.cell (by omega)
        have z2 : W3.cell? ⟨w2.heap.size, 2, none⟩ = some (.int .u64 ((W (Sb N k) 2 : Nat) : Int)) := q3.cell (by omega)
        have z3 : W3.cell? ⟨w2.heap.size, 3, none⟩ = some (.int .u64 ((W (Sb N k) 3 : Nat) : Int)) := q3.cell (by omega)
        clear q1 q2 q3 hP1
        have HBD : Hid (Below W3.heap.size W3 W3.drew) := (Below.refl _ _).drew
        have hund : undef = Value.tuple #[] := rfl
        have hled : decide (r ≤ l) = true := by simp [hle]
        clear hle
        first
          | go_region_with (go_at_call 64; (first | refine (HF1.out _ HBD.out).mono ?_ | refine (HF1.out _ (Below.refl _ _)).mono ?_); rintro e w5 ⟨rfl, hb5⟩)
          | fail
        all_goals go_wp2_with fail
        all_goals
          go_ret
          exact .no HNO.out (HW.out.trans ((HBD.out.trans (hb5.mono HBD.out.size)).mono HW.out.size))
      clear hP1
      go_cut [32] from 22 to 32 (fun s wc => ∃ bad : Bool, s = .bool bad ∧ Hid (bad = false ↔ l < r ∧ Dis (Sb N k) (uni N k)) ∧ Below W3.heap.size W3 wc)
      case first =>
          have HBD : Hid (Below W3.heap.size W3 W3.drew) := (Below.refl _ _).drew
          have hled : decide (r ≤ l) = false := by simp; omega
          have HLT : Hid (l < r) := by show l < r; omega
          have HCE : Hid (∀ V, Below W3.heap.size W3 V → (V.cell? ⟨w2.heap.size, 0, none⟩ = some (.int .u64 ((W (Sb N k) 0 : Nat) : Int)) ∧ V.cell? ⟨w2.heap.size, 1, none⟩ = some (.int .u64 ((W (Sb N k) 1 : Nat) : Int)) ∧ V.cell? ⟨w2.heap.size, 2, none⟩ = some (.int .u64 ((W (Sb N k) 2 : Nat) : Int)) ∧ V.cell? ⟨w2.heap.size, 3, none⟩ = some (.int .u64 ((W (Sb N k) 3 : Nat) : Int))) ∧ (V.cell? ⟨w.heap.size + 1, 0, none⟩ = some (.int .u64 ((W (uni N k) 0 : Nat) : Int)) ∧ V.cell? ⟨w.heap.size + 1, 1, none⟩ = some (.int .u64 ((W (uni N k) 1 : Nat) : Int)) ∧ V.cell? ⟨w.heap.size + 1, 2, none⟩ = some (.int .u64 ((W (uni N k) 2 : Nat) : Int)) ∧ V.cell? ⟨w.heap.size + 1, 3, none⟩ = some (.int .u64 ((W (uni N k) 3 : Nat) : Int))) ∧ (V.cell? ⟨w.heap.size, 0, none⟩ = some (.int .u64 ((W (fun _ => false) 0 : Nat) : Int)) ∧ V.cell? ⟨w.heap.size, 1, none⟩ = some (.int .u64 ((W (fun _ => false) 1 : Nat) : Int)) ∧ V.cell? ⟨w.heap.size, 2, none⟩ = some (.int .u64 ((W (fun _ => false) 2 : Nat) : Int)) ∧ V.cell? ⟨w.heap.size, 3, none⟩ = some (.int .u64 ((W (fun _ => false) 3 : Nat) : Int)))) := fun V hV => by
            obtain ⟨q1, q2, q3⟩ := HRR.out V hV
            exact ⟨⟨q3.cell (by omega), q3.cell (by omega), q3.cell (by omega), q3.cell (by omega)⟩, ⟨q2.cell (by omega), q2.cell (by omega), q2.cell (by omega), q2.cell (by omega)⟩, ⟨q1.cell (by omega), q1.cell (by omega), q1.cell (by omega), q1.cell (by omega)⟩⟩
          have HME : Hid (∀ V, Calls Tryd.prog 65 #[.agg #[.int .u64 ((W (Sb N k) 0 : Nat) : Int), .int .u64 ((W (Sb N k) 1 : Nat) : Int), .int .u64 ((W (Sb N k) 2 : Nat) : Int), .int .u64 ((W (Sb N k) 3 : Nat) : Int)], .agg #[.int .u64 ((W (uni N k) 0 : Nat) : Int), .int .u64 ((W (uni N k) 1 : Nat) : Int), .int .u64 ((W (uni N k) 2 : Nat) : Int), .int .u64 ((W (uni N k) 3 : Nat) : Int)]] V fun e w' => e = .returned (bv (fun x => Sb N k x && uni N k x)) ∧ Below V.heap.size V w') := fun V => meet_any (Sb N k) (uni N k) V
          clear hle
          obtain ⟨⟨s0, s1, s2, s3⟩, ⟨m0, m1, m2, m3⟩, o0, o1, o2, o3⟩ := HCE.out W3 (Below.refl _ _)
          go_region_held (fun V => (V.cell? ⟨w2.heap.size, 0, none⟩ = some (.int .u64 ((W (Sb N k) 0 : Nat) : Int)) ∧ V.cell? ⟨w2.heap.size, 1, none⟩ = some (.int .u64 ((W (Sb N k) 1 : Nat) : Int)) ∧ V.cell? ⟨w2.heap.size, 2, none⟩ = some (.int .u64 ((W (Sb N k) 2 : Nat) : Int)) ∧ V.cell? ⟨w2.heap.size, 3, none⟩ = some (.int .u64 ((W (Sb N k) 3 : Nat) : Int))) ∧ (V.cell? ⟨w.heap.size + 1, 0, none⟩ = some (.int .u64 ((W (uni N k) 0 : Nat) : Int)) ∧ V.cell? ⟨w.heap.size + 1, 1, none⟩ = some (.int .u64 ((W (uni N k) 1 : Nat) : Int)) ∧ V.cell? ⟨w.heap.size + 1, 2, none⟩ = some (.int .u64 ((W (uni N k) 2 : Nat) : Int)) ∧ V.cell? ⟨w.heap.size + 1, 3, none⟩ = some (.int .u64 ((W (uni N k) 3 : Nat) : Int))) ∧ (V.cell? ⟨w.heap.size, 0, none⟩ = some (.int .u64 ((W (fun _ => false) 0 : Nat) : Int)) ∧ V.cell? ⟨w.heap.size, 1, none⟩ = some (.int .u64 ((W (fun _ => false) 1 : Nat) : Int)) ∧ V.cell? ⟨w.heap.size, 2, none⟩ = some (.int .u64 ((W (fun _ => false) 2 : Nat) : Int)) ∧ V.cell? ⟨w.heap.size, 3, none⟩ = some (.int .u64 ((W (fun _ => false) 3 : Nat) : Int)))) (go_keep)
            (first
              | (go_at_call 65; refine (HME.out _).mono ?_; rintro e w6 ⟨rfl, hb6⟩; obtain ⟨⟨x0, x1, x2, x3⟩, ⟨y0, y1, y2, y3⟩, p0, p1, p2, p3⟩ := HCE.out w6 (HB5.out.trans (hb6.mono HB5.out.size)))
              | (go_at_call 64; refine (HF1.out _ HBD.out).mono ?_; rintro e w5 ⟨rfl, hb5⟩; have HB5 : Hid (Below W3.heap.size W3 w5) := HBD.out.trans (hb5.mono HBD.out.size); obtain ⟨⟨x0, x1, x2, x3⟩, ⟨y0, y1, y2, y3⟩, p0, p1, p2, p3⟩ := HCE.out w5 HB5.out))
          all_goals go_wp2_with fail
          all_goals go_meet
          all_goals
            refine ⟨!sameB (fun x => Sb N k x && uni N k x) (fun _ => false), rfl, ?_, HB5.out.trans (hb6.mono HB5.out.size)⟩
            rw [Hid, Bool.not_eq_false', sameB_iff]
            constructor
            · intro h
              refine ⟨HLT.out, fun x hx ⟨h1, h2⟩ => ?_⟩
              have := h x hx
              simp [h1, h2] at this
            · rintro ⟨_, h⟩ x hx
              have := h x hx
              cases h1 : Sb N k x <;> cases h2 : uni N k x <;> simp_all
      case rest =>
        obtain ⟨bad, rfl, HL, hbc⟩ := hcut
        rename World => W5
        cases bad
        case true =>
          go_wp2_with fail
          go_ret
          refine .no (fun h => ?_) (HW.out.trans (hbc.mono HW.out.size))
          have h1 := (pat_iff HP.out.1 HP.out.2 HFR.out HOKT.out).1 (h.1 k hlt)
          have := HL.out.2 h1
          cases this
        have HPN : Hid (PUpto N (k + 1) ∧ LastR N (k + 1) r) := ⟨HP.out.1.snoc ((pat_iff HP.out.1 HP.out.2 HFR.out HOKT.out).2 (HL.out.1 rfl)), .inr ⟨by omega, HFR.out⟩⟩
        have HV : Hid (Bst w w2.heap.size (Sb N k) (uni N k) W5) := by
          obtain ⟨q1, q2, q3⟩ := HRR.out W5 hbc
          exact ⟨q1, q2, q3, HTB.out _ hbc, HW.out.trans (hbc.mono HW.out.size), hsz2, hw0⟩
        have HFT : Hid (∀ V, TabZ V → Calls Tryd.prog 64 #[(.agg #[.int .u64 ((W (Sb N k) 0 : Nat) : Int), .int .u64 ((W (Sb N k) 1 : Nat) : Int), .int .u64 ((W (Sb N k) 2 : Nat) : Int), .int .u64 ((W (Sb N k) 3 : Nat) : Int)])] V fun e w' => e = .returned (.int .i64 r) ∧ Below V.heap.size V w') := fun V hV =>
          (first_any (Sb N k) V hV).mono fun e w' ⟨r', e1, e2, e3⟩ => ⟨by rw [e1, e2.unique HFR.out], e3⟩
        have HJO : Hid (∀ V, Calls Tryd.prog 66 #[(.agg #[.int .u64 ((W (uni N k) 0 : Nat) : Int), .int .u64 ((W (uni N k) 1 : Nat) : Int), .int .u64 ((W (uni N k) 2 : Nat) : Int), .int .u64 ((W (uni N k) 3 : Nat) : Int)]), (.agg #[.int .u64 ((W (Sb N k) 0 : Nat) : Int), .int .u64 ((W (Sb N k) 1 : Nat) : Int), .int .u64 ((W (Sb N k) 2 : Nat) : Int), .int .u64 ((W (Sb N k) 3 : Nat) : Int)])] V fun e w' => e = .returned (.agg #[.int .u64 ((W (uni N (k + 1)) 0 : Nat) : Int), .int .u64 ((W (uni N (k + 1)) 1 : Nat) : Int), .int .u64 ((W (uni N (k + 1)) 2 : Nat) : Int), .int .u64 ((W (uni N (k + 1)) 3 : Nat) : Int)]) ∧ Below V.heap.size V w') := fun V => join_any (uni N k) (Sb N k) V
        have hne1 : w2.heap.size ≠ w.heap.size + 1 := by omega
        have hne2 : w.heap.size + 1 ≠ w2.heap.size := by omega
        clear hbc HL HF1 HTB HRR
        obtain ⟨⟨s0, s1, s2, s3⟩, ⟨m0, m1, m2, m3⟩, f0, f1, f2, f3⟩ := HV.out.cells
        have HVD : Hid (Bst w w2.heap.size (Sb N k) (uni N k) W5.drew) := HV.out.below (Below.refl _ _).drew
        go_wp2_with fail
        go_region_law (first
          | (refine step_call2 rfl 66 _ _ 92 92 rfl entersJoin (.agg #[.int .u64 ((W (uni N k) 0 : Nat) : Int), .int .u64 ((W (uni N k) 1 : Nat) : Int), .int .u64 ((W (uni N k) 2 : Nat) : Int), .int .u64 ((W (uni N k) 3 : Nat) : Int)]) (.agg #[.int .u64 ((W (Sb N k) 0 : Nat) : Int), .int .u64 ((W (Sb N k) 1 : Nat) : Int), .int .u64 ((W (Sb N k) 2 : Nat) : Int), .int .u64 ((W (Sb N k) 3 : Nat) : Int)]) rfl rfl (HJO.out _) (fun e w' h => ⟨_, h.1⟩) ?_
             intro rr w6 hres
             obtain ⟨hrv, hb6⟩ := hres
             obtain rfl := Ending.returned.inj hrv
             first
               | (have HVD : Hid (Bst w w2.heap.size (Sb N k) (uni N k) w6) := HVD.out.below hb6
                  obtain ⟨⟨x0, x1, x2, x3⟩, ⟨y0, y1, y2, y3⟩, g0, g1, g2, g3⟩ := HVD.out.cells)
             clear hrv hb6)
          | (refine step_call1 rfl 64 _ 92 rfl entersFirst (.agg #[.int .u64 ((W (Sb N k) 0 : Nat) : Int), .int .u64 ((W (Sb N k) 1 : Nat) : Int), .int .u64 ((W (Sb N k) 2 : Nat) : Int), .int .u64 ((W (Sb N k) 3 : Nat) : Int)]) rfl (HFT.out _ HVD.out.tab) (fun e w' h => ⟨_, h.1⟩) ?_
             intro rr w6 hres
             obtain ⟨hrv, hb6⟩ := hres
             obtain rfl := Ending.returned.inj hrv
             have HVD : Hid (Bst w w2.heap.size (Sb N k) (uni N k) w6) := HVD.out.below hb6
             obtain ⟨⟨x0, x1, x2, x3⟩, ⟨y0, y1, y2, y3⟩, g0, g1, g2, g3⟩ := HVD.out.cells
             clear hrv hb6)
          | (refine step_call1 rfl 64 _ 92 rfl entersFirst (.agg #[.int .u64 ((W (Sb N k) 0 : Nat) : Int), .int .u64 ((W (Sb N k) 1 : Nat) : Int), .int .u64 ((W (Sb N k) 2 : Nat) : Int), .int .u64 ((W (Sb N k) 3 : Nat) : Int)]) rfl (HFT.out _ (HVD.out.store (m' := uni N (k + 1))).tab) (fun e w' h => ⟨_, h.1⟩) ?_
             intro rr w6 hres
             obtain ⟨hrv, hb6⟩ := hres
             obtain rfl := Ending.returned.inj hrv
             have HVE : Hid (Bst w w2.heap.size (Sb N k) (uni N (k + 1)) w6) := (HVD.out.store (m' := uni N (k + 1))).below hb6
             obtain ⟨⟨x0, x1, x2, x3⟩, ⟨y0, y1, y2, y3⟩, g0, g1, g2, g3⟩ := HVE.out.cells
             clear hrv hb6))
        all_goals go_wp2_with fail
        all_goals go_roundw
        all_goals first
          | exact ⟨k + 1, r, by omega, by go_num, rfl, HVE.out.none, HVE.out.met, HPN.out, HVE.out.bel⟩
          | exact ⟨k + 1, r, by omega, by go_num, rfl, (HVD.out.store (m' := uni N (k + 1))).none, (HVD.out.store (m' := uni N (k + 1))).met, HPN.out, (HVD.out.store (m' := uni N (k + 1))).bel⟩
          | (simp [intOf]; omega)
    · have hltz : ¬ (k : Int) < (n : Int) := by omega
      have hek : k = n := by omega
      have HCE : Hid (∀ V, Below wr.heap.size wr V → (V.cell? ⟨w.heap.size + 1, 0, none⟩ = some (.int .u64 ((W (uni N k) 0 : Nat) : Int)) ∧ V.cell? ⟨w.heap.size + 1, 1, none⟩ = some (.int .u64 ((W (uni N k) 1 : Nat) : Int)) ∧ V.cell? ⟨w.heap.size + 1, 2, none⟩ = some (.int .u64 ((W (uni N k) 2 : Nat) : Int)) ∧ V.cell? ⟨w.heap.size + 1, 3, none⟩ = some (.int .u64 ((W (uni N k) 3 : Nat) : Int))) ∧ (V.cell? ⟨w.heap.size, 0, none⟩ = some (.int .u64 ((W (fun _ => false) 0 : Nat) : Int)) ∧ V.cell? ⟨w.heap.size, 1, none⟩ = some (.int .u64 ((W (fun _ => false) 1 : Nat) : Int)) ∧ V.cell? ⟨w.heap.size, 2, none⟩ = some (.int .u64 ((W (fun _ => false) 2 : Nat) : Int)) ∧ V.cell? ⟨w.heap.size, 3, none⟩ = some (.int .u64 ((W (fun _ => false) 3 : Nat) : Int)))) := fun V hV => by
        have q1 := row_below r1 hV
        have q2 := row_below r2 hV
        exact ⟨⟨q2.cell (by omega), q2.cell (by omega), q2.cell (by omega), q2.cell (by omega)⟩, ⟨q1.cell (by omega), q1.cell (by omega), q1.cell (by omega), q1.cell (by omega)⟩⟩
      have HOT : Hid (∀ V, Calls Tryd.prog 67 #[.agg #[.int .u64 ((W (fun _ => false) 0 : Nat) : Int), .int .u64 ((W (fun _ => false) 1 : Nat) : Int), .int .u64 ((W (fun _ => false) 2 : Nat) : Int), .int .u64 ((W (fun _ => false) 3 : Nat) : Int)]] V fun e w' => e = .returned (bv (fun x => !(fun _ => false) x)) ∧ Below V.heap.size V w') := fun V => others_any (fun _ => false) V
      have HBD : Hid (Below wr.heap.size wr wr.drew) := (Below.refl _ _).drew
      obtain ⟨⟨m0, m1, m2, m3⟩, o0, o1, o2, o3⟩ := HCE.out wr (Below.refl _ _)
      clear r1 r2
      go_wp2_with fail
      go_region_held (fun V => (V.cell? ⟨w.heap.size + 1, 0, none⟩ = some (.int .u64 ((W (uni N k) 0 : Nat) : Int)) ∧ V.cell? ⟨w.heap.size + 1, 1, none⟩ = some (.int .u64 ((W (uni N k) 1 : Nat) : Int)) ∧ V.cell? ⟨w.heap.size + 1, 2, none⟩ = some (.int .u64 ((W (uni N k) 2 : Nat) : Int)) ∧ V.cell? ⟨w.heap.size + 1, 3, none⟩ = some (.int .u64 ((W (uni N k) 3 : Nat) : Int))) ∧ (V.cell? ⟨w.heap.size, 0, none⟩ = some (.int .u64 ((W (fun _ => false) 0 : Nat) : Int)) ∧ V.cell? ⟨w.heap.size, 1, none⟩ = some (.int .u64 ((W (fun _ => false) 1 : Nat) : Int)) ∧ V.cell? ⟨w.heap.size, 2, none⟩ = some (.int .u64 ((W (fun _ => false) 2 : Nat) : Int)) ∧ V.cell? ⟨w.heap.size, 3, none⟩ = some (.int .u64 ((W (fun _ => false) 3 : Nat) : Int)))) (go_keep)
        (first
          | (go_at_call 67; refine (HOT.out _).mono ?_; rintro e w6 ⟨rfl, hb6⟩; have HB6 : Hid (Below wr.heap.size wr w6) := HBD.out.trans (hb6.mono HBD.out.size); obtain ⟨⟨y0, y1, y2, y3⟩, p0, p1, p2, p3⟩ := HCE.out w6 HB6.out))
      all_goals go_wp2_with fail
      all_goals
        go_ret
        refine ⟨sameB (uni N n) (fun _ => true), rfl, ?_, hB.trans (HB6.out.mono hB.size)⟩
        rw [sameB_iff]
        exact ⟨fun h => ⟨hek ▸ HP.out.1, fun x hx => h x hx⟩, fun h x hx => h.2 x hx⟩
end Go.Proofs.YtolddecfibdblaaDoor

