/- tokens yielded one behind the other: the walk of the iterator -/
import Derived.Test.YtplpdikkkbiacaaGreatDoorXj
import Derived.Test.YtplpdikkkbiacaaGreatDoorXb
import Derived.RangeFuncBox
import Derived.RangeFuncLeaves
import Derived.RangeFuncNested
import Derived.Shelf.Abstract
import Derived.OwnWalkIn
import Derived.Shelf.RegionOpen
import Derived.TacticsInMore
import Derived.LoopNIn
import Derived.LoopIn
import Derived.Maps.AppendAt
namespace Go.Proofs.YtplpdikkkbiacaaGreatDoor
open Go.RowKit Go.Shelf
set_option linter.unusedVariables false
set_option linter.unusedSimpArgs false

attribute [local go_sem] Oper.semAt_some

theorem below_grownX {w w' : World} (h : Below w.heap.size w w') : w.grownBy w' none := ⟨h.os, h.tape, h.output, h.size, fun k hk _ => h.block k hk⟩
/-- a token, as it is handed to the loop's body -/
abbrev encTk (x : Tk) : Array Value := #[.agg #[.int .i64 x.r, .int .i64 x.f, .int .i64 x.t]]
/-- where the list lies that the box lb holds -/
def rowOf (W : World) (lb : Nat) : Nat → Prop := fun k => ∃ n c, W.cell? ⟨lb, 0, none⟩ = some (.slice (some ⟨k, 0, none⟩) n c)
/-- what the loop's body leaves as it is: all but the box of the list, the box of how far it came, and the list -/
structure Kt (lb fb : Nat) (A B : World) : Prop where
  os : B.os = A.os
  tape : B.tape = A.tape
  output : B.output = A.output
  size : A.heap.size ≤ B.heap.size
  same : ∀ k, k < A.heap.size → k ≠ lb → k ≠ fb → ¬ rowOf A lb k → (k < lb ∨ ∃ o, A.heap[k]? = some o ∧ o.isCells = true) → B.heap[k]? = A.heap[k]?
  row : ∀ k, rowOf B lb k → rowOf A lb k ∨ (A.heap.size ≤ k ∧ k < B.heap.size)
theorem Kt.trans {lb fb : Nat} {A B C : World} (h : Kt lb fb A B) (k : Kt lb fb B C) : Kt lb fb A C :=
  ⟨k.os.trans h.os, k.tape.trans h.tape, k.output.trans h.output, Nat.le_trans h.size k.size, fun x hx h1 h2 h3 h4 => (k.same x (Nat.lt_of_lt_of_le hx h.size) h1 h2 (fun hb => by
      rcases h.row x hb with hb | hb
      · exact h3 hb
      · omega) (h4.imp id (fun ⟨o, e1, e2⟩ => ⟨o, (h.same x hx h1 h2 h3 (.inr ⟨o, e1, e2⟩)).trans e1, e2⟩))).trans (h.same x hx h1 h2 h3 h4),
    fun x hx => by
      rcases k.row x hx with hx | ⟨h1, h2⟩
      · rcases h.row x hx with hx | ⟨h1, h2⟩
        · exact .inl hx
        · exact .inr ⟨h1, Nat.lt_of_lt_of_le h2 k.size⟩
      · exact .inr ⟨Nat.le_trans h.size h1, h2⟩⟩
theorem Kt.refl (lb fb : Nat) (A : World) : Kt lb fb A A := ⟨rfl, rfl, rfl, Nat.le_refl _, fun _ _ _ _ _ _ => rfl, fun _ h => .inl h⟩
theorem Kt.of_below {lb fb : Nat} {A B : World} (hl : lb < A.heap.size) (hb : Below A.heap.size A B) : Kt lb fb A B :=
  ⟨hb.os, hb.tape, hb.output, hb.size, fun k hk _ _ _ _ => hb.block k hk, fun k ⟨n, c, h⟩ => .inl ⟨n, c, (hb.cell (p := ⟨lb, 0, none⟩) hl).symm.trans h⟩⟩
theorem Kt.low {lb fb base : Nat} {A B : World} (h : Kt lb fb A B) (h1 : base ≤ lb) (h2 : base ≤ fb) (h3 : base ≤ A.heap.size) (hn : ∀ k, ¬ rowOf A lb k) : Below base A B :=
  ⟨h.os, h.tape, h.output, h.size, fun k hk => h.same k (by omega) (by omega) (by omega) (hn k) (.inl (by omega))⟩

/-- the iterator's own boxes: the text, and what finds a token -/
def ItB (W : World) (b : Nat) (t : ByteArray) (fv : Value) : Prop := W.heap[b]? = some (.cells #[.string t] 9 (0, 0)) ∧ W.heap[b + 1]? = some (.cells #[fv] 56 (0, 0))
theorem ItB.cells {W : World} {b : Nat} {t : ByteArray} {fv : Value} (h : ItB W b t fv) : W.cell? ⟨b, 0, none⟩ = some (.string t) ∧ W.cell? ⟨b + 1, 0, none⟩ = some fv := by
  constructor
  · simp [World.cell?, h.1]
  · simp [World.cell?, h.2]
theorem ItB.below {W V : World} {b : Nat} {t : ByteArray} {fv : Value} (h : ItB W b t fv) (hb : Below W.heap.size W V) : ItB V b t fv :=
  ⟨(hb.block _ (Array.getElem?_eq_some_iff.1 h.1).1).trans h.1, (hb.block _ (Array.getElem?_eq_some_iff.1 h.2).1).trans h.2⟩
theorem ItB.kt {lb fb : Nat} {W V : World} {b : Nat} {t : ByteArray} {fv : Value} (h : ItB W b t fv) (hk : Kt lb fb W V) (h1 : fb < b) (h2 : lb < b) (hr : ∀ k, rowOf W lb k → k ≠ b ∧ k ≠ b + 1) : ItB V b t fv :=
  ⟨(hk.same _ (Array.getElem?_eq_some_iff.1 h.1).1 (by omega) (by omega) (fun e => (hr _ e).1 rfl) (.inr ⟨_, h.1, rfl⟩)).trans h.1, (hk.same _ (Array.getElem?_eq_some_iff.1 h.2).1 (by omega) (by omega) (fun e => (hr _ e).2 rfl) (.inr ⟨_, h.2, rfl⟩)).trans h.2⟩

set_option maxRecDepth 100000 in
set_option maxHeartbeats 4000000 in
theorem tokens1_in (m : Nat) (hm : 1 ≤ m) (l b lb fb g : Nat) (cb : Array Value) (t : ByteArray) (F : Nat → Int → Int → Prop) (hF : Finds F t.size) (hts : t.size ≤ 200) (J Jx : List Tk → World → Prop) (w : World) (hJ : AbidesFrom w.heap.size J)
    (hfb : fb < b) (hlb : lb < b) (base : Nat) (hbl : base ≤ lb) (hbf : base ≤ fb) (hnil : ∀ k, ¬ rowOf w lb k)
    (eg : ∀ args w, (callFunc g args).run Tryz.prog w = .ok (.enter g args) w)
    (hfind : ∀ (W : World) (c : Nat), Below base w W → c ≤ t.size → Calls Tryz.prog g (#[.int .i64 c] ++ cb) W fun e w' => (∃ r x : Int, e = .returned (.agg #[.int .i64 r, .int .i64 c, .int .i64 x]) ∧ F c r x) ∧ Below W.heap.size W w')
    (hY : ∀ pre x W, J pre W → pre.length < 200 → YieldAt Fence.wide (m - 1) Tryz.prog l (encTk x) W fun e W' =>
      (e = .returned (.bool true) ∧ J (pre ++ [x]) W' ∧ Kt lb fb W W') ∨ (e = .returned (.bool false) ∧ Jx (pre ++ [x]) W'))
    (hbox : ItB w b t (.func (.func g) #[] cb)) (h0 : J [] w) :
    CallsIn Fence.wide m Tryz.prog 49 #[.func (.yield l) #[] #[], .pointer (some ⟨b, 0, none⟩), .pointer (some ⟨b + 1, 0, none⟩)] w fun e W' => (∃ v, e = .returned v) ∧
      ((∃ ys, (∃ c, CutEnd F t.size ys c) ∧ J ys W') ∨ (∃ pre, True ∧ Jx pre W')) := by
  refine callsIn_of_wp Tryz.func49 rfl trivial ?_ rfl
  simp only [Tryz.ntmps49, List.size_toArray, List.length_cons, List.length_nil, Nat.reduceAdd, Nat.reduceSub, Array.replicate_succ, Array.replicate_zero, List.push_toArray, List.append_toArray, List.nil_append, List.cons_append]
  have hbs : b + 1 < w.heap.size := (Array.getElem?_eq_some_iff.1 hbox.2).1
  have hbw : base ≤ w.heap.size := by omega
  gi_wp2
  gi_loopw [4] (fun i wr => ∃ (L : List Tk) (c : Nat), i = .int .i64 c ∧ c ≤ t.size ∧ L.length ≤ c ∧ Hid (CutFrom F t.size 0 L c) ∧ J L wr ∧ ItB wr b t (.func (.func g) #[] cb) ∧ Hid (Kt lb fb w wr))
    (fun i _ => t.size - (intOf i).toNat)
  case atStart => exact ⟨[], 0, rfl, Nat.zero_le _, Nat.le_refl _, rfl, h0, hbox, Kt.refl _ _ _⟩
  case round =>
    obtain ⟨L, c, rfl, hc, hL, HC, hJs, hB, HK⟩ := hrel
    obtain ⟨e0, e1⟩ := hB.cells
    by_cases hlt : c < t.size
    · have hltz : (c : Int) < (t.size : Int) := by omega
      gi_wp2_with fail
      refine ⟨trivial, (callsIn_wide.2 (hfind wr c (HK.out.low hbl hbf hbw hnil) hc)).mono ?_⟩
      rintro e w1 ⟨⟨r, x, rfl, hv⟩, hb1⟩
      obtain ⟨⟨v1, v2⟩, ⟨v3, v4⟩, v5, v6⟩ := hF c hc r x hv
      have HV : Hid (F c r x) := hv
      have hJ1 := hJ _ _ _ none hJs (below_grownX hb1) (fun r e => by cases e)
      have hB1 := hB.below hb1
      have hbq : Below wr.heap.size wr w1 := hb1
      clear hv hb1 hJs hB e0 e1
      obtain ⟨W2, hW2⟩ : ∃ W2, W2 = w1.alloc (.cells #[.int .i64 r, .int .i64 c, .int .i64 x] 46) := ⟨_, rfl⟩
      have hbt : Below w1.heap.size w1 W2 := by rw [hW2]; exact (Below.refl _ _).alloc (Nat.le_refl _) _
      have HTB : Hid (W2.heap[w1.heap.size]? = some (.cells #[.int .i64 r, .int .i64 c, .int .i64 x] 46 (0, 0))) := by rw [hW2]; exact World.alloc_heap_new w1 _
      have HJ2 : Hid (J L W2) := hJ _ _ _ none hJ1 (below_grownX hbt) (fun r e => by cases e)
      have HB2 : Hid (ItB W2 b t (.func (.func g) #[] cb)) := hB1.below hbt
      have hs2 : W2.heap.size = w1.heap.size + 1 := by rw [hW2]; simp
      have HK1 : Hid (Kt lb fb w w1) := HK.out.trans (Kt.of_below (by have := HK.out.size; omega) hbq)
      have HRW : Hid (∀ k, rowOf w1 lb k → k < w1.heap.size ∧ k ≠ b ∧ k ≠ b + 1) := fun k hk => by
        rcases HK1.out.row k hk with h | ⟨h1, h2⟩
        · exact absurd h (hnil k)
        · exact ⟨h2, by omega, by omega⟩
      have hb1s : b + 1 < w1.heap.size := (Array.getElem?_eq_some_iff.1 hB1.2).1
      have HBT : Hid (Below w1.heap.size w1 W2) := hbt
      clear hJ1 hB1 hbt hbq
      gi_wp2_with fail
      rw [← hW2]
      clear hW2
      have hmix : Tryz.prog.follows .mixedOrders = true := by kernel_rfl
      have HDR : Hid (Below W2.heap.size W2 W2.drew) := (Below.refl _ _).drew
      have z0 : W2.cell? ⟨w1.heap.size, 0, none⟩ = some (.int .i64 r) := by simp [World.cell?, HTB.out]
      have z1 : W2.cell? ⟨w1.heap.size, 1, none⟩ = some (.int .i64 c) := by simp [World.cell?, HTB.out]
      have z2 : W2.cell? ⟨w1.heap.size, 2, none⟩ = some (.int .i64 x) := by simp [World.cell?, HTB.out]
      have HCE : Hid (∀ V, Below W2.heap.size W2 V → V.cell? ⟨w1.heap.size, 0, none⟩ = some (.int .i64 r) ∧ V.cell? ⟨w1.heap.size, 1, none⟩ = some (.int .i64 c) ∧ V.cell? ⟨w1.heap.size, 2, none⟩ = some (.int .i64 x)) := fun V hV => ⟨(hV.cell (p := ⟨w1.heap.size, 0, none⟩) (by show w1.heap.size < W2.heap.size; omega)).trans z0, (hV.cell (p := ⟨w1.heap.size, 1, none⟩) (by show w1.heap.size < W2.heap.size; omega)).trans z1, (hV.cell (p := ⟨w1.heap.size, 2, none⟩) (by show w1.heap.size < W2.heap.size; omega)).trans z2⟩
      have HEQ := eqlTok ⟨r, c, x⟩ ⟨-1, c, c⟩
      dsimp only at HEQ
      by_cases hr : r = -1
      · have hxc := v5 hr
        have ht : tkB ⟨r, c, x⟩ ⟨-1, c, c⟩ = true := tkB_iff.2 (by rw [hr, hxc])
        rw [ht] at HEQ
        have HE : Hid (∃ b, CutEnd F t.size L b) := ⟨c, HC.out, .inr ⟨hlt, x, hr ▸ HV.out⟩⟩
        have hund : undef = Value.tuple #[] := rfl
        clear ht hxc hr v1 v2 v3 v4 v5 v6
        have HNT : Hid (∀ V, Below W2.heap.size W2 V → CallsIn Fence.wide (m - 1) Tryz.prog 36 #[.int .i64 c] V fun e w' => e = .returned (.agg #[.int .i64 (-1), .int .i64 c, .int .i64 c]) ∧ Below V.heap.size V w') := fun V hV => callsIn_wide.2 (noToken_any (c : Int) V)
        first
          | gi_region_with_o (first | (refine ⟨trivial, ?_⟩; gi_at_call 36; refine (HNT.out _ HDR.out).mono ?_; rintro e w5 ⟨rfl, hb5⟩; have HB5 : Hid (Below W2.heap.size W2 w5) := HDR.out.trans hb5; obtain ⟨y0, y1, y2⟩ := HCE.out w5 HB5.out; clear hb5))
          | fail
        all_goals
          have hJ5 := hJ _ _ _ none HJ2.out (below_grownX HB5.out) (fun r e => by cases e)
          gi_wp2
          refine bodyPost_ret (results_none rfl _ _ _) rfl ?_
          exact ⟨⟨_, rfl⟩, .inl ⟨L, HE.out, hJ5⟩⟩
      · have ht : tkB ⟨r, c, x⟩ ⟨-1, c, c⟩ = false := tkB_ne (fun e => hr (by injection e))
        rw [ht] at HEQ
        have hr0 : 0 ≤ r := by omega
        have hcx := v6 hr0
        obtain ⟨y, rfl⟩ : ∃ y : Nat, x = (y : Int) := ⟨x.toNat, by omega⟩
        have HCN : Hid (CutFrom F t.size 0 (L ++ [(⟨r, (c : Int), (y : Int)⟩ : Tk)]) y) := HC.out.snoc hlt HV.out hr
        clear ht hr v1 v2 v3 v5 v6
        have HNT : Hid (∀ V, Below W2.heap.size W2 V → CallsIn Fence.wide (m - 1) Tryz.prog 36 #[.int .i64 c] V fun e w' => e = .returned (.agg #[.int .i64 (-1), .int .i64 c, .int .i64 c]) ∧ Below V.heap.size V w') := fun V hV => callsIn_wide.2 (noToken_any (c : Int) V)
        have HYY : Hid (∀ V, Below W2.heap.size W2 V → YieldAt Fence.wide (m - 1) Tryz.prog l #[.agg #[.int .i64 r, .int .i64 c, .int .i64 y]] V fun e W' => ∃ bo : Bool, e = .returned (.bool bo) ∧ ((bo = true ∧ J (L ++ [(⟨r, (c : Int), (y : Int)⟩ : Tk)]) W' ∧ Kt lb fb V W') ∨ (bo = false ∧ Jx (L ++ [(⟨r, (c : Int), (y : Int)⟩ : Tk)]) W'))) := fun V hV => by
          obtain ⟨fn, tmps, assign, body, hy, hRd⟩ := hY L ⟨r, c, y⟩ V (hJ _ _ _ none HJ2.out (below_grownX hV) (fun r e => by cases e)) (by omega)
          refine ⟨fn, tmps, assign, body, hy, hRd.mono ?_⟩
          rintro e W3 (⟨rfl, h1, h2⟩ | ⟨rfl, h1⟩)
          · exact ⟨true, rfl, .inl ⟨rfl, h1, h2⟩⟩
          · exact ⟨false, rfl, .inr ⟨rfl, h1⟩⟩
        first
          | gi_region_with_o (first | (refine ⟨trivial, ?_⟩; gi_at_call 36; refine (HNT.out _ HDR.out).mono ?_; rintro e w5 ⟨rfl, hb5⟩; have HB5 : Hid (Below W2.heap.size W2 w5) := HDR.out.trans hb5; obtain ⟨y0, y1, y2⟩ := HCE.out w5 HB5.out; clear hb5; obtain ⟨fn, tmps, assign, body, hy, hRd⟩ := HYY.out w5 HB5.out) | (refine hRd.mono ?_; rintro e W3 ⟨bo, rfl, hbo⟩))
          | fail
        all_goals
          rcases hbo with ⟨rfl, hJ3, hK3⟩ | ⟨rfl, hJx3⟩
          · have hB15 : Below w1.heap.size w1 w5 := HBT.out.trans (HB5.out.mono HBT.out.size)
            have hRW5 : ∀ k, rowOf w5 lb k → k < w1.heap.size ∧ k ≠ b ∧ k ≠ b + 1 := fun k ⟨n, q, hq⟩ => HRW.out k ⟨n, q, (hB15.cell (p := ⟨lb, 0, none⟩) (by show lb < w1.heap.size; omega)).symm.trans hq⟩
            have hs5 : w1.heap.size < w5.heap.size := by have := HB5.out.size; omega
            have g2 : W3.cell? ⟨w1.heap.size, 2, none⟩ = some (.int .i64 y) := (World.cell?_of_block (hK3.same w1.heap.size hs5 (by omega) (by omega) (fun e => by have := (hRW5 _ e).1; omega) (.inr ⟨_, (HB5.out.block w1.heap.size (by omega)).trans HTB.out, rfl⟩))).trans y2
            have hB3 : ItB W3 b t (.func (.func g) #[] cb) := (HB2.out.below HB5.out).kt hK3 hfb hlb (fun k e => (hRW5 k e).2)
            have HK3 : Hid (Kt lb fb w W3) := (HK1.out.trans (Kt.of_below (by have := HK1.out.size; omega) hB15)).trans hK3
            clear hK3 hRW5 hB15 hs5
            gi_wp2
            go_roundw
            case rel => exact ⟨L ++ [(⟨r, (c : Int), (y : Int)⟩ : Tk)], y, rfl, by omega, by rw [List.length_append, List.length_singleton]; omega, HCN.out, hJ3, hB3, HK3.out⟩
            case measure => simp [intOf]; omega
          · gi_wp2
            refine bodyPost_ret (results_none rfl _ _ _) rfl ?_
            exact ⟨⟨_, rfl⟩, .inr ⟨_, trivial, hJx3⟩⟩
    · have hltz : ¬ (c : Int) < (t.size : Int) := by omega
      gi_wp2
      go_end0
      exact ⟨⟨_, rfl⟩, .inl ⟨L, ⟨c, HC.out, .inl (by omega)⟩, hJs⟩⟩
end Go.Proofs.YtplpdikkkbiacaaGreatDoor

