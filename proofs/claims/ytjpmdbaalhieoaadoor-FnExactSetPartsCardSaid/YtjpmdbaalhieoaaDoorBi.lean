/- the walk of the list of the runs -/
import Derived.Test.YtjpmdbaalhieoaaDoorBh
import Derived.RangeFuncNested
namespace Go.Proofs.YtjpmdbaalhieoaaDoor
open Go.RowKit Go.Shelf

attribute [local go_sem] Oper.semAt_some

theorem spans_stops (n : Nat) (hn : 1 ≤ n) (Bn : Nat) (B : Nat → Bool) (w : World) (hbox : w.rowIs Bn 40 4 (wc B)) :
    SeqStopsK Fence.wide n Tryd.prog 51 #[.pointer (some ⟨Bn, 0, none⟩)] encRun (Kb Bn) (fun ys => ys = runs B 256) (fun _ => True) 256 w := fun l J Jx W hW hJ _ hY h0 =>
  spans1_in n hn l Bn B J Jx W hJ hY (hbox.of_block (hW.block _ hbox.lt)) h0

set_option maxHeartbeats 1000000 in
theorem spans_in (n : Nat) (B : Nat → Bool) (w : World) :
    CallsIn Fence.wide n Tryd.prog 37 #[.agg #[wc B 0, wc B 1, wc B 2, wc B 3]] w fun e w' => e = .returned (.func (.func 51) #[] #[.pointer (some ⟨w.heap.size, 0, none⟩)]) ∧ w' = w.alloc (.cells #[wc B 0, wc B 1, wc B 2, wc B 3] 40) := by
  refine callsIn_of_wp Tryd.func37 rfl trivial ?_ rfl
  simp only [Tryd.ntmps37, List.size_toArray, List.length_cons, List.length_nil, Nat.reduceAdd, Nat.reduceSub, Array.replicate_succ, Array.replicate_zero, List.push_toArray, List.append_toArray, List.nil_append, List.cons_append]
  gi_wp2
  go_ret
  exact ⟨rfl, rfl⟩

/-- a block of cells lies on wherever blocks that are none of cells turn -/
theorem block_own {β : Type} (b : Nat) (c : Array Value) (t : TypeId) : Own (fun (_ : β) W => W.heap[b]? = some (.cells c t (0, 0))) := by
  rintro s X Y row hs hg hrow
  have hlt : b < X.heap.size := (Array.getElem?_eq_some_iff.1 hs).1
  refine (hg.block b hlt (fun e' => ?_)).trans hs
  obtain ⟨o, ho, hc⟩ := hrow b e'.symm
  rw [hs] at ho; cases ho; cases hc

theorem not_row45 {W : World} {b : Nat} {c : Array Value} (h : W.heap[b]? = some (.cells c 40 (0, 0))) {base size k : Nat} {v : Value} {xs : List Value} (hr : W.ownsRow base 33 size v k xs) : some b ≠ v.ownBlock := by
  rcases hr.2 with ⟨rfl, _⟩ | ⟨g, cap, cur, rfl, _, hgb, _⟩
  · simp [Value.ownBlock]
  · intro e'
    obtain rfl : b = g := by simpa [Value.ownBlock] using e'
    have := h.symm.trans hgb
    simp at this

set_option maxHeartbeats 2000000 in
theorem list_in (n : Nat) (hn : 3 ≤ n) (B : Nat → Bool) (w : World) :
    CallsIn Fence.wide n Tryd.prog 24 #[.agg #[wc B 0, wc B 1, wc B 2, wc B 3]] w fun e W' => ∃ v, e = .returned v ∧ W'.ownsRow w.heap.size 33 2 v (runs B 256).length (cellsR (runs B 256)) ∧ Below w.heap.size w W' := by
  have h1 : 1 ≤ n := by omega
  obtain ⟨i0, hi, hz0, hz1, hz2⟩ := info_parts Tryd.info33
  refine callsIn_of_wp_marks Tryd.func24 rfl trivial ?_ rfl
  simp only [Tryd.ntmps24, List.size_toArray, List.length_cons, List.length_nil, Nat.reduceAdd, Nat.reduceSub, Array.replicate_succ, Array.replicate_zero, List.push_toArray, List.append_toArray, List.nil_append, List.cons_append]
  gi_wp2_with (refine ⟨trivial, ?_⟩; gi_at_call 37; refine (spans_in (n - 1) B _).mono ?_; rintro e w' ⟨rfl, rfl⟩)
  have bO := (Boxed.new (w.alloc (.cells #[wc B 0, wc B 1, wc B 2, wc B 3] 40)) 34 (.slice none 0 0)).alloc (.cells #[wc B 0, wc B 1, wc B 2, wc B 3] 40)
  have bN := World.alloc_heap_new ((w.alloc (.cells #[wc B 0, wc B 1, wc B 2, wc B 3] 40)).alloc (.cells #[.slice none 0 0] 34)) (.cells #[wc B 0, wc B 1, wc B 2, wc B 3] 40)
  have bR := box_row ((w.alloc (.cells #[wc B 0, wc B 1, wc B 2, wc B 3] 40)).alloc (.cells #[.slice none 0 0] 34)) B
  have hB0 : Below w.heap.size w (((w.alloc (.cells #[wc B 0, wc B 1, wc B 2, wc B 3] 40)).alloc (.cells #[.slice none 0 0] 34)).alloc (.cells #[wc B 0, wc B 1, wc B 2, wc B 3] 40)) := (((Below.refl _ w).alloc (Nat.le_refl _) _).alloc (by simp) _).alloc (by simp; omega) _
  have hsz : (((w.alloc (.cells #[wc B 0, wc B 1, wc B 2, wc B 3] 40)).alloc (.cells #[.slice none 0 0] 34)).alloc (.cells #[wc B 0, wc B 1, wc B 2, wc B 3] 40)).heap.size = w.heap.size + 3 := by simp
  simp only [World.size_alloc] at bO bN bR
  obtain ⟨W0, hW0⟩ : ∃ W0, ((w.alloc (.cells #[wc B 0, wc B 1, wc B 2, wc B 3] 40)).alloc (.cells #[.slice none 0 0] 34)).alloc (.cells #[wc B 0, wc B 1, wc B 2, wc B 3] 40) = W0 := ⟨_, rfl⟩
  rw [hW0] at bO bN bR hB0 hsz ⊢
  clear hW0
  refine wpIn_rangeFunc_ownH rfl h1 (gf := 51) (lb := #[.pointer (some ⟨w.heap.size + 1 + 1, 0, none⟩)]) rfl trivial (enters_of Tryd.func51 (by kernel_rfl) rfl)
    (spans_stops (n - 1) (by omega) (w.heap.size + 1 + 1) B W0 bR) Kb.trans (fun W l o o' hl hW _ _ => World.putObj_heap_other (by omega)) (Below.refl _ _) (fun _ => rfl)
    (fun pre W => ((∃ v, Boxed W (w.heap.size + 1) 34 v ∧ W.ownsRow w.heap.size 33 2 v pre.length (cellsR pre) ∧ True) ∧ W.heap[w.heap.size + 1 + 1]? = some (.cells #[wc B 0, wc B 1, wc B 2, wc B 3] 40 (0, 0))) ∧ Below w.heap.size w W)
    (fun _ _ _ => False)
    (OwnFrom.and (OwnFrom.and (Own.from (holdsRow_own w.heap.size (w.heap.size + 1) 34 33 2 (fun pre => pre.length) (fun pre => cellsR pre) (fun _ _ => True)) _) (Own.from (block_own _ _ _) _)) (ownFrom_below (Nat.le_refl _) (by omega)))
    (fun _ _ _ _ _ hs _ _ => hs)
    ⟨⟨⟨_, bO, World.ownsRow_nil _ _ _ _, trivial⟩, bN⟩, hB0⟩
    (fun x a' W => ∃ Bx, w.heap.size + 1 + 1 < Bx ∧ W.heap[Bx]? = some (.cells #[.int .i64 (x.1 : Int), .int .i64 (x.2 : Int)] 33 (0, 0)) ∧ a' = { tmps := #[.agg #[wc B 0, wc B 1, wc B 2, wc B 3], .pointer (some ⟨w.heap.size, 0, none⟩), .slice none 0 0, .pointer (some ⟨w.heap.size + 1, 0, none⟩), .pointer (some ⟨Bx, 0, none⟩), .agg #[wc B 0, wc B 1, wc B 2, wc B 3], .func (.func 51) #[] #[.pointer (some ⟨w.heap.size + 1 + 1, 0, none⟩)], .agg #[.int .i64 (x.1 : Int), .int .i64 (x.2 : Int)], undef, undef, undef, undef, undef], defers := [] })
    (fun x a' _ X Y row hs hg hr => by obtain ⟨Bx, h1, h2, h3⟩ := hs; exact ⟨Bx, h1, block_own Bx _ 33 () X Y row h2 hg (fun r e => (hr r e).2), h3⟩)
    ?assign ?body ?done ?stop
  case assign =>
    rintro l pre x W K ⟨⟨⟨v, hv, hrow, _⟩, hN⟩, hB1⟩ hK
    gi_wp2
    have hlN : w.heap.size + 1 + 1 < W.heap.size := (Array.getElem?_eq_some_iff.1 hN).1
    exact hK _ _ ((KeepsOthers.alloc _ _).from _) (Below.heap_alloc W _ _ hlN) ⟨⟨⟨v, hv.alloc _, hrow.alloc _, trivial⟩, (Below.heap_alloc W _ _ hlN).trans hN⟩, hB1.alloc hB1.size _⟩ ⟨W.heap.size, hlN, World.alloc_heap_new W _, rfl⟩
  case body =>
    rintro l pre x a' W hl ⟨r, hr⟩ ⟨⟨⟨v, hv, hrow, _⟩, hN⟩, hB1⟩ ⟨Bx, hBx, bX, rfl⟩ hlt
    have hc := hv.cell
    have x0 : W.cell? ⟨Bx, 0, none⟩ = some (.int .i64 (x.1 : Int)) := by simp [World.cell?, bX]
    have x1 : W.cell? ⟨Bx, 1, none⟩ = some (.int .i64 (x.2 : Int)) := by simp [World.cell?, bX]
    have hlN : w.heap.size + 1 + 1 < W.heap.size := (Array.getElem?_eq_some_iff.1 hN).1
    have hnr := not_row45 hN hrow
    have HNR : Hid (some (w.heap.size + 1 + 1) ≠ v.ownBlock) := hnr
    clear hnr
    have HN2 : Hid (W.heap[w.heap.size + 1 + 1]? = some (.cells #[wc B 0, wc B 1, wc B 2, wc B 3] 40 (0, 0))) := hN
    clear hN bX
    gi_wp2_with (gi_at_builtin; refine wpListIn_append_own _ rfl _ _ 34 rfl w.heap.size 33 i0 (.agg #[.int .i64 0, .int .i64 0]) 2 16 Tryd.underlying34 hi hz0 hz1 hz2 rfl (by decide) _ _ _ rfl (hrow.alloc _) ⟨W.heap.size, 0, none⟩ 1 1 [.int .i64 (x.1 : Int), .int .i64 (x.2 : Int)] rfl rfl (cell_two_new2 _ _ _ _) (by simp [Value.oneCell']) (by unfold maxLen; omega) (by omega) (by have := hB1.size; simp; omega) ?_; intro v' w1 hown' hgrow _; obtain ⟨g', cap', rfl⟩ := ownsRow_succ hown'; obtain ⟨hv1, hv2, hr2, hk2, hb2⟩ := hv.appended (by decide) hrow hB1.size (by omega) hown' hgrow; have hc1 := hv1.cell; have hf1 := hv1.frozen)
    have hkb : Kb (w.heap.size + 1 + 1) W (w1.setCell ⟨w.heap.size + 1, 0, none⟩ (.slice (some ⟨g', 0, none⟩) (pre.length + 1) cap')) :=
      (Below.heap_setCell _ _ _ _ (by simp)).trans ((hgrow.block _ (by simp; omega) HNR.out).trans (Below.heap_alloc W _ _ hlN))
    exact ⟨hk2.from _, hkb, ⟨⟨⟨_, hv2, by rw [cellsR_snoc]; simpa using hr2, trivial⟩, Eq.trans hkb HN2.out⟩, hB1.trans hb2⟩⟩
  case done =>
    rintro D ys W hD rfl ⟨⟨⟨v, hv, hrow, _⟩, hN⟩, hB1⟩ hK
    have hc := hv.cell
    gi_wp2
    refine ⟨by simp, .inl ⟨_, _, rfl, run_takeDeferred hK, ?_⟩⟩
    exact ⟨_, results_tmp rfl _ _ _, v, rfl, ownsRow_putObj hrow _ hK rfl, hB1.trans (belowK_b (w := w) (Nat.le_refl _) W D _ _ (by omega) hK rfl rfl)⟩
  case stop =>
    rintro D c pre W _ _ h _
    exact h.elim

theorem list_any (B : Nat → Bool) (w : World) :
    Calls Tryd.prog 24 #[.agg #[wc B 0, wc B 1, wc B 2, wc B 3]] w fun e W' => ∃ v, e = .returned v ∧ W'.ownsRow w.heap.size 33 2 v (runs B 256).length (cellsR (runs B 256)) ∧ Below w.heap.size w W' :=
  callsIn_wide.1 (list_in 3 (by omega) B w)
end Go.Proofs.YtjpmdbaalhieoaaDoor

