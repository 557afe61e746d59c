/- tokens of a text, one behind the other, in a list: the walk of cutText -/
import Derived.Test.YtplpdikkkbiacaaGreatDoorXn
import Derived.Maps.OwnIn
namespace Go.Proofs.YtplpdikkkbiacaaGreatDoor
open Go.RowKit Go.Shelf
set_option linter.unusedVariables false
set_option linter.unusedSimpArgs false

attribute [local go_sem] Oper.semAt_some

/-- how far these tokens come -/
def farT (L : List Tk) : Int := match L.getLast? with | some k => k.t | none => 0
theorem farT_snoc (L : List Tk) (k : Tk) : farT (L ++ [k]) = k.t := by simp [farT]
theorem CutFrom.far {F : Nat → Int → Int → Prop} {n : Nat} (hF : Finds F n) : ∀ {L : List Tk} {a b : Nat}, a ≤ n → CutFrom F n a L b → (b : Int) = match L.getLast? with | some k => k.t | none => (a : Int)
  | [], a, b, ha, h => by have : a = b := h; subst this; rfl
  | [k], a, b, ha, ⟨g1, r, x, g2, g3, g4, g5⟩ => by
    have h1 := hF a ha r x g2
    have h2 : x.toNat = b := g5
    subst g4
    show (b : Int) = x
    omega
  | k :: k' :: L, a, b, ha, ⟨g1, r, x, g2, g3, g4, g5⟩ => by
    have h1 := hF a ha r x g2
    have := CutFrom.far hF (show x.toNat ≤ n by omega) g5
    rw [this]
    have e : (k :: k' :: L).getLast? = (k' :: L).getLast? := by simp [List.getLast?_cons_cons]
    rw [e]
    cases h : (k' :: L).getLast? with
    | none => simp at h
    | some z => rfl
theorem CutEnd.far {F : Nat → Int → Int → Prop} {n : Nat} (hF : Finds F n) {L : List Tk} {b : Nat} (h : CutEnd F n L b) : farT L = (b : Int) := by
  have := h.1.far hF (Nat.zero_le _)
  rw [this]
  unfold farT
  cases L.getLast? <;> rfl

set_option maxHeartbeats 1000000 in
theorem tokensOf_in (n : Nat) (t : ByteArray) (g : Nat) (cb : Array Value) (w : World) :
    CallsIn Fence.wide n Tryz.prog 35 #[.string t, .func (.func g) #[] cb] w fun e w' => e = .returned (.func (.func 49) #[] #[.pointer (some ⟨w.heap.size, 0, none⟩), .pointer (some ⟨w.heap.size + 1, 0, none⟩)]) ∧ w' = (w.alloc (.cells #[.string t] 9)).alloc (.cells #[.func (.func g) #[] cb] 56) := by
  refine callsIn_of_wp Tryz.func35 rfl trivial ?_ rfl
  simp only [Tryz.ntmps35, List.size_toArray, List.length_cons, List.length_nil, Nat.reduceAdd, Nat.reduceSub, Array.replicate_succ, Array.replicate_zero, List.push_toArray, List.append_toArray, List.nil_append, List.cons_append]
  gi_wp2
  go_ret
  exact ⟨rfl, rfl⟩

theorem tokens_stops (m : Nat) (hm : 1 ≤ m) (b lb fb g : Nat) (cb : Array Value) (t : ByteArray) (F : Nat → Int → Int → Prop) (hF : Finds F t.size) (hts : t.size ≤ 200) (w0 : World) (hfb : fb < b) (hlb : lb < b) (base : Nat) (hbl : base ≤ lb) (hbf : base ≤ fb)
    (hnil : ∀ k, ¬ rowOf w0 lb k) (eg : ∀ args w, (callFunc g args).run Tryz.prog w = .ok (.enter g args) w)
    (hfind : ∀ (W : World) (c : Nat), Below base w0 W → c ≤ t.size → Calls Tryz.prog g (#[.int .i64 c] ++ cb) W fun e w' => (∃ r x : Int, e = .returned (.agg #[.int .i64 r, .int .i64 c, .int .i64 x]) ∧ F c r x) ∧ Below W.heap.size W w')
    (hbox : ItB w0 b t (.func (.func g) #[] cb)) :
    SeqStopsK Fence.wide m Tryz.prog 49 #[.pointer (some ⟨b, 0, none⟩), .pointer (some ⟨b + 1, 0, none⟩)] encTk (Kt lb fb) (fun ys => ∃ c, CutEnd F t.size ys c) (fun _ => True) 200 w0 := fun l J Jx W hW hJ _ hY h0 => by
  have hbs : b + 1 < w0.heap.size := (Array.getElem?_eq_some_iff.1 hbox.2).1
  refine tokens1_in m hm l b lb fb g cb t F hF hts J Jx W hJ hfb hlb base hbl hbf (fun k ⟨n, c, h⟩ => hnil k ⟨n, c, (hW.cell (p := ⟨lb, 0, none⟩) (by show lb < w0.heap.size; omega)).symm.trans h⟩) eg (fun V c hV hc => hfind V c ((hW.mono (by omega)).trans hV) hc) hY (hbox.below hW) h0

/-- a block of cells lies on wherever blocks that are none of cells turn -/
theorem blockX_own {β : Type} (b : Nat) (c : β → Array Value) (t : TypeId) : Own (fun (s : β) W => W.heap[b]? = some (.cells (c s) t (0, 0))) := by
  rintro s X Y row hs hg hrow
  have hlt : b < X.heap.size := (Array.getElem?_eq_some_iff.1 hs).1
  refine (hg.block b hlt (fun e' => ?_)).trans hs
  obtain ⟨o, ho, hc⟩ := hrow b e'.symm
  rw [hs] at ho; cases ho; cases hc

theorem Kt.alloc {lb fb : Nat} {A : World} (hl : lb < A.heap.size) (o : Obj) : Kt lb fb A (A.alloc o) := Kt.of_below hl ((Below.refl _ _).alloc (Nat.le_refl _) _)
theorem Kt.putObj {lb fb l : Nat} {A : World} {o o' : Obj} (hl : lb < l) (ho : A.heap[l]? = some o) (hc : o.isCells = false) : Kt lb fb A (A.putObj l o') :=
  ⟨rfl, rfl, rfl, by simp, fun k hk _ _ _ h4 => World.putObj_heap_other (fun e => by
      subst e
      rcases h4 with h4 | ⟨o2, e1, e2⟩
      · omega
      · rw [ho] at e1; cases e1; rw [hc] at e2; cases e2),
    fun k ⟨n, c, h⟩ => .inl ⟨n, c, by rw [← h]; exact (World.cell?_of_block (a := ⟨lb, 0, none⟩) (World.putObj_heap_other (by show lb ≠ l; omega))).symm⟩⟩

theorem cell_three_newX (w : World) (x y z : Value) (t : TypeId) : ∀ j v, [x, y, z][j]? = some v → (w.alloc (.cells #[x, y, z] t)).cell? ((⟨w.heap.size, 0, none⟩ : Addr).add j) = some v := by
  intro j v hj
  match j with
  | 0 => simp at hj; subst hj; simp [go_sem]
  | 1 => simp at hj; subst hj; simp [go_sem]
  | 2 => simp at hj; subst hj; simp [go_sem]
  | j + 3 => simp at hj
theorem row_form {W : World} {base e size k : Nat} {v : Value} {xs : List Value} (h : W.ownsRow base e size v k xs) {j : Nat} (hj : v.ownBlock = some j) : ∃ n c, v = .slice (some ⟨j, 0, none⟩) n c := by
  rcases h.2 with ⟨rfl, _⟩ | ⟨g, cap, cur, rfl, _⟩
  · cases hj
  · obtain rfl : g = j := by simpa [Value.ownBlock] using hj
    exact ⟨_, _, rfl⟩
theorem Kt.appended {lb fb : Nat} {W w1 : World} {base e size k m t : Nat} {v v' u : Value} {xs ys : List Value} {tmp : Obj} (hv : W.cell? ⟨lb, 0, none⟩ = some v) (hrow : W.ownsRow base e size v k xs) (hown' : w1.ownsRow base e size v' m ys)
    (hgrow : (W.alloc tmp).grownBy w1 v.ownBlock) (hat : v'.ownBlock = v.ownBlock ∨ v'.ownBlock = some (W.alloc tmp).heap.size) (hlf : lb ≠ fb) (hb1 : Boxed (w1.setCell ⟨lb, 0, none⟩ v') lb t v') :
    Kt lb fb W ((w1.setCell ⟨lb, 0, none⟩ v').setCell ⟨fb, 0, none⟩ u) := by
  have hs := hgrow.size
  rw [World.size_alloc] at hs
  refine ⟨hgrow.os, hgrow.tape, hgrow.output, by simp; omega, fun j hj h1 h2 h3 _ => ?_, fun j ⟨n, c, h⟩ => ?_⟩
  · rw [Below.heap_setCell _ _ _ _ (by simpa using h2), Below.heap_setCell _ _ _ _ (by simpa using h1), hgrow.block j (by rw [World.size_alloc]; omega) (fun e => ?_), Below.heap_alloc W _ _ hj]
    obtain ⟨n, c, rfl⟩ := row_form hrow e.symm
    exact h3 ⟨n, c, hv⟩
  · have hc : ((w1.setCell ⟨lb, 0, none⟩ v').setCell ⟨fb, 0, none⟩ u).cell? ⟨lb, 0, none⟩ = some v' := (World.cell?_of_block (Below.heap_setCell _ _ _ _ (by simpa using hlf))).trans hb1.cell
    rw [hc] at h
    obtain rfl := Option.some.inj h
    have ho : (Value.slice (some ⟨j, 0, none⟩) n c).ownBlock = some j := rfl
    rcases hat with e | e
    · rw [ho] at e
      obtain ⟨n', c', rfl⟩ := row_form hrow e.symm
      exact .inl ⟨n', c', hv⟩
    · rw [ho, World.size_alloc] at e
      have e2 : j = W.heap.size + 1 := Option.some.inj e
      have := (hown'.lt j ho).2
      exact .inr ⟨by omega, by simpa using this⟩

set_option maxRecDepth 100000 in
set_option maxHeartbeats 4000000 in
theorem cut_in (n : Nat) (hn : 3 ≤ n) (g : Nat) (cb : Array Value) (t : ByteArray) (F : Nat → Int → Int → Prop) (hF : Finds F t.size) (hts : t.size ≤ 200) (w : World) (eg : ∀ args w, (callFunc g args).run Tryz.prog w = .ok (.enter g args) w)
    (hfind : ∀ (W : World) (c : Nat), Below w.heap.size w W → c ≤ t.size → Calls Tryz.prog g (#[.int .i64 c] ++ cb) W fun e w' => (∃ r x : Int, e = .returned (.agg #[.int .i64 r, .int .i64 c, .int .i64 x]) ∧ F c r x) ∧ Below W.heap.size W w') :
    CallsIn Fence.wide n Tryz.prog 20 #[.string t, .func (.func g) #[] cb] w fun e W' => ∃ (v : Value) (L : List Tk) (c : Nat), e = .returned (.tuple #[v, .int .i64 c]) ∧ CutEnd F t.size L c ∧ W'.ownsRow w.heap.size 46 3 v L.length (cellsT L) ∧ Below w.heap.size w W' := by
  have h1 : 1 ≤ n := by omega
  obtain ⟨i0, hi, hz0, hz1, hz2⟩ := info_parts Tryz.infoTok
  refine callsIn_of_wp_marks Tryz.func20 rfl trivial ?_ rfl
  simp only [Tryz.ntmps20, List.size_toArray, List.length_cons, List.length_nil, Nat.reduceAdd, Nat.reduceSub, Array.replicate_succ, Array.replicate_zero, List.push_toArray, List.append_toArray, List.nil_append, List.cons_append]
  gi_wp2_with (refine ⟨trivial, ?_⟩; gi_at_call 35; refine (tokensOf_in (n - 1) t g cb _).mono ?_; rintro e w' ⟨rfl, rfl⟩)
  obtain ⟨W0, hW0⟩ : ∃ W0, W0 = (((w.alloc (.cells #[.slice none 0 0] 24)).alloc (.cells #[.int .i64 0] 3)).alloc (.cells #[.string t] 9)).alloc (.cells #[.func (.func g) #[] cb] 56) := ⟨_, rfl⟩
  have bO := (((Boxed.new w 24 (.slice none 0 0)).alloc (.cells #[.int .i64 0] 3)).alloc (.cells #[.string t] 9)).alloc (.cells #[.func (.func g) #[] cb] 56)
  have hsz : W0.heap.size = w.heap.size + 4 := by rw [hW0]; simp
  have hB0 : Below w.heap.size w W0 := by rw [hW0]; exact ((((Below.refl _ w).alloc (Nat.le_refl _) _).alloc (by simp) _).alloc (by simp; omega) _).alloc (by simp; omega) _
  have bF : W0.heap[w.heap.size + 1]? = some (.cells #[.int .i64 (farT [])] 3 (0, 0)) := by
    have h0 := World.alloc_heap_new (w.alloc (.cells #[.slice none 0 0] 24)) (.cells #[.int .i64 0] 3)
    rw [World.size_alloc] at h0
    rw [hW0]
    exact (Below.heap_alloc _ _ _ (by simp)).trans ((Below.heap_alloc _ _ _ (by simp)).trans h0)
  have bI : ItB W0 (w.heap.size + 1 + 1) t (.func (.func g) #[] cb) := by
    constructor
    · have h0 := World.alloc_heap_new ((w.alloc (.cells #[.slice none 0 0] 24)).alloc (.cells #[.int .i64 0] 3)) (.cells #[.string t] 9)
      rw [World.size_alloc, World.size_alloc] at h0
      rw [hW0]
      exact (Below.heap_alloc _ _ _ (by simp)).trans h0
    · have h0 := World.alloc_heap_new (((w.alloc (.cells #[.slice none 0 0] 24)).alloc (.cells #[.int .i64 0] 3)).alloc (.cells #[.string t] 9)) (.cells #[.func (.func g) #[] cb] 56)
      rw [World.size_alloc, World.size_alloc, World.size_alloc] at h0
      rw [hW0]
      exact h0
  rw [← hW0] at bO ⊢
  have hnil : ∀ k, ¬ rowOf W0 w.heap.size k := fun k ⟨n, c, h⟩ => by
    have := bO.cell
    rw [h] at this
    cases this
  clear hW0
  refine wpIn_rangeFunc_ownH rfl h1 (gf := 49) (lb := #[.pointer (some ⟨w.heap.size + 1 + 1, 0, none⟩), .pointer (some ⟨w.heap.size + 1 + 1 + 1, 0, none⟩)]) rfl trivial (enters_of Tryz.func49 (by kernel_rfl) rfl)
    (tokens_stops (n - 1) (by omega) (w.heap.size + 1 + 1) w.heap.size (w.heap.size + 1) g cb t F hF hts W0 (by omega) (by omega) w.heap.size (Nat.le_refl _) (by omega) hnil eg (fun V c hV hc => hfind V c (hB0.trans hV) hc) bI) Kt.trans (fun W l o o' hl hW hc _ => Kt.putObj (by omega) hW hc) (Below.refl _ _) (fun _ => rfl)
    (fun pre W => ((∃ v, Boxed W w.heap.size 24 v ∧ W.ownsRow w.heap.size 46 3 v pre.length (cellsT pre) ∧ True) ∧ W.heap[w.heap.size + 1]? = some (.cells #[.int .i64 (farT pre)] 3 (0, 0))) ∧ Below w.heap.size w W)
    (fun _ _ _ => False)
    (OwnFrom.and (OwnFrom.and (Own.from (holdsRow_own w.heap.size w.heap.size 24 46 3 (fun pre => pre.length) (fun pre => cellsT pre) (fun _ _ => True)) _) (Own.from (blockX_own _ (fun pre => #[.int .i64 (farT pre)]) 3) _)) (ownFrom_below (Nat.le_refl _) (by omega)))
    (fun _ _ _ _ _ hs _ _ => hs)
    ⟨⟨⟨_, bO, World.ownsRow_nil _ _ _ _, trivial⟩, bF⟩, hB0⟩
    (fun x a' W => ∃ (Bx : Nat) (vl : Value), w.heap.size + 1 < Bx ∧ W.heap[Bx]? = some (.cells #[.int .i64 x.r, .int .i64 x.f, .int .i64 x.t] 46 (0, 0)) ∧ W.heap[w.heap.size]? = some (.cells #[vl] 24 (0, 0)) ∧ vl.ownBlock ≠ some Bx ∧ a' = { tmps := #[.string t, .func (.func g) #[] cb, undef, undef, .slice none 0 0, .int .i64 0, .pointer (some ⟨w.heap.size, 0, none⟩), .pointer (some ⟨w.heap.size + 1, 0, none⟩), .pointer (some ⟨Bx, 0, none⟩), .string t, .func (.func g) #[] cb, .func (.func 49) #[] #[.pointer (some ⟨w.heap.size + 1 + 1, 0, none⟩), .pointer (some ⟨w.heap.size + 1 + 1 + 1, 0, none⟩)], .agg #[.int .i64 x.r, .int .i64 x.f, .int .i64 x.t], undef, undef, undef, undef, undef, undef, undef, undef], defers := [] })
    (fun x a' _ X Y row hs hg hr => by obtain ⟨Bx, vl, h1, h2, h3, h4, h5⟩ := hs; exact ⟨Bx, vl, h1, blockX_own Bx (fun (_ : Unit) => _) 46 () X Y row h2 hg (fun r e => (hr r e).2), blockX_own _ (fun (_ : Unit) => _) 24 () X Y row h3 hg (fun r e => (hr r e).2), h4, h5⟩)
    ?assign ?body ?done ?stop
  case assign =>
    rintro l pre x W K ⟨⟨⟨v, hv, hrow, _⟩, hN⟩, hB1⟩ hK
    gi_wp2
    have hlN : w.heap.size + 1 < W.heap.size := (Array.getElem?_eq_some_iff.1 hN).1
    exact hK _ _ ((KeepsOthers.alloc _ _).from _) (Kt.alloc (by omega) _) ⟨⟨⟨v, hv.alloc _, hrow.alloc _, trivial⟩, (Below.heap_alloc W _ _ hlN).trans hN⟩, hB1.alloc hB1.size _⟩ ⟨W.heap.size, v, hlN, World.alloc_heap_new W _, hv.alloc _, fun e => by have := (hrow.lt _ e).2; omega, rfl⟩
  case body =>
    rintro l pre x a' W hl ⟨r, hr⟩ ⟨⟨⟨v, hv, hrow, _⟩, hN⟩, hB1⟩ ⟨Bx, vl, hBx, bX, hvl, hne, rfl⟩ hlt
    have hvv : vl = v := by
      have := Eq.trans hvl.symm hv
      simp only [Option.some.injEq, Obj.cells.injEq, Array.mk.injEq, List.cons.injEq] at this
      exact this.1.1
    subst hvv
    have hc := hv.cell
    have x0 : W.cell? ⟨Bx, 0, none⟩ = some (.int .i64 x.r) := by simp [World.cell?, bX]
    have x1 : W.cell? ⟨Bx, 1, none⟩ = some (.int .i64 x.f) := by simp [World.cell?, bX]
    have x2 : W.cell? ⟨Bx, 2, none⟩ = some (.int .i64 x.t) := by simp [World.cell?, bX]
    have hlN : w.heap.size + 1 < W.heap.size := (Array.getElem?_eq_some_iff.1 hN).1
    have hlX : Bx < W.heap.size := (Array.getElem?_eq_some_iff.1 bX).1
    have HNX : Hid (some Bx ≠ vl.ownBlock) := fun e => hne e.symm
    have HX : Hid (W.heap[Bx]? = some (.cells #[.int .i64 x.r, .int .i64 x.f, .int .i64 x.t] 46 (0, 0))) := bX
    have HNF : Hid (some (w.heap.size + 1) ≠ vl.ownBlock) := Boxed.not_row hN (by decide) hrow
    have HN2 : Hid (W.heap[w.heap.size + 1]? = some (.cells #[.int .i64 (farT pre)] 3 (0, 0))) := hN
    clear hN bX hne hvl
    gi_wp2_with (gi_at_builtin; refine wpListIn_append_own_at _ rfl _ _ 24 rfl w.heap.size 46 i0 (.agg #[.int .i64 0, .int .i64 0, .int .i64 0]) 3 24 Tryz.underlying24 hi hz0 hz1 hz2 rfl (by decide) _ _ _ rfl (hrow.alloc _) ⟨W.heap.size, 0, none⟩ 1 1 [.int .i64 x.r, .int .i64 x.f, .int .i64 x.t] rfl rfl (cell_three_newX _ _ _ _ _) (by simp [Value.oneCell']) (by unfold maxLen; omega) (by omega) (by have := hB1.size; simp; omega) ?_; intro v' w1 hown' hgrow _ hat; obtain ⟨g', cap', rfl⟩ := ownsRow_succ hown'; obtain ⟨hv1, hv2, hr2, hk2, hb2⟩ := hv.appended (by decide) hrow hB1.size (Nat.le_refl _) hown' hgrow; have hc1 := hv1.cell; have hf1 := hv1.frozen; have HAT : Hid _ := hat; have hX1 : (w1.setCell ⟨w.heap.size, 0, none⟩ (.slice (some ⟨g', 0, none⟩) (pre.length + 1) cap')).heap[Bx]? = W.heap[Bx]? := (Below.heap_setCell _ _ _ _ (by simp; omega)).trans ((hgrow.block _ (by simp; omega) HNX.out).trans (Below.heap_alloc W _ _ hlX)); have hF1 : (w1.setCell ⟨w.heap.size, 0, none⟩ (.slice (some ⟨g', 0, none⟩) (pre.length + 1) cap')).heap[w.heap.size + 1]? = some (.cells #[.int .i64 (farT pre)] 3 (0, 0)) := (Below.heap_setCell _ _ _ _ (by simp)).trans ((hgrow.block _ (by simp; omega) HNF.out).trans ((Below.heap_alloc W _ _ hlN).trans HN2.out)); have y2 : (w1.setCell ⟨w.heap.size, 0, none⟩ (.slice (some ⟨g', 0, none⟩) (pre.length + 1) cap')).cell? ⟨Bx, 2, none⟩ = some (.int .i64 x.t) := (World.cell?_of_block (a := ⟨Bx, 2, none⟩) hX1).trans x2; have u0 : (w1.setCell ⟨w.heap.size, 0, none⟩ (.slice (some ⟨g', 0, none⟩) (pre.length + 1) cap')).cell? ⟨w.heap.size + 1, 0, none⟩ = some (.int .i64 (farT pre)) := Boxed.cell hF1; have u1 : (w1.setCell ⟨w.heap.size, 0, none⟩ (.slice (some ⟨g', 0, none⟩) (pre.length + 1) cap')).frozen? ⟨w.heap.size + 1, 0, none⟩ = false := Boxed.frozen hF1)
    have hkt := Kt.appended (fb := w.heap.size + 1) (u := .int .i64 x.t) hc hrow hown' hgrow HAT.out (by omega) hv2
    refine ⟨(hk2.trans (KeepsOthers.setCell _ _ _)).from _, hkt, ⟨⟨⟨_, (Below.heap_setCell _ _ _ _ (by simp)).trans hv2, ?_, trivial⟩, ?_⟩, (hB1.trans hb2).setCell (by simp) _⟩⟩
    · rw [cellsT_snoc]
      have h3 := ownsRow_setCell_other hr2 (a := ⟨w.heap.size + 1, 0, none⟩) (fun e => (Boxed.not_row hF1 (by decide) hr2) e.symm) (.int .i64 x.t)
      simpa using h3
    · rw [farT_snoc]
      exact Boxed.set _ hF1
  case done =>
    rintro D ys W hD ⟨c, hcut⟩ ⟨⟨⟨v, hv, hrow, _⟩, hN⟩, hB1⟩ hK
    have hc := hv.cell
    have hfr := hcut.far hF
    have u0 : W.cell? ⟨w.heap.size + 1, 0, none⟩ = some (.int .i64 (farT ys)) := Boxed.cell hN
    gi_wp2_with fail
    have hmix : Tryz.prog.follows .mixedOrders = true := by kernel_rfl
    rw [hfr] at u0
    first
      | gi_region_with_o fail
      | fail
    all_goals gi_wp2
    all_goals
      refine ⟨by simp, .inl ⟨_, _, rfl, run_takeDeferred (by first | exact hK | exact hK), ?_⟩⟩
      refine ⟨.tuple #[v, .int .i64 c], by simp [results, Tryz.results20, go_sem], v, ys, c, rfl, hcut, ownsRow_putObj hrow _ hK rfl, ?_⟩
      exact hB1.drew.trans (belowK_b (w := w) (Nat.le_refl _) W.drew D _ _ (by omega) hK rfl rfl)
  case stop =>
    rintro D c pre W _ _ h _
    exact h.elim
theorem cut_any (g : Nat) (cb : Array Value) (t : ByteArray) (F : Nat → Int → Int → Prop) (hF : Finds F t.size) (hts : t.size ≤ 200) (w : World) (eg : ∀ args w, (callFunc g args).run Tryz.prog w = .ok (.enter g args) w)
    (hfind : ∀ (W : World) (c : Nat), Below w.heap.size w W → c ≤ t.size → Calls Tryz.prog g (#[.int .i64 c] ++ cb) W fun e w' => (∃ r x : Int, e = .returned (.agg #[.int .i64 r, .int .i64 c, .int .i64 x]) ∧ F c r x) ∧ Below W.heap.size W w') :
    Calls Tryz.prog 20 #[.string t, .func (.func g) #[] cb] w fun e W' => ∃ (v : Value) (L : List Tk) (c : Nat), e = .returned (.tuple #[v, .int .i64 c]) ∧ CutEnd F t.size L c ∧ W'.ownsRow w.heap.size 46 3 v L.length (cellsT L) ∧ Below w.heap.size w W' :=
  callsIn_wide.1 (cut_in 3 (by omega) g cb t F hF hts w eg hfind)
end Go.Proofs.YtplpdikkkbiacaaGreatDoor

