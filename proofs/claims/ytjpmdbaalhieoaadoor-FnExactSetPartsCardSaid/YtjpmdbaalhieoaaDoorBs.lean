/- one step of splitParts: the bytes of a part that are not in the set -/
import Derived.Test.YtjpmdbaalhieoaaDoorBy
import Derived.Test.YtjpmdbaalhieoaaDoorDk
import Derived.Deep.CutRange
import Derived.Deep.RegionLaw
import Derived.Maps.AppendAt
namespace Go.Proofs.YtjpmdbaalhieoaaDoor
open Go.RowKit
set_option linter.unusedVariables false
set_option linter.unusedSimpArgs false

/-- a box of a set of bits, as its four cells -/
def B4 (V : World) (g : Nat) (B : Nat → Bool) : Prop := V.cell? ⟨g, 0, none⟩ = some (.int .u64 ((W B 0 : Nat) : Int)) ∧ V.cell? ⟨g, 1, none⟩ = some (.int .u64 ((W B 1 : Nat) : Int)) ∧ V.cell? ⟨g, 2, none⟩ = some (.int .u64 ((W B 2 : Nat) : Int)) ∧ V.cell? ⟨g, 3, none⟩ = some (.int .u64 ((W B 3 : Nat) : Int))
theorem B4.of_row {V : World} {g : Nat} {B : Nat → Bool} (h : V.rowIs g 40 4 (wc B)) : B4 V g B := ⟨h.cell (by omega), h.cell (by omega), h.cell (by omega), h.cell (by omega)⟩
theorem entersMeet : ∀ args w, (callFunc 32 args).run Tryd.prog w = .ok (.enter 32 args) w := enters_of Tryd.func32 (by kernel_rfl) rfl
theorem entersOthers : ∀ args w, (callFunc 16 args).run Tryd.prog w = .ok (.enter 16 args) w := enters_of Tryd.func16 (by kernel_rfl) rfl

theorem B4.below {V V' : World} {g : Nat} {B : Nat → Bool} (h : B4 V g B) (hb : Below V.heap.size V V') : B4 V' g B :=
  have hg : g < V.heap.size := World.block_lt_of_cell? _ _ h.1
  ⟨(hb.cell (p := ⟨g, _, none⟩) hg).trans h.1, (hb.cell (p := ⟨g, _, none⟩) hg).trans h.2.1, (hb.cell (p := ⟨g, _, none⟩) hg).trans h.2.2.1, (hb.cell (p := ⟨g, _, none⟩) hg).trans h.2.2.2⟩
theorem B4.new (V : World) (B : Nat → Bool) : B4 (V.alloc (.cells #[wc B 0, wc B 1, wc B 2, wc B 3] 40)) V.heap.size B := ⟨by simp [go_sem], by simp [go_sem], by simp [go_sem], by simp [go_sem]⟩
theorem own_belowV {W W' : World} {base e size n : Nat} {v : Value} {xs : List Value} (h : W.ownsRow base e size v n xs) (hb : Below W.heap.size W W') : W'.ownsRow base e size v n xs := by
  refine ⟨h.1, h.2.imp id (fun ⟨g, cap, cur, e1, e2, e3, e4⟩ => ⟨g, cap, cur, e1, e2, ?_, e4⟩)⟩
  exact (hb.block g (Array.getElem?_eq_some_iff.1 e3).1).trans e3
theorem cell_four_new (w : World) (x y z u : Value) (t : TypeId) : ∀ j v, [x, y, z, u][j]? = some v → (w.alloc (.cells #[x, y, z, u] t)).cell? ((⟨w.heap.size, 0, none⟩ : Addr).add j) = some v := by
  intro j v hj
  match j, hj with
  | 0, hj => simp at hj; subst hj; simp [Addr.add]
  | 1, hj => simp at hj; subst hj; simp [Addr.add]
  | 2, hj => simp at hj; subst hj; simp [Addr.add]
  | 3, hj => simp at hj; subst hj; simp [Addr.add]

theorem own_ltV {W : World} {base e size n : Nat} {v : Value} {xs : List Value} (h : W.ownsRow base e size v n xs) : ∀ j, v.ownBlock = some j → base ≤ j ∧ j < W.heap.size := by
  rcases h.2 with ⟨rfl, _⟩ | ⟨g, cap, cur, rfl, e2, e3, _⟩
  · intro j hj; cases hj
  · intro j hj; cases hj; exact ⟨e2, (Array.getElem?_eq_some_iff.1 e3).1⟩
/-- the parts told so far, the part at work in a box of its own -/
structure Sk (W0 V : World) (v : Value) (L : List (Nat → Bool)) (g : Nat) (A : Nat → Bool) : Prop where
  own : V.ownsRow W0.heap.size 40 4 v L.length (cellsB L)
  box : B4 V g A
  bel : Below W0.heap.size W0 V
  ne : ∀ j, v.ownBlock = some j → j ≠ g
theorem Sk.below {W0 V V' : World} {v : Value} {L : List (Nat → Bool)} {g : Nat} {A : Nat → Bool} (h : Sk W0 V v L g A) (hb : Below V.heap.size V V') : Sk W0 V' v L g A :=
  ⟨own_belowV h.own hb, h.box.below hb, h.bel.trans (hb.mono h.bel.size), h.ne⟩
theorem Sk.push {W0 V V1 V2 : World} {v v' : Value} {L : List (Nat → Bool)} {M : Nat → Bool} {g : Nat} {A : Nat → Bool} (h : Sk W0 V v L g A) (hb : Below V.heap.size V V1) (hown : V2.ownsRow W0.heap.size 40 4 v' (L.length + 1) (cellsB L ++ [wc M 0, wc M 1, wc M 2, wc M 3])) (hgr : V1.grownBy V2 v.ownBlock) (hat : v'.ownBlock = v.ownBlock ∨ v'.ownBlock = some V1.heap.size) : Sk W0 V2 v' (L ++ [M]) g A := by
  have h1 := h.below hb
  have hg : g < V1.heap.size := World.block_lt_of_cell? _ _ h1.box.1
  refine ⟨?_, ?_, h1.bel.grown hgr h1.bel.size (fun j hj => (own_ltV h1.own j hj).1), ?_⟩
  · rw [cellsB_snoc, List.length_append]; exact hown
  · have hk := hgr.block g hg (fun e => h1.ne g e.symm rfl)
    exact ⟨(World.cell?_of_block hk).trans h1.box.1, (World.cell?_of_block hk).trans h1.box.2.1, (World.cell?_of_block hk).trans h1.box.2.2.1, (World.cell?_of_block hk).trans h1.box.2.2.2⟩
  · intro j hj e
    rcases hat with ha | ha
    · exact h1.ne j (ha ▸ hj) e
    · rw [ha] at hj; cases hj; omega

/-- a box of four zeros, as a row -/
def Zb (V : World) (g : Nat) : Prop := V.rowIs g 40 4 (wc (fun _ => false))
theorem Zb.new (V : World) : Zb (V.alloc (.cells #[.int .u64 0, .int .u64 0, .int .u64 0, .int .u64 0] 40)) V.heap.size := zero_row V _ rfl
theorem Zb.below {V V' : World} {g : Nat} (h : Zb V g) (hb : Below V.heap.size V V') : Zb V' g := row_below h hb
theorem Zb.cells {V : World} {g : Nat} (h : Zb V g) : (V.cell? ⟨g, 0, none⟩ = some (wc (fun _ => false) 0) ∧ V.cell? ⟨g, 1, none⟩ = some (wc (fun _ => false) 1) ∧ V.cell? ⟨g, 2, none⟩ = some (wc (fun _ => false) 2) ∧ V.cell? ⟨g, 3, none⟩ = some (wc (fun _ => false) 3)) ∧ V.frozen? ⟨g, 0, .none⟩ = false ∧ V.frozen? ⟨g, 1, .none⟩ = false ∧ V.frozen? ⟨g, 2, .none⟩ = false ∧ V.frozen? ⟨g, 3, .none⟩ = false :=
  ⟨⟨World.rowIs.cell h (by omega), World.rowIs.cell h (by omega), World.rowIs.cell h (by omega), World.rowIs.cell h (by omega)⟩, World.rowIs.frozen h 0, World.rowIs.frozen h 1, World.rowIs.frozen h 2, World.rowIs.frozen h 3⟩
theorem Zb.store {V W3 : World} {g : Nat} {m : Nat → Bool} (h : Zb V g) (hb : Below W3.heap.size W3 V) (hg : W3.heap.size ≤ g) :
    B4 ((((V.setCell ⟨g, 0, .none⟩ (wc m 0)).setCell ⟨g, 1, .none⟩ (wc m 1)).setCell ⟨g, 2, .none⟩ (wc m 2)).setCell ⟨g, 3, .none⟩ (wc m 3)) g m ∧ W3.heap.size ≤ g ∧
    Below W3.heap.size W3 ((((V.setCell ⟨g, 0, .none⟩ (wc m 0)).setCell ⟨g, 1, .none⟩ (wc m 1)).setCell ⟨g, 2, .none⟩ (wc m 2)).setCell ⟨g, 3, .none⟩ (wc m 3)) := by
  refine ⟨B4.of_row ?_, hg, (((hb.setCell hg _).setCell hg _).setCell hg _).setCell hg _⟩
  have h' : V.rowIs g 40 4 (wc (fun _ => false)) := h
  refine ((((h'.set 0 _).set 1 _).set 2 _).set 3 _).congr (fun i hi => ?_)
  match i, hi with
  | 0, _ => simp
  | 1, _ => simp
  | 2, _ => simp
  | 3, _ => simp

set_option maxRecDepth 100000 in
set_option maxHeartbeats 4000000 in
theorem splitParts_any (a : Option Addr) (b cap base : Nat) (P : List (Nat → Bool)) (S : Nat → Bool) (w : World) (hga : 0 < P.length → a = some ⟨b, 0, none⟩) (hin : w.ownsRow base 40 4 (.slice (some ⟨b, 0, none⟩) P.length cap) P.length (cellsB P)) (hn : P.length ≤ 256) :
    Calls Tryd.prog 18 #[.slice a P.length cap, .agg #[wc S 0, wc S 1, wc S 2, wc S 3]] w fun e w' => ∃ v, e = .returned v ∧ w'.ownsRow w.heap.size 40 4 v (splitL S P).length (cellsB (splitL S P)) ∧ Below w.heap.size w w' := by
  obtain ⟨i0, hi, hz0, hz1, hz2⟩ := info_parts Tryd.infoBits
  go_enter Tryd.func18, Tryd.ntmps18
  go_wp2_with fail
  obtain ⟨W0, hW0⟩ : ∃ W0, W0 = (w.alloc (.cells #[wc S 0, wc S 1, wc S 2, wc S 3] 40)).alloc (.cells #[.int .u64 0, .int .u64 0, .int .u64 0, .int .u64 0] 40) := ⟨_, rfl⟩
  have hsz0 : W0.heap.size = w.heap.size + 2 := by rw [hW0]; simp
  have hb0 : Below w.heap.size w W0 := by rw [hW0]; exact ((Below.refl _ _).alloc (Nat.le_refl _) _).alloc (by simp) _
  have hrS : W0.rowIs w.heap.size 40 4 (wc S) := by rw [hW0]; exact (box_row w S).of_block (Below.heap_alloc _ _ _ (by simp))
  have hrZ : W0.rowIs (w.heap.size + 1) 40 4 (wc (fun _ => false)) := by
    have h := zero_row (w.alloc (.cells #[wc S 0, wc S 1, wc S 2, wc S 3] 40)) (fun _ => false) rfl
    rw [World.size_alloc, ← hW0] at h
    exact h
  rw [← hW0]
  clear hW0
  have hlt0 : w.heap.size + 1 < W0.heap.size := by omega
  have HS : Hid (∀ V, Below W0.heap.size W0 V → B4 V w.heap.size S ∧ B4 V (w.heap.size + 1) (fun _ => false)) := fun V hV => ⟨.of_row (row_below hrS hV), .of_row (row_below hrZ hV)⟩
  have HB0 : Hid (Below w.heap.size w W0) := hb0
  clear hsz0 hb0 hrS hrZ
  go_loopw [6, 14] (fun t i wr => ∃ (k : Nat) (v0 : Value), k ≤ P.length ∧ i = .int .i64 k ∧ v0 = t ∧ Hid (wr.ownsRow W0.heap.size 40 4 v0 (splitL S (P.take k)).length (cellsB (splitL S (P.take k)))) ∧ Below W0.heap.size W0 wr) (fun _ i _ => P.length - (intOf i).toNat)
  case atStart => exact ⟨0, _, Nat.zero_le _, rfl, rfl, by simpa [Hid, splitL, cellsB] using World.ownsRow_nil _ _ _ _, Below.refl _ _⟩
  case round =>
    obtain ⟨k, v0, hk, rfl, rfl, HO, hB⟩ := hrel
    by_cases hlt : k < P.length
    · have haa := hga (by omega)
      subst haa
      have hltz : (k : Int) < (P.length : Int) := by omega
      obtain ⟨A, hA⟩ : ∃ A, P[k]? = some A := ⟨_, List.getElem?_eq_getElem hlt⟩
      have hin2 := own_belowV hin (HB0.out.trans (hB.mono HB0.out.size))
      obtain ⟨q0, q1, q2, q3⟩ := cellsB_get P k hlt
      rw [(List.getElem?_eq_some_iff.1 hA).2] at q0 q1 q2 q3
      have c0 : wr.cell? ⟨b, k * 4, none⟩ = some (.int .u64 ((W A 0 : Nat) : Int)) := by rw [hin2.cellAt _ (by omega)]; exact q0
      have c1 : wr.cell? ⟨b, k * 4 + 1, none⟩ = some (.int .u64 ((W A 1 : Nat) : Int)) := by rw [hin2.cellAt _ (by omega)]; exact q1
      have c2 : wr.cell? ⟨b, k * 4 + 2, none⟩ = some (.int .u64 ((W A 2 : Nat) : Int)) := by rw [hin2.cellAt _ (by omega)]; exact q2
      have c3 : wr.cell? ⟨b, k * 4 + 3, none⟩ = some (.int .u64 ((W A 3 : Nat) : Int)) := by rw [hin2.cellAt _ (by omega)]; exact q3
      obtain ⟨wa, hwa⟩ : ∃ wa, wa = wr.alloc (.cells #[.int .u64 ((W A 0 : Nat) : Int), .int .u64 ((W A 1 : Nat) : Int), .int .u64 ((W A 2 : Nat) : Int), .int .u64 ((W A 3 : Nat) : Int)] 40) := ⟨_, rfl⟩
      have hba : Below wr.heap.size wr wa := by rw [hwa]; exact (Below.refl _ _).alloc (Nat.le_refl _) _
      have HB8 : Hid (B4 wa wr.heap.size A) := by rw [hwa]; exact B4.new wr A
      have HBA : Hid (Below W0.heap.size W0 wa) := hB.trans (hba.mono hB.size)
      have HOA : Hid (wa.ownsRow W0.heap.size 40 4 v0 (splitL S (P.take k)).length (cellsB (splitL S (P.take k)))) := own_belowV HO.out hba
      obtain ⟨⟨s0, s1, s2, s3⟩, _⟩ := HS.out wa HBA.out
      rw [hwa] at s0 s1 s2 s3
      have HTK : Hid (splitL S (P.take (k + 1)) = splitL S (P.take k) ++ cut2 S A) := by
        rw [Hid, List.take_add_one, hA]
        exact splitL_snoc S (P.take k) A
      have hlen : (splitL S (P.take k)).length ≤ 512 := by
        have := splitL_len S (P.take k)
        rw [List.length_take] at this
        omega
      have HMT : Hid (∀ V, Calls Tryd.prog 32 #[.agg #[.int .u64 ((W A 0 : Nat) : Int), .int .u64 ((W A 1 : Nat) : Int), .int .u64 ((W A 2 : Nat) : Int), .int .u64 ((W A 3 : Nat) : Int)], .agg #[.int .u64 ((W S 0 : Nat) : Int), .int .u64 ((W S 1 : Nat) : Int), .int .u64 ((W S 2 : Nat) : Int), .int .u64 ((W S 3 : Nat) : Int)]] V fun e w' => e = .returned (bv (fun x => A x && S x)) ∧ Below V.heap.size V w') := fun V => meet_any A S V
      clear q0 q1 q2 q3 hin2 hba hA
      go_wp2_with fail
      rw [← hwa]
      clear hwa s0 s1 s2 s3 c0 c1 c2 c3
      refine (HMT.out wa).mono ?_
      rintro e w2 ⟨rfl, hb2⟩
      obtain ⟨M, hM⟩ : ∃ M : Nat → Bool, (fun x => A x && S x) = M := ⟨_, rfl⟩
      have HM : Hid ((fun x => A x && S x) = M) := hM
      rw [hM]
      obtain ⟨wb, hwb⟩ : ∃ wb, wb = w2.alloc (.cells #[.int .u64 ((W M 0 : Nat) : Int), .int .u64 ((W M 1 : Nat) : Int), .int .u64 ((W M 2 : Nat) : Int), .int .u64 ((W M 3 : Nat) : Int)] 40) := ⟨_, rfl⟩
      have hbb : Below w2.heap.size w2 wb := by rw [hwb]; exact (Below.refl _ _).alloc (Nat.le_refl _) _
      have hab : Below wa.heap.size wa wb := hb2.trans (hbb.mono hb2.size)
      have HBB : Hid (Below W0.heap.size W0 wb) := HBA.out.trans (hab.mono HBA.out.size)
      have HOB : Hid (wb.ownsRow W0.heap.size 40 4 v0 (splitL S (P.take k)).length (cellsB (splitL S (P.take k)))) := own_belowV HOA.out hab
      have HB8b : Hid (B4 wb wr.heap.size A) := HB8.out.below hab
      have HB9b : Hid (B4 wb w2.heap.size M) := by rw [hwb]; exact B4.new w2 M
      obtain ⟨_, ⟨z0, z1, z2, z3⟩⟩ := HS.out wb HBB.out
      obtain ⟨m0, m1, m2, m3⟩ := HB9b.out
      have hnm := neqBits M (fun _ => false)
      rw [none_any, Bool.not_not] at hnm
      simp only [bv] at hnm ⊢
      rw [hwb] at z0 z1 z2 z3 m0 m1 m2 m3
      have hb2s := hb2.size
      clear hbb hab hb2 hM
      obtain ⟨L, hL⟩ : ∃ L, splitL S (P.take k) = L := ⟨_, rfl⟩
      have HSK : Hid (Sk W0 wb v0 L wr.heap.size A) := ⟨by rw [← hL]; exact HOB.out, HB8b.out, HBB.out, fun j hj e => by have := (own_ltV HOA.out j hj).2; have := (own_ltV HO.out j hj).2; omega⟩
      rw [hL] at HTK hlen
      have HSK1 : Hid (Sk W0 (w2.alloc (.cells #[.int .u64 ((W M 0 : Nat) : Int), .int .u64 ((W M 1 : Nat) : Int), .int .u64 ((W M 2 : Nat) : Int), .int .u64 ((W M 3 : Nat) : Int)] 40)) v0 L wr.heap.size A) := by rw [← hwb]; exact HSK.out
      have hsz2 : W0.heap.size ≤ w2.heap.size := by have := HBB.out.size; rw [hwb] at this; have := HBA.out.size; have := hb2s; omega
      have HNW : Hid (∀ j v, ([wc M 0, wc M 1, wc M 2, wc M 3] : List Value)[j]? = some v → ((w2.alloc (.cells #[.int .u64 ((W M 0 : Nat) : Int), .int .u64 ((W M 1 : Nat) : Int), .int .u64 ((W M 2 : Nat) : Int), .int .u64 ((W M 3 : Nat) : Int)] 40)).alloc (.cells #[.int .u64 ((W M 0 : Nat) : Int), .int .u64 ((W M 1 : Nat) : Int), .int .u64 ((W M 2 : Nat) : Int), .int .u64 ((W M 3 : Nat) : Int)] 40)).cell? ((⟨w2.heap.size + 1, 0, none⟩ : Addr).add j) = some v) := fun j v hj => by
        have := cell_four_new (w2.alloc (.cells #[.int .u64 ((W M 0 : Nat) : Int), .int .u64 ((W M 1 : Nat) : Int), .int .u64 ((W M 2 : Nat) : Int), .int .u64 ((W M 3 : Nat) : Int)] 40)) (.int .u64 ((W M 0 : Nat) : Int)) (.int .u64 ((W M 1 : Nat) : Int)) (.int .u64 ((W M 2 : Nat) : Int)) (.int .u64 ((W M 3 : Nat) : Int)) 40 j v hj
        rwa [World.size_alloc] at this
      clear hL HOB HB8b HB9b HBB HOA HBA HO HB8
      cases hAM : anyB M
      all_goals rw [hAM] at hnm
      case true =>
        go_wp2_with (at_builtin; refine wpList_append_own_at _ rfl _ _ 42 rfl W0.heap.size 40 i0 _ 4 32 Tryd.underlying42 hi hz0 hz1 hz2 (by simp [Value.cells]) (by decide) _ _ _ rfl (HSK1.out.own.alloc _) ⟨w2.heap.size + 1, 0, none⟩ 1 1 [wc M 0, wc M 1, wc M 2, wc M 3] rfl rfl HNW.out (by simp [Value.oneCell']) (by unfold maxLen; omega) (by omega) (by rw [World.size_alloc, World.size_alloc]; omega) ?_; intro v1 W3 hown3 hgr3 _ hat3)
        have HT3 : Hid (Sk W0 W3 v1 (L ++ [M]) wr.heap.size A) := HSK1.out.push ((Below.refl _ _).alloc (Nat.le_refl _) _) hown3 hgr3 hat3
        have HTK3 : Hid (splitL S (P.take (k + 1)) = (L ++ [M]) ++ if anyB (fun x => A x && !S x) then [fun x => A x && !S x] else []) := by
          rw [HTK.out, cut2, HM.out, hAM, if_pos rfl, List.append_assoc]; rfl
        have hl1 : (L ++ [M]).length ≤ 513 := by rw [List.length_append]; simp; omega
        generalize L ++ [M] = L1 at HT3 HTK3 hl1
        clear hown3 hgr3 hat3 hnm hAM z0 z1 z2 z3 m0 m1 m2 m3 HTK HSK HSK1 HNW hwb hb2s hsz2 HMT HM hlen
        have HBD : Hid (Below W3.heap.size W3 W3.drew) := (Below.refl _ _).drew
        have HCE : Hid (∀ V, Below W3.heap.size W3 V → B4 V wr.heap.size A ∧ B4 V w.heap.size S) := fun V hV => ⟨HT3.out.box.below hV, (HS.out V (HT3.out.bel.trans (hV.mono HT3.out.bel.size))).1⟩
        have HME : Hid (∀ V, Calls Tryd.prog 32 #[.agg #[.int .u64 ((W A 0 : Nat) : Int), .int .u64 ((W A 1 : Nat) : Int), .int .u64 ((W A 2 : Nat) : Int), .int .u64 ((W A 3 : Nat) : Int)], .agg #[wc (fun x => !S x) 0, wc (fun x => !S x) 1, wc (fun x => !S x) 2, wc (fun x => !S x) 3]] V fun e w' => e = .returned (.agg #[.int .u64 ((W (fun x => A x && !S x) 0 : Nat) : Int), .int .u64 ((W (fun x => A x && !S x) 1 : Nat) : Int), .int .u64 ((W (fun x => A x && !S x) 2 : Nat) : Int), .int .u64 ((W (fun x => A x && !S x) 3 : Nat) : Int)]) ∧ Below V.heap.size V w') := fun V => meet_any A (fun x => !S x) V
        have HOT : Hid (∀ V, Calls Tryd.prog 16 #[.agg #[.int .u64 ((W S 0 : Nat) : Int), .int .u64 ((W S 1 : Nat) : Int), .int .u64 ((W S 2 : Nat) : Int), .int .u64 ((W S 3 : Nat) : Int)]] V fun e w' => e = .returned (.agg #[wc (fun x => !S x) 0, wc (fun x => !S x) 1, wc (fun x => !S x) 2, wc (fun x => !S x) 3]) ∧ Below V.heap.size V w') := fun V => others_any S V
        have HBDA : Hid (Below W3.heap.size W3 (W3.alloc (.cells #[.int .u64 0, .int .u64 0, .int .u64 0, .int .u64 0] 40)).drew) := ((Below.refl _ _).alloc (Nat.le_refl _) _).drew
        have HZD : Hid (Zb (W3.alloc (.cells #[.int .u64 0, .int .u64 0, .int .u64 0, .int .u64 0] 40)).drew W3.heap.size) := Zb.new W3
        obtain ⟨⟨a0, a1, a2, a3⟩, s0, s1, s2, s3⟩ := HCE.out W3 (Below.refl _ _)
        obtain ⟨⟨p0, p1, p2, p3⟩, q0, q1, q2, q3⟩ := HCE.out (W3.alloc (.cells #[.int .u64 0, .int .u64 0, .int .u64 0, .int .u64 0] 40)) ((Below.refl _ _).alloc (Nat.le_refl _) _)
        go_cut [10] from 28 to 31 (fun s V => ∃ g, s = .pointer (some ⟨g, 0, none⟩) ∧ Hid (B4 V g (fun x => A x && !S x) ∧ W3.heap.size ≤ g ∧ Below W3.heap.size W3 V))
        case first =>
          go_region_law (first
            | (refine step_call2 rfl 32 _ _ 40 40 rfl entersMeet (.agg #[.int .u64 ((W A 0 : Nat) : Int), .int .u64 ((W A 1 : Nat) : Int), .int .u64 ((W A 2 : Nat) : Int), .int .u64 ((W A 3 : Nat) : Int)]) (.agg #[wc (fun x => !S x) 0, wc (fun x => !S x) 1, wc (fun x => !S x) 2, wc (fun x => !S x) 3]) rfl rfl (HME.out _) (fun e w' h => ⟨_, h.1⟩) ?_
               intro rr w6 hres
               obtain ⟨hrv, hb6⟩ := hres
               obtain rfl := Ending.returned.inj hrv
               have HB6 : Hid (Below W3.heap.size W3 w6) := Below.trans (by first | exact HB5.out | exact HB5.out.alloc HB5.out.size _) (hb6.mono (by have := HB5.out.size; first | omega | (rw [World.size_alloc]; omega)))
               have HBC6 := hb6
               first
                 | (have HZ6 : Hid (Zb w6 W3.heap.size) := HZ5.out.below hb6
                    obtain ⟨⟨y0, y1, y2, y3⟩, o0, o1, o2, o3⟩ := HZ6.out.cells)
                 | (have HZ7 : Hid (Zb w6 w5.heap.size) := (Zb.new w5).below hb6
                    obtain ⟨⟨y0, y1, y2, y3⟩, o0, o1, o2, o3⟩ := HZ7.out.cells)
                 | skip
               clear hrv hb6 HBC6)
            | (refine step_call1 rfl 16 _ 40 rfl entersOthers (.agg #[.int .u64 ((W S 0 : Nat) : Int), .int .u64 ((W S 1 : Nat) : Int), .int .u64 ((W S 2 : Nat) : Int), .int .u64 ((W S 3 : Nat) : Int)]) rfl (HOT.out _) (fun e w' h => ⟨_, h.1⟩) ?_
               intro rr w5 hres
               obtain ⟨hrv, hb5⟩ := hres
               obtain rfl := Ending.returned.inj hrv
               have HB5 : Hid (Below W3.heap.size W3 w5) := Below.trans (by first | exact HBD.out | exact HBDA.out) (hb5.mono (by first | exact HBD.out.size | exact HBDA.out.size))
               obtain ⟨⟨x0, x1, x2, x3⟩, _⟩ := HCE.out w5 HB5.out
               obtain ⟨⟨r0, r1, r2, r3⟩, _⟩ := HCE.out (w5.alloc (.cells #[.int .u64 0, .int .u64 0, .int .u64 0, .int .u64 0] 40)) (HB5.out.alloc HB5.out.size _)
               first
                 | (have HZ5 : Hid (Zb w5 W3.heap.size) := HZD.out.below hb5
                    obtain ⟨⟨y0, y1, y2, y3⟩, o0, o1, o2, o3⟩ := HZ5.out.cells)
                 | skip
               clear hrv hb5))
          all_goals go_wp2_with fail
          all_goals go_meet
          all_goals first
            | exact ⟨_, rfl, HZ6.out.store (m := fun x => A x && !S x) HB6.out (Nat.le_refl _)⟩
            | exact ⟨_, rfl, HZ7.out.store (m := fun x => A x && !S x) HB6.out HB5.out.size⟩
            | exact ⟨_, rfl, B4.new w6 _, HB6.out.size, HB6.out.alloc HB6.out.size _⟩
        case rest =>
          obtain ⟨g, rfl, hcx⟩ := hcut
          rename World => W5
          obtain ⟨hg4, hg, hb5⟩ := hcx
          have HT5 : Hid (Sk W0 W5 v1 L1 wr.heap.size A) := HT3.out.below hb5
          clear a0 a1 a2 a3 s0 s1 s2 s3 p0 p1 p2 p3 q0 q1 q2 q3
          obtain ⟨m0, m1, m2, m3⟩ := hg4
          obtain ⟨_, ⟨z0, z1, z2, z3⟩⟩ := HS.out W5 HT5.out.bel
          have hnm := neqBits (fun x => A x && !S x) (fun _ => false)
          rw [none_any, Bool.not_not] at hnm
          simp only [bv] at hnm
          have hs5 := HT5.out.bel.size
          cases hAN : anyB (fun x => A x && !S x)
          all_goals rw [hAN] at hnm
          case true =>
            go_wp2_with (at_builtin; refine wpList_append_own_at _ rfl _ _ 42 rfl W0.heap.size 40 i0 _ 4 32 Tryd.underlying42 hi hz0 hz1 hz2 (by simp [Value.cells]) (by decide) _ _ _ rfl (HT5.out.own.alloc _) ⟨W5.heap.size, 0, none⟩ 1 1 [wc (fun x => A x && !S x) 0, wc (fun x => A x && !S x) 1, wc (fun x => A x && !S x) 2, wc (fun x => A x && !S x) 3] rfl rfl (cell_four_new _ _ _ _ _ _) (by simp [Value.oneCell']) (by unfold maxLen; omega) (by omega) (by rw [World.size_alloc]; omega) ?_; intro v2 W6 hown6 hgr6 _ hat6)
            have HT6 : Hid (Sk W0 W6 v2 (L1 ++ [fun x => A x && !S x]) wr.heap.size A) := HT5.out.push ((Below.refl _ _).alloc (Nat.le_refl _) _) hown6 hgr6 hat6
            have HE6 : Hid (splitL S (P.take (k + 1)) = L1 ++ [fun x => A x && !S x]) := by rw [HTK3.out, hAN, if_pos rfl]; rfl
            clear hown6 hgr6 hat6
            go_roundw
            case rel => exact ⟨k + 1, v2, by omega, by go_num, rfl, by rw [HE6.out]; exact HT6.out.own, HT6.out.bel⟩
            case measure => simp [intOf]; omega
          case false =>
            have HE6 : Hid (splitL S (P.take (k + 1)) = L1) := by rw [HTK3.out, hAN, if_neg (by simp), List.append_nil]; rfl
            go_wp2_with fail
            go_roundw
            case rel => exact ⟨k + 1, v1, by omega, by go_num, rfl, by rw [HE6.out]; exact HT5.out.own, HT5.out.bel⟩
            case measure => simp [intOf]; omega
      case false =>
        go_wp2_with fail
        have HTK3 : Hid (splitL S (P.take (k + 1)) = L ++ if anyB (fun x => A x && !S x) then [fun x => A x && !S x] else []) := by
          rw [HTK.out, cut2, HM.out, hAM, if_neg (by simp), List.nil_append]; rfl
        have hl1 : L.length ≤ 513 := by omega
        obtain ⟨W3, hW3⟩ : ∃ W3, W3 = w2.alloc (.cells #[.int .u64 ((W M 0 : Nat) : Int), .int .u64 ((W M 1 : Nat) : Int), .int .u64 ((W M 2 : Nat) : Int), .int .u64 ((W M 3 : Nat) : Int)] 40) := ⟨_, rfl⟩
        have HT3 : Hid (Sk W0 W3 v0 L wr.heap.size A) := by rw [hW3]; exact HSK1.out
        rw [← hW3]
        clear hW3 hnm hAM z0 z1 z2 z3 m0 m1 m2 m3 HTK HSK HSK1 HNW hwb hb2s hsz2 HMT HM hlen
        have HBD : Hid (Below W3.heap.size W3 W3.drew) := (Below.refl _ _).drew
        have HCE : Hid (∀ V, Below W3.heap.size W3 V → B4 V wr.heap.size A ∧ B4 V w.heap.size S) := fun V hV => ⟨HT3.out.box.below hV, (HS.out V (HT3.out.bel.trans (hV.mono HT3.out.bel.size))).1⟩
        have HME : Hid (∀ V, Calls Tryd.prog 32 #[.agg #[.int .u64 ((W A 0 : Nat) : Int), .int .u64 ((W A 1 : Nat) : Int), .int .u64 ((W A 2 : Nat) : Int), .int .u64 ((W A 3 : Nat) : Int)], .agg #[wc (fun x => !S x) 0, wc (fun x => !S x) 1, wc (fun x => !S x) 2, wc (fun x => !S x) 3]] V fun e w' => e = .returned (.agg #[.int .u64 ((W (fun x => A x && !S x) 0 : Nat) : Int), .int .u64 ((W (fun x => A x && !S x) 1 : Nat) : Int), .int .u64 ((W (fun x => A x && !S x) 2 : Nat) : Int), .int .u64 ((W (fun x => A x && !S x) 3 : Nat) : Int)]) ∧ Below V.heap.size V w') := fun V => meet_any A (fun x => !S x) V
        have HOT : Hid (∀ V, Calls Tryd.prog 16 #[.agg #[.int .u64 ((W S 0 : Nat) : Int), .int .u64 ((W S 1 : Nat) : Int), .int .u64 ((W S 2 : Nat) : Int), .int .u64 ((W S 3 : Nat) : Int)]] V fun e w' => e = .returned (.agg #[wc (fun x => !S x) 0, wc (fun x => !S x) 1, wc (fun x => !S x) 2, wc (fun x => !S x) 3]) ∧ Below V.heap.size V w') := fun V => others_any S V
        have HBDA : Hid (Below W3.heap.size W3 (W3.alloc (.cells #[.int .u64 0, .int .u64 0, .int .u64 0, .int .u64 0] 40)).drew) := ((Below.refl _ _).alloc (Nat.le_refl _) _).drew
        have HZD : Hid (Zb (W3.alloc (.cells #[.int .u64 0, .int .u64 0, .int .u64 0, .int .u64 0] 40)).drew W3.heap.size) := Zb.new W3
        obtain ⟨⟨a0, a1, a2, a3⟩, s0, s1, s2, s3⟩ := HCE.out W3 (Below.refl _ _)
        obtain ⟨⟨p0, p1, p2, p3⟩, q0, q1, q2, q3⟩ := HCE.out (W3.alloc (.cells #[.int .u64 0, .int .u64 0, .int .u64 0, .int .u64 0] 40)) ((Below.refl _ _).alloc (Nat.le_refl _) _)
        go_cut [10] from 28 to 31 (fun s V => ∃ g, s = .pointer (some ⟨g, 0, none⟩) ∧ Hid (B4 V g (fun x => A x && !S x) ∧ W3.heap.size ≤ g ∧ Below W3.heap.size W3 V))
        case first =>
          go_region_law (first
            | (refine step_call2 rfl 32 _ _ 40 40 rfl entersMeet (.agg #[.int .u64 ((W A 0 : Nat) : Int), .int .u64 ((W A 1 : Nat) : Int), .int .u64 ((W A 2 : Nat) : Int), .int .u64 ((W A 3 : Nat) : Int)]) (.agg #[wc (fun x => !S x) 0, wc (fun x => !S x) 1, wc (fun x => !S x) 2, wc (fun x => !S x) 3]) rfl rfl (HME.out _) (fun e w' h => ⟨_, h.1⟩) ?_
               intro rr w6 hres
               obtain ⟨hrv, hb6⟩ := hres
               obtain rfl := Ending.returned.inj hrv
               have HB6 : Hid (Below W3.heap.size W3 w6) := Below.trans (by first | exact HB5.out | exact HB5.out.alloc HB5.out.size _) (hb6.mono (by have := HB5.out.size; first | omega | (rw [World.size_alloc]; omega)))
               have HBC6 := hb6
               first
                 | (have HZ6 : Hid (Zb w6 W3.heap.size) := HZ5.out.below hb6
                    obtain ⟨⟨y0, y1, y2, y3⟩, o0, o1, o2, o3⟩ := HZ6.out.cells)
                 | (have HZ7 : Hid (Zb w6 w5.heap.size) := (Zb.new w5).below hb6
                    obtain ⟨⟨y0, y1, y2, y3⟩, o0, o1, o2, o3⟩ := HZ7.out.cells)
                 | skip
               clear hrv hb6 HBC6)
            | (refine step_call1 rfl 16 _ 40 rfl entersOthers (.agg #[.int .u64 ((W S 0 : Nat) : Int), .int .u64 ((W S 1 : Nat) : Int), .int .u64 ((W S 2 : Nat) : Int), .int .u64 ((W S 3 : Nat) : Int)]) rfl (HOT.out _) (fun e w' h => ⟨_, h.1⟩) ?_
               intro rr w5 hres
               obtain ⟨hrv, hb5⟩ := hres
               obtain rfl := Ending.returned.inj hrv
               have HB5 : Hid (Below W3.heap.size W3 w5) := Below.trans (by first | exact HBD.out | exact HBDA.out) (hb5.mono (by first | exact HBD.out.size | exact HBDA.out.size))
               obtain ⟨⟨x0, x1, x2, x3⟩, _⟩ := HCE.out w5 HB5.out
               obtain ⟨⟨r0, r1, r2, r3⟩, _⟩ := HCE.out (w5.alloc (.cells #[.int .u64 0, .int .u64 0, .int .u64 0, .int .u64 0] 40)) (HB5.out.alloc HB5.out.size _)
               first
                 | (have HZ5 : Hid (Zb w5 W3.heap.size) := HZD.out.below hb5
                    obtain ⟨⟨y0, y1, y2, y3⟩, o0, o1, o2, o3⟩ := HZ5.out.cells)
                 | skip
               clear hrv hb5))
          all_goals go_wp2_with fail
          all_goals go_meet
          all_goals first
            | exact ⟨_, rfl, HZ6.out.store (m := fun x => A x && !S x) HB6.out (Nat.le_refl _)⟩
            | exact ⟨_, rfl, HZ7.out.store (m := fun x => A x && !S x) HB6.out HB5.out.size⟩
            | exact ⟨_, rfl, B4.new w6 _, HB6.out.size, HB6.out.alloc HB6.out.size _⟩
        case rest =>
          obtain ⟨g, rfl, hcx⟩ := hcut
          rename World => W5
          obtain ⟨hg4, hg, hb5⟩ := hcx
          have HT5 : Hid (Sk W0 W5 v0 L wr.heap.size A) := HT3.out.below hb5
          clear a0 a1 a2 a3 s0 s1 s2 s3 p0 p1 p2 p3 q0 q1 q2 q3
          obtain ⟨m0, m1, m2, m3⟩ := hg4
          obtain ⟨_, ⟨z0, z1, z2, z3⟩⟩ := HS.out W5 HT5.out.bel
          have hnm := neqBits (fun x => A x && !S x) (fun _ => false)
          rw [none_any, Bool.not_not] at hnm
          simp only [bv] at hnm
          have hs5 := HT5.out.bel.size
          cases hAN : anyB (fun x => A x && !S x)
          all_goals rw [hAN] at hnm
          case true =>
            go_wp2_with (at_builtin; refine wpList_append_own_at _ rfl _ _ 42 rfl W0.heap.size 40 i0 _ 4 32 Tryd.underlying42 hi hz0 hz1 hz2 (by simp [Value.cells]) (by decide) _ _ _ rfl (HT5.out.own.alloc _) ⟨W5.heap.size, 0, none⟩ 1 1 [wc (fun x => A x && !S x) 0, wc (fun x => A x && !S x) 1, wc (fun x => A x && !S x) 2, wc (fun x => A x && !S x) 3] rfl rfl (cell_four_new _ _ _ _ _ _) (by simp [Value.oneCell']) (by unfold maxLen; omega) (by omega) (by rw [World.size_alloc]; omega) ?_; intro v2 W6 hown6 hgr6 _ hat6)
            have HT6 : Hid (Sk W0 W6 v2 (L ++ [fun x => A x && !S x]) wr.heap.size A) := HT5.out.push ((Below.refl _ _).alloc (Nat.le_refl _) _) hown6 hgr6 hat6
            have HE6 : Hid (splitL S (P.take (k + 1)) = L ++ [fun x => A x && !S x]) := by rw [HTK3.out, hAN, if_pos rfl]; rfl
            clear hown6 hgr6 hat6
            go_roundw
            case rel => exact ⟨k + 1, v2, by omega, by go_num, rfl, by rw [HE6.out]; exact HT6.out.own, HT6.out.bel⟩
            case measure => simp [intOf]; omega
          case false =>
            have HE6 : Hid (splitL S (P.take (k + 1)) = L) := by rw [HTK3.out, hAN, if_neg (by simp), List.append_nil]; rfl
            go_wp2_with fail
            go_roundw
            case rel => exact ⟨k + 1, v0, by omega, by go_num, rfl, by rw [HE6.out]; exact HT5.out.own, HT5.out.bel⟩
            case measure => simp [intOf]; omega
    · have hltz : ¬ (k : Int) < (P.length : Int) := by omega
      have HF : Hid (splitL S (P.take k) = splitL S P) := by rw [Hid, List.take_of_length_le (by omega)]
      go_wp2_with fail
      go_ret
      refine ⟨v0, rfl, ?_, HB0.out.trans (hB.mono HB0.out.size)⟩
      have := HO.out
      rw [HF.out] at this
      refine ⟨this.1, this.2.imp id (fun ⟨g, cap, cur, e1, e2, e3⟩ => ⟨g, cap, cur, e1, Nat.le_trans HB0.out.size e2, e3⟩)⟩
end Go.Proofs.YtjpmdbaalhieoaaDoor

