/- SetParts: all bytes, cut by each set, sorted, each part written as spans -/
import Derived.Test.YtjpmdbaalhieoaaDoorCc
import Derived.Test.YtjpmdbaalhieoaaDoorBu
import Derived.Test.YtjpmdbaalhieoaaDoorBi
import Derived.Test.YtjpmdbaalhieoaaDoorBg
import Derived.Test.YtjpmdbaalhieoaaDoorJc
import Derived.Test.YtjpmdbaalhieoaaDoorYc
namespace Go.Proofs.YtjpmdbaalhieoaaDoor
open Go.RowKit
set_option linter.unusedVariables false
set_option linter.unusedSimpArgs false

theorem partsUp_pos (F : Nat → Nat → Bool) : ∀ k, ∃ B, B ∈ partsUp F k ∧ B 0 = true
  | 0 => ⟨_, List.mem_singleton.2 rfl, rfl⟩
  | k + 1 => by
    obtain ⟨B, hB, h0⟩ := partsUp_pos F k
    have hany : ∀ C : Nat → Bool, C 0 = true → anyB C = true := fun C hC => List.any_eq_true.2 ⟨0, by simp, hC⟩
    cases hs : F k 0 with
    | true =>
      refine ⟨fun x => B x && F k x, List.mem_flatMap.2 ⟨B, hB, ?_⟩, by simp [h0, hs]⟩
      unfold cut2
      rw [if_pos (hany _ (by simp [h0, hs]))]
      simp
    | false =>
      refine ⟨fun x => B x && !F k x, List.mem_flatMap.2 ⟨B, hB, ?_⟩, by simp [h0, hs]⟩
      unfold cut2
      rw [if_pos (c := anyB (fun x => B x && !F k x) = true) (hany _ (by simp [h0, hs]))]
      simp
theorem partsUp_len (F : Nat → Nat → Bool) (k : Nat) : 0 < (partsUp F k).length := by
  obtain ⟨B, hB, _⟩ := partsUp_pos F k
  exact List.length_pos_of_mem hB

/-- part i of a list of parts -/
def atL (L : List (Nat → Bool)) (i : Nat) : Nat → Bool := L.getD i (fun _ => false)
theorem atL_get {L : List (Nat → Bool)} {i : Nat} (h : i < L.length) : atL L i = L[i] := by simp [atL, List.getD, h]
/-- how many spans part i has, and their cells -/
def rlen (L : List (Nat → Bool)) (i : Nat) : Nat := (runs (atL L i) 256).length
def rcel (L : List (Nat → Bool)) (i : Nat) : List Value := cellsR (runs (atL L i) 256)

/-- what SetParts gives: as many new sets as there are parts, each the spans of its part -/
def PartsRes (L : List (Nat → Bool)) (w : World) (e : Ending) (w' : World) : Prop :=
  ∃ (a : Option Addr) (B c : Nat) (V : Nat → Value), e = .returned (.slice a L.length c) ∧ (0 < L.length → a = some ⟨B, 0, none⟩) ∧ Lst w' w.heap.size B L.length V (rlen L) (rcel L) ∧ (0 < L.length → w.heap.size ≤ B ∧ B < w'.heap.size) ∧ Below w.heap.size w w'

theorem own_down {w : World} {base base' : Nat} {e : TypeId} {size n : Nat} {v : Value} {xs : List Value} (h : w.ownsRow base e size v n xs) (hb : base' ≤ base) : w.ownsRow base' e size v n xs := by
  refine ⟨h.1, ?_⟩
  rcases h.2 with h0 | ⟨g, cap, cur, e, hb1, r⟩
  · exact .inl h0
  · exact .inr ⟨g, cap, cur, e, Nat.le_trans hb hb1, r⟩
/-- the sets that are written so far -/
structure Sofar (wr : World) (B k : Nat) (V : Nat → Value) (L : List (Nat → Bool)) : Prop where
  own : ∀ i, i < k → wr.ownsRow (B + 1) 33 2 (V i) (rlen L i) (rcel L i)
  apart : ∀ i j, i < k → j < k → i ≠ j → (V i).ownBlock = none ∨ (V i).ownBlock ≠ (V j).ownBlock
theorem Sofar.out {wr : World} {B k : Nat} {V : Nat → Value} {L : List (Nat → Bool)} (h : Sofar wr B k V L) {i : Nat} (hi : i < k) : (V i).ownBlock ≠ some B := fun e => by
  have := ((h.own i hi).lt B e).1
  omega
theorem Sofar.below {wr w' : World} {B k : Nat} {V : Nat → Value} {L : List (Nat → Bool)} (h : Sofar wr B k V L) (hb : Below wr.heap.size wr w') : Sofar w' B k V L :=
  ⟨fun i hi => own_belowV (h.own i hi) hb, h.apart⟩
/-- V with v at k -/
def updV (V : Nat → Value) (k : Nat) (v : Value) (j : Nat) : Value := if j = k then v else V j
theorem Sofar.push {wr w1 : World} {B k : Nat} {V : Nat → Value} {L : List (Nat → Bool)} {v : Value} (h : Sofar wr B k V L) (hb : Below wr.heap.size wr w1) (hB : B < wr.heap.size)
    (hv : w1.ownsRow wr.heap.size 33 2 v (rlen L k) (rcel L k)) : Sofar (w1.setCell ⟨B, k, none⟩ v) B (k + 1) (updV V k v) L := by
  have h1 := h.below hb
  have hne : ∀ i, i < k → v.ownBlock = none ∨ v.ownBlock ≠ (V i).ownBlock := fun i hi => by
    cases hvb : v.ownBlock with
    | none => exact .inl rfl
    | some x =>
      right
      intro e
      have q1 := (hv.lt x hvb).1
      have q2 := ((h.own i hi).lt x e.symm).2
      omega
  refine ⟨fun i hi => ?_, fun i j hi hj hij => ?_⟩
  · by_cases e : i = k
    · subst e
      have hvB : w1.ownsRow (B + 1) 33 2 v (rlen L i) (rcel L i) := own_down hv (by omega)
      rw [show updV V i v i = v from if_pos rfl]
      exact ownsRow_setCell_other hvB (fun e => by have := (hv.lt B e).1; omega) _
    · rw [show updV V k v i = V i from if_neg e]
      exact ownsRow_setCell_other (h1.own i (by omega)) (h1.out (by omega)) _
  · by_cases e1 : i = k
    · subst e1
      have e2 : j ≠ i := fun e => hij e.symm
      rw [show updV V i v i = v from if_pos rfl, show updV V i v j = V j from if_neg e2]
      exact hne j (by omega)
    · by_cases e2 : j = k
      · subst e2
        rw [show updV V j v j = v from if_pos rfl, show updV V j v i = V i from if_neg e1]
        rcases hne i (by omega) with h | h
        · cases hV : (V i).ownBlock with
          | none => exact .inl rfl
          | some x => right; rw [h]; simp
        · exact .inr (fun e => h e.symm)
      · rw [show updV V k v i = V i from if_neg e1, show updV V k v j = V j from if_neg e2]
        exact h.apart i j (by omega) (by omega) hij

theorem zero4 : (Value.agg #[.int .u64 0, .int .u64 0, .int .u64 0, .int .u64 0]) = .agg #[wc (fun _ => false) 0, wc (fun _ => false) 1, wc (fun _ => false) 2, wc (fun _ => false) 3] := by kernel_rfl

set_option maxRecDepth 100000 in
set_option maxHeartbeats 4000000 in
theorem implSetParts_any (a : Option Addr) (b off cap n : Nat) (N : Nest) (w : World) (hga : 0 < n → a = some ⟨b, off, none⟩) (hc : SS w b off n N) (hni : ∀ i, i < n → N.n i ≤ 4194304) (hn : n ≤ 4194304) (ht : TabZ w) :
    Calls Tryd.prog 7 #[.slice a n cap] w (PartsRes (partsOut N n) w) := by
  have HC : Hid (SS w b off n N) := hc
  have HNI : Hid (∀ i, i < n → N.n i ≤ 4194304) := hni
  have HT : Hid (TabZ w) := ht
  have HW0 : Hid (0 < w.heap.size) := World.block_lt_of_cell? _ _ (ht 0 (by omega))
  have HO := others_any (fun _ => false) w
  rw [← zero4] at HO
  clear hc hni ht
  go_enter Tryd.func7, Tryd.ntmps7
  go_wp2_with fail
  refine HO.mono ?_
  rintro e w1 ⟨rfl, hb1⟩
  clear HO
  have HB1 : Hid (Below w.heap.size w (w1.alloc (.cells #[wc (fun x => true) 0, wc (fun x => true) 1, wc (fun x => true) 2, wc (fun x => true) 3] 40))) := hb1.alloc hb1.size _
  have HP0 : Hid ((w1.alloc (.cells #[wc (fun x => true) 0, wc (fun x => true) 1, wc (fun x => true) 2, wc (fun x => true) 3] 40)).ownsRow w.heap.size 40 4 (.slice (some ⟨w1.heap.size, 0, none⟩) (partsUp (FN N) 0).length 1) (partsUp (FN N) 0).length (cellsB (partsUp (FN N) 0))) :=
    World.ownsRow_lit (base := w.heap.size) (size := 4) (e := 40) w1 #[wc (fun x => true) 0, wc (fun x => true) 1, wc (fun x => true) 2, wc (fun x => true) 3] 1 hb1.size (by unfold maxLen; omega) rfl
  clear hb1
  go_wp2_with fail
  go_loopw [3, 14] (fun t i wr => ∃ (k g c : Nat), k ≤ n ∧ i = .int .i64 k ∧ t = .slice (some ⟨g, 0, none⟩) (partsUp (FN N) k).length c ∧ Hid (wr.ownsRow w.heap.size 40 4 (.slice (some ⟨g, 0, none⟩) (partsUp (FN N) k).length c) (partsUp (FN N) k).length (cellsB (partsUp (FN N) k))) ∧ Hid (∀ i, i < k → okB (N.n i) (N.L i) (N.H i) = true) ∧ Hid (Below w.heap.size w wr)) (fun _ i _ => n - (intOf i).toNat)
  case atStart => exact ⟨0, _, 1, Nat.zero_le _, rfl, rfl, HP0.out, fun i hi => absurd hi (Nat.not_lt_zero _), HB1.out⟩
  case round =>
    clear HB1 HP0
    obtain ⟨k, g, c, hk, rfl, rfl, HL, HOK, HB⟩ := hrel
    by_cases hlt : k < n
    · have hltz : (k : Int) < (n : Int) := by omega
      obtain rfl := hga (by omega)
      obtain ⟨c1, g1, s1⟩ := (HC.out.below HB.out) k hlt
      have HG1 : Hid (0 < N.n k → N.a k = some ⟨N.b k, N.off k, none⟩) := g1
      have HS1 : Hid (Sp wr (N.b k) (N.off k) (N.n k) (N.L k) (N.H k)) := s1
      have HSO : Hid (Calls Tryd.prog 17 #[.slice (N.a k) (N.n k) (N.cap k)] wr fun e w' => e = .returned (.bool (okB (N.n k) (N.L k) (N.H k))) ∧ Below wr.heap.size wr w') := implSetOk_any (N.a k) (N.b k) (N.off k) (N.cap k) (N.n k) (N.L k) (N.H k) wr g1 s1 (HNI.out k hlt)
      clear g1 s1
      go_wp2_with fail
      refine HSO.out.mono ?_
      rintro e w2 ⟨rfl, hb2⟩
      have HB2 : Hid (Below w.heap.size w w2) := HB.out.trans (hb2.mono HB.out.size)
      cases hok : okB (N.n k) (N.L k) (N.H k)
      case true =>
        have HBO : Hid (Calls Tryd.prog 19 #[.slice (N.a k) (N.n k) (N.cap k)] w2 fun e w' => e = .returned (.agg #[wc (FN N k) 0, wc (FN N k) 1, wc (FN N k) 2, wc (FN N k) 3]) ∧ Below w2.heap.size w2 w') := bitsOf_any (N.a k) (N.b k) (N.off k) (N.cap k) (N.n k) (N.L k) (N.H k) w2 HG1.out (sp_belowV HS1.out hb2) (HNI.out k hlt)
        have HL2 : Hid (w2.ownsRow w.heap.size 40 4 (.slice (some ⟨g, 0, none⟩) (partsUp (FN N) k).length c) (partsUp (FN N) k).length (cellsB (partsUp (FN N) k))) := own_belowV HL.out hb2
        have HOK2 : Hid (∀ i, i < k + 1 → okB (N.n i) (N.L i) (N.H i) = true) := fun i hi => by
          by_cases e : i = k
          · subst e; exact hok
          · exact HOK.out i (by omega)
        clear hb2 hok c1 HSO HL HB
        go_wp2_with fail
        refine HBO.out.mono ?_
        rintro e w3 ⟨rfl, hb3⟩
        have HB3 : Hid (Below w.heap.size w w3) := HB2.out.trans (hb3.mono HB2.out.size)
        have HSP : Hid (Calls Tryd.prog 18 #[.slice (some ⟨g, 0, none⟩) (partsUp (FN N) k).length c, .agg #[wc (FN N k) 0, wc (FN N k) 1, wc (FN N k) 2, wc (FN N k) 3]] w3 fun e w' => ∃ v, e = .returned v ∧ w'.ownsRow w3.heap.size 40 4 v (partsUp (FN N) (k + 1)).length (cellsB (partsUp (FN N) (k + 1))) ∧ Below w3.heap.size w3 w') :=
          splitParts_any _ g c w.heap.size (partsUp (FN N) k) (FN N k) w3 (fun _ => rfl) (own_belowV HL2.out hb3) (partsUp_ok (FN N) k).len
        clear hb3 HBO HL2
        go_wp2_with fail
        refine HSP.out.mono ?_
        rintro e w4 ⟨v, rfl, ho4, hb4⟩
        obtain ⟨g4, c4, rfl, _, _⟩ := ho4.form (partsUp_len (FN N) (k + 1))
        have HB4 : Hid (Below w.heap.size w w4) := HB3.out.trans (hb4.mono HB3.out.size)
        have HL4 : Hid (w4.ownsRow w.heap.size 40 4 (.slice (some ⟨g4, 0, none⟩) (partsUp (FN N) (k + 1)).length c4) (partsUp (FN N) (k + 1)).length (cellsB (partsUp (FN N) (k + 1)))) := own_down ho4 HB3.out.size
        clear ho4 hb4 HSP
        go_wp2_with fail
        go_roundw
        case rel => exact ⟨k + 1, g4, c4, by omega, by go_num, rfl, HL4.out, HOK2.out, HB4.out⟩
        case measure => simp [intOf]; omega
      case false =>
        have HF : Hid (partsOut N n = []) := by rw [Hid, partsOut, okAll_no hlt hok]; rfl
        clear hb2 hok c1 HSO HL HB
        go_wp2_with fail
        go_ret
        rw [HF.out]
        exact ⟨none, 0, 0, fun _ => .slice none 0 0, rfl, fun h => absurd h (by simp), ⟨fun i hi => absurd hi (by simp), fun i hi => absurd hi (by simp), fun i hi => absurd hi (by simp), fun i j hi => absurd hi (by simp)⟩, fun h => absurd h (by simp), HB2.out⟩
    · obtain rfl : k = n := by omega
      have hltz : ¬ (k : Int) < (k : Int) := by omega
      have HF : Hid (partsOut N k = sortL (partsUp (FN N) k) 256) := by rw [Hid, partsOut, okAll_yes HOK.out]; rfl
      have hperm := sortL_perm (partsUp_ok (FN N) k).1
      obtain ⟨P, hP⟩ : ∃ P, P = sortL (partsUp (FN N) k) 256 := ⟨_, rfl⟩
      have hPl : P.length = (partsUp (FN N) k).length := by rw [hP]; exact hperm.length_eq
      have hlen := (partsUp_ok (FN N) k).len
      have HST : Hid (Calls Tryd.prog 20 #[.slice (some ⟨g, 0, none⟩) (partsUp (FN N) k).length c, .func (.func 21) #[] #[]] wr fun e w' =>
          e = .returned (.tuple #[]) ∧ w'.ownsRow w.heap.size 40 4 (.slice (some ⟨g, 0, none⟩) (partsUp (FN N) k).length c) (partsUp (FN N) k).length (cellsB (sortL (partsUp (FN N) k) 256)) ∧ Below w.heap.size w w') := (sortParts_any g c w.heap.size (partsUp (FN N) k) wr HL.out (partsUp_ok (FN N) k) (HT.out.below HB.out) HW0.out HB.out.size).mono fun e w' ⟨h1, h2, h3⟩ => ⟨h1, h2, HB.out.trans h3⟩
      rw [← hPl, ← hP] at HST
      rw [← hPl] at hlen ⊢
      rw [← hP] at HF
      clear HL hperm hP hPl HOK
      go_wp2_with fail
      refine HST.out.mono ?_
      rintro e w2 ⟨rfl, ho2, hb2⟩
      have HP2 : Hid (w2.ownsRow w.heap.size 40 4 (.slice (some ⟨g, 0, none⟩) P.length c) P.length (cellsB P)) := ho2
      have HB2 : Hid (Below w.heap.size w w2) := hb2
      have hmk := makeSS P.length (by omega)
      clear ho2 hb2 HST HB
      go_wp2_with fail
      clear hmk
      have HR0 : Hid ((w2.alloc (.cells (madeCells #[.slice none 0 0] P.length) 34)).rowIs w2.heap.size 34 P.length (fun j => if j < 0 then (fun _ => Value.slice none 0 0) j else .slice none 0 0)) := made_one w2 P.length 34 _ _
      have HB0 : Hid (Below w.heap.size w (w2.alloc (.cells (madeCells #[.slice none 0 0] P.length) 34))) := HB2.out.alloc HB2.out.size _
      have HQ0 : Hid ((w2.alloc (.cells (madeCells #[.slice none 0 0] P.length) 34)).ownsRow w.heap.size 40 4 (.slice (some ⟨g, 0, none⟩) P.length c) P.length (cellsB P)) := HP2.out.alloc _
      have hgB : g < w2.heap.size := (HP2.out.lt g rfl).2
      have hwB : w.heap.size ≤ w2.heap.size := HB2.out.size
      go_loopw [33] (fun i wr => ∃ (k : Nat) (V : Nat → Value), k ≤ P.length ∧ i = .int .i64 k ∧ Hid (wr.rowIs w2.heap.size 34 P.length (fun j => if j < k then V j else .slice none 0 0)) ∧ Hid (wr.ownsRow w.heap.size 40 4 (.slice (some ⟨g, 0, none⟩) P.length c) P.length (cellsB P)) ∧ Hid (Sofar wr w2.heap.size k V P) ∧ Hid (Below w.heap.size w wr)) (fun i _ => P.length - (intOf i).toNat)
      case atStart => exact ⟨0, fun _ => .slice none 0 0, Nat.zero_le _, rfl, HR0.out, HQ0.out, ⟨fun i hi => absurd hi (by omega), fun i j hi => absurd hi (by omega)⟩, HB0.out⟩
      case round =>
        clear HR0 HB0 HQ0
        obtain ⟨j, V, hj, rfl, HR, HQ, HS, HB⟩ := hrel
        by_cases hjl : j < P.length
        · have hjz : (j : Int) < (P.length : Int) := by omega
          obtain ⟨q0, q1, q2, q3⟩ := cellsB_get P j hjl
          have d0 := HQ.out.cellAt (j * 4) (by omega)
          have d1 := HQ.out.cellAt (j * 4 + 1) (by omega)
          have d2 := HQ.out.cellAt (j * 4 + 2) (by omega)
          have d3 := HQ.out.cellAt (j * 4 + 3) (by omega)
          rw [q0] at d0
          rw [q1] at d1
          rw [q2] at d2
          rw [q3] at d3
          rw [← atL_get hjl] at d0 d1 d2 d3
          clear q0 q1 q2 q3
          have HR1 : Hid (∀ V1, Below wr.heap.size wr V1 → V1.rowIs w2.heap.size 34 P.length (fun i => if i < j then V i else .slice none 0 0)) := fun V1 h => row_below HR.out h
          have HQ1 : Hid (∀ V1, Below wr.heap.size wr V1 → V1.ownsRow w.heap.size 40 4 (.slice (some ⟨g, 0, none⟩) P.length c) P.length (cellsB P)) := fun V1 h => own_belowV HQ.out h
          have hlow : w2.heap.size < wr.heap.size := HR.out.lt
          go_wp2_with fail
          refine (list_any (atL P j) _).mono ?_
          rintro e w3 ⟨v, rfl, hv, hb3⟩
          obtain ⟨xa, xc, hxv⟩ : ∃ xa xc, Value.slice xa (runs (atL P j) 256).length xc = v := by
            rcases hv.2 with ⟨e, e0⟩ | ⟨g', cap', cur, e, _⟩
            · exact ⟨none, 0, by rw [e, e0]⟩
            · exact ⟨_, _, e.symm⟩
          have hb3' := ((Below.refl wr.heap.size wr).alloc (Nat.le_refl _) (.cells #[.int .u64 ((W (atL P j) 0 : Nat) : Int), .int .u64 ((W (atL P j) 1 : Nat) : Int), .int .u64 ((W (atL P j) 2 : Nat) : Int), .int .u64 ((W (atL P j) 3 : Nat) : Int)] 40)).trans (hb3.mono (by simp))
          have hrow := HR1.out w3 hb3'
          have e1 := hrow.cell (i := j) hjl
          have f1 := hrow.frozen j
          have HROW : Hid (w3.rowIs w2.heap.size 34 P.length (fun i => if i < j then V i else .slice none 0 0)) := hrow
          have HQ3 : Hid (w3.ownsRow w.heap.size 40 4 (.slice (some ⟨g, 0, none⟩) P.length c) P.length (cellsB P)) := HQ1.out w3 hb3'
          have HPU : Hid (Sofar (w3.setCell ⟨w2.heap.size, j, none⟩ v) w2.heap.size (j + 1) (updV V j v) P) := HS.out.push hb3' hlow (own_down hv (by simp))
          have HB3 : Hid (Below w.heap.size w w3) := HB.out.trans (hb3'.mono HB.out.size)
          clear hb3 hb3' hv hrow d0 d1 d2 d3 HR HS HQ HB HR1 HQ1
          subst hxv
          go_wp2_with fail
          go_roundw
          case rel =>
            have hrr : (w3.setCell ⟨w2.heap.size, j, none⟩ (.slice xa (runs (atL P j) 256).length xc)).rowIs w2.heap.size 34 P.length (fun i => if i < j + 1 then updV V j (.slice xa (runs (atL P j) 256).length xc) i else .slice none 0 0) := by
              have h1 : w3.rowIs w2.heap.size 34 P.length (fun i => if i < j then updV V j (.slice xa (runs (atL P j) 256).length xc) i else .slice none 0 0) := HROW.out.congr (fun i _ => by
                by_cases e : i < j
                · rw [if_pos e, if_pos e, show updV V j (.slice xa (runs (atL P j) 256).length xc) i = V i from if_neg (by omega)]
                · rw [if_neg e, if_neg e])
              refine (row_one_step h1 _).congr (fun i _ => ?_)
              by_cases e : i < j + 1
              · rw [if_pos e, if_pos e]
                by_cases e2 : i = j
                · rw [if_pos e2]; exact (if_pos e2).symm
                · rw [if_neg e2]
              · rw [if_neg e, if_neg e]
            exact ⟨j + 1, updV V j (.slice xa (runs (atL P j) 256).length xc), by omega, by go_num, hrr, ownsRow_setCell_other HQ3.out (fun e => by simp [Value.ownBlock] at e; omega) _, HPU.out, HB3.out.setCell (by simp; omega) _⟩
          case measure => simp [intOf]; omega
        · obtain rfl : j = P.length := by omega
          have hjz : ¬ (P.length : Int) < (P.length : Int) := by omega
          go_wp2_with fail
          go_ret
          rw [HF.out]
          refine ⟨some ⟨w2.heap.size, 0, none⟩, w2.heap.size, P.length, V, rfl, fun _ => rfl, ⟨fun i hi => ?_, fun i hi => own_down (HS.out.own i hi) (by omega), fun i hi => HS.out.out hi, HS.out.apart⟩, fun _ => ⟨hwB, HR.out.lt⟩, HB.out⟩
          have := HR.out.cell hi
          rwa [if_pos hi] at this
end Go.Proofs.YtjpmdbaalhieoaaDoor

