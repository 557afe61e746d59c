/- a list of sets, each the runs of its bytes; the model's l1Parts -/
import Derived.Test.YtjpmdbaalhieoaaDoorBm
import Derived.Test.YtjpmdbaalhieoaaDoorBn
import Derived.Test.YtjpmdbaalhieoaaDoorBs
import Derived.Test.YtjpmdbaalhieoaaDoorJg
import Derived.Deep.CutRange
import Derived.Deep.RegionHeld
import Derived.Maps.AppendAt
namespace Go.Proofs.YtjpmdbaalhieoaaDoor
open Go.RowKit
set_option linter.unusedVariables false
set_option linter.unusedSimpArgs false

theorem Tryd.infoSet : (Tryd.prog.info? 34).map (fun i => (i.zero, i.size, i.bytes)) = some (some (.slice none 0 0), 1, 24) := by kernel_rfl

/-- a set that is the runs of its bytes -/
def SetIs (W : World) (base : Nat) (x : Value) (B : Nat → Bool) : Prop := W.ownsRow base 33 2 x (runs B 256).length (cellsR (runs B 256))
theorem SetIs.open {W : World} {base : Nat} {x : Value} {B : Nat → Bool} (h : SetIs W base x B) : ∃ ax g c, x = .slice ax (runs B 256).length c ∧ (0 < (runs B 256).length → ax = some ⟨g, 0, none⟩) ∧ Sp W g 0 (runs B 256).length (Lor (runs B 256)) (Hir (runs B 256)) := by
  have h' := h
  rcases h.2 with ⟨rfl, e⟩ | ⟨g, cap, cur, rfl, _⟩
  · have e0 : (runs B 256).length = 0 := by simpa using e
    exact ⟨none, 0, 0, by rw [e0], fun h0 => by omega, fun i hi => by omega⟩
  · exact ⟨_, g, _, rfl, fun _ => rfl, sp_runs h'⟩
theorem sp_belowV {W W' : World} {b off n : Nat} {L H : Nat → Int} (h : Sp W b off n L H) (hb : Below W.heap.size W W') : Sp W' b off n L H := fun i hi =>
  ⟨(hb.cell (p := ⟨b, _, none⟩) (World.block_lt_of_cell? _ _ (h i hi).1)).trans (h i hi).1, (hb.cell (p := ⟨b, _, none⟩) (World.block_lt_of_cell? _ _ (h i hi).2)).trans (h i hi).2⟩
theorem own_grown {W W' : World} {base e size n base' e' size' n' : Nat} {x v : Value} {xs ys : List Value} (hx : W.ownsRow base e size x n xs) (hv : W.ownsRow base' e' size' v n' ys) (hne : e ≠ e') (hg : W.grownBy W' v.ownBlock) : W'.ownsRow base e size x n xs := by
  refine ⟨hx.1, hx.2.imp id (fun ⟨g, cap, cur, e1, e2, e3, e4⟩ => ⟨g, cap, cur, e1, e2, ?_, e4⟩)⟩
  refine (hg.block g (Array.getElem?_eq_some_iff.1 e3).1 (fun k => ?_)).trans e3
  rcases hv.2 with ⟨rfl, _⟩ | ⟨g', cap', cur', rfl, _, k3, _⟩
  · cases k
  · cases k
    rw [e3] at k3
    simp only [Option.some.injEq, Obj.cells.injEq] at k3
    exact hne k3.2.1
/-- a list of sets, each the runs of its bytes -/
structure LR (W : World) (base : Nat) (v : Value) (P : List (Nat → Bool)) (X : List Value) : Prop where
  len : X.length = P.length
  head : W.ownsRow base 34 1 v P.length X
  sets : ∀ (i : Nat) (x : Value) (B : Nat → Bool), X[i]? = some x → P[i]? = some B → SetIs W base x B
theorem LR.below {W W' : World} {base : Nat} {v : Value} {P : List (Nat → Bool)} {X : List Value} (h : LR W base v P X) (hb : Below W.heap.size W W') : LR W' base v P X :=
  ⟨h.len, own_belowV h.head hb, fun i x B h1 h2 => own_belowV (h.sets i x B h1 h2) hb⟩
theorem LR.push {V V1 V2 : World} {base : Nat} {v v' x : Value} {P : List (Nat → Bool)} {X : List Value} {B : Nat → Bool} (h : LR V base v P X) (hx : SetIs V base x B) (hb : Below V.heap.size V V1) (hown : V2.ownsRow base 34 1 v' (P.length + 1) (X ++ [x])) (hgr : V1.grownBy V2 v.ownBlock) : LR V2 base v' (P ++ [B]) (X ++ [x]) := by
  have h1 := h.below hb
  have hx1 : SetIs V1 base x B := own_belowV hx hb
  have hne : (33 : Nat) ≠ 34 := by decide
  refine ⟨by simp [h.len], by rw [List.length_append]; exact hown, fun i y C hy hC => ?_⟩
  by_cases hi : i < X.length
  · rw [List.getElem?_append_left hi] at hy
    rw [List.getElem?_append_left (by rw [← h.len]; exact hi)] at hC
    exact own_grown (h1.sets i y C hy hC) h1.head hne hgr
  · have hi2 : i < (X ++ [x]).length := (List.getElem?_eq_some_iff.1 hy).1
    obtain rfl : i = X.length := by simp at hi2; omega
    rw [List.getElem?_append_right (Nat.le_refl _)] at hy
    rw [List.getElem?_append_right (by rw [h.len]; exact Nat.le_refl _), h.len] at hC
    simp at hy hC
    subst hy hC
    exact own_grown hx1 h1.head hne hgr
theorem LR.nil (W : World) (base : Nat) (hb : base ≤ W.heap.size) : LR (W.alloc (.cells #[] 34)) base (.slice (some ⟨W.heap.size, 0, none⟩) 0 0) [] [] :=
  ⟨rfl, World.ownsRow_lit W #[] 0 hb (by unfold maxLen; omega) rfl, fun i x B h => by simp at h⟩
theorem any_runs {B : Nat → Bool} : anyB B = decide (0 < (runs B 256).length) := by
  cases h : anyB B
  · have := runs_nil.2 (anyB_false h)
    simp [this]
  · obtain ⟨x, hx, hb⟩ := anyB_true h
    symm
    rw [decide_eq_true_eq]
    rcases Nat.eq_zero_or_pos (runs B 256).length with e | e
    · have := runs_nil.1 e x hx
      rw [hb] at this; cases this
    · exact e

set_option maxRecDepth 100000 in
set_option maxHeartbeats 4000000 in
theorem l1Parts_any (b cv base : Nat) (P : List (Nat → Bool)) (X : List Value) (a : Option Addr) (b2 off cap n : Nat) (L H : Nat → Int) (w : World) (hin : LR w base (.slice (some ⟨b, 0, none⟩) P.length cv) P X) (hga : 0 < n → a = some ⟨b2, off, none⟩) (hc : Sp w b2 off n L H) (hn : n ≤ 4194304) (hok : okB n L H = true) (hP : P.length ≤ 256) :
    Calls Tryd.prog 13 #[.slice (some ⟨b, 0, none⟩) P.length cv, .slice a n cap] w fun e w' => ∃ g c X', e = .returned (.slice (some ⟨g, 0, none⟩) (splitL (hs n L H) P).length c) ∧ LR w' w.heap.size (.slice (some ⟨g, 0, none⟩) (splitL (hs n L H) P).length c) (splitL (hs n L H) P) X' ∧ Below w.heap.size w w' := by
  obtain ⟨S, hS⟩ : ∃ S, hs n L H = S := ⟨_, rfl⟩
  obtain ⟨i0, hi, hz0, hz1, hz2⟩ := info_parts Tryd.infoSet
  have HIN : Hid (LR w base (.slice (some ⟨b, 0, none⟩) P.length cv) P X) := hin
  have HSP : Hid (Sp w b2 off n L H) := hc
  have HS : Hid (hs n L H = S) := hS
  have HOK : Hid (okB n L H = true) := hok
  have HGA : Hid (0 < n → a = some ⟨b2, off, none⟩) := hga
  rw [hS]
  clear hin hc hS hok hga
  go_enter Tryd.func13, Tryd.ntmps13
  go_wp2_with fail
  go_loopw [5, 6] (fun t i wr => ∃ (k g c : Nat) (X' : List Value), k ≤ P.length ∧ i = .int .i64 k ∧ t = .slice (some ⟨g, 0, none⟩) (splitL S (P.take k)).length c ∧ Hid (LR wr w.heap.size (.slice (some ⟨g, 0, none⟩) (splitL S (P.take k)).length c) (splitL S (P.take k)) X') ∧ Below w.heap.size w wr) (fun _ i _ => P.length - (intOf i).toNat)
  case atStart => exact ⟨0, _, 0, [], Nat.zero_le _, rfl, rfl, LR.nil w _ (Nat.le_refl _), (Below.refl _ _).alloc (Nat.le_refl _) _⟩
  case round =>
    obtain ⟨k, g, c, X', hk, rfl, rfl, HL, hB⟩ := hrel
    have HB : Hid (Below w.heap.size w wr) := hB
    by_cases hlt : k < P.length
    · have hltz : (k : Int) < (P.length : Int) := by omega
      obtain ⟨A, hA⟩ : ∃ A, P[k]? = some A := ⟨_, List.getElem?_eq_getElem hlt⟩
      obtain ⟨x, hx⟩ : ∃ x, X[k]? = some x := ⟨_, List.getElem?_eq_getElem (by rw [HIN.out.len]; exact hlt)⟩
      have HTK : Hid (splitL S (P.take (k + 1)) = splitL S (P.take k) ++ cut2 S A) := by
        rw [Hid, List.take_add_one, hA]
        exact splitL_snoc S (P.take k) A
      have HST : Hid (SetIs w base x A) := HIN.out.sets k x A hx hA
      have HCX : Hid (∀ V, Below w.heap.size w V → V.cell? ⟨b, k, none⟩ = some x) := fun V hV => by
        have := (HIN.out.below hV).head.cellAt k (by omega)
        rw [this]; exact hx
      obtain ⟨ax, gx, cx, rfl, hgx, hsx⟩ := HST.out.open
      have HGX : Hid (0 < (runs A 256).length → ax = some ⟨gx, 0, none⟩) := hgx
      have HSX : Hid (Sp w gx 0 (runs A 256).length (Lor (runs A 256)) (Hir (runs A 256))) := hsx
      have HM : Hid (∀ V, Below w.heap.size w V → ∀ (a3 : Option Addr) (b3 o3' c3 n3 : Nat) (C : Nat → Bool) (L3 H3 : Nat → Int), (0 < n3 → a3 = some ⟨b3, o3', none⟩) → Sp V b3 o3' n3 L3 H3 → n3 ≤ 4194304 → okB n3 L3 H3 = true → (∀ x, x < 256 → hs n3 L3 H3 x = C x) → Calls Tryd.prog 28 #[.slice ax (runs A 256).length cx, .slice a3 n3 c3] V fun e w' => ∃ v, e = .returned v ∧ SetIs w' V.heap.size v (fun x => A x && C x) ∧ Below V.heap.size V w') := fun V hV a3 b3 o3' c3 n3 C L3 H3 g3 s3 l3 o3 e3 =>
        specSetMeet_any ax a3 gx 0 cx (runs A 256).length b3 o3' c3 n3 (Lor (runs A 256)) (Hir (runs A 256)) L3 H3 V HGX.out (sp_belowV HSX.out hV) g3 s3 (Nat.le_trans (runs_le A) (by omega)) l3 (fun x => hs (runs A 256).length (Lor (runs A 256)) (Hir (runs A 256)) x && hs n3 L3 H3 x) (fun x => rfl) (runs (fun x => A x && C x) 256) (by
          rw [Hid, runs_ok, o3]
          simp only [setR, Bool.and_self, if_true]
          exact runs_congr (fun x hx => by rw [runs_has A x hx, e3 x hx]))
      have HM1 : Hid (Calls Tryd.prog 28 #[.slice ax (runs A 256).length cx, .slice a n cap] wr fun e w' => ∃ v, e = .returned v ∧ SetIs w' wr.heap.size v (fun x => A x && S x) ∧ Below wr.heap.size wr w') := HM.out wr HB.out a b2 off cap n S L H HGA.out (sp_belowV HSP.out HB.out) hn HOK.out (fun x _ => by rw [HS.out])
      have hcx := HCX.out wr HB.out
      clear hsx hgx hx hA
      have HNT : Hid (∀ V, Below w.heap.size w V → Calls Tryd.prog 29 #[.slice a n cap] V fun e w' => ∃ v, e = .returned v ∧ SetIs w' V.heap.size v (fun x => !S x) ∧ Below V.heap.size V w') := fun V hV =>
        specSetNot_any a b2 off cap n L H V HGA.out (sp_belowV HSP.out hV) hn (fun x => !hs n L H x) (fun x => rfl) (runs (fun x => !S x) 256) (by
          rw [Hid, HOK.out, ← HS.out]
          simp only [setR, if_true])
      go_wp2_with fail
      refine HM1.out.mono ?_
      rintro e w2 ⟨v1, rfl, hv1, hb2⟩
      obtain ⟨M, hM⟩ : ∃ M : Nat → Bool, (fun x => A x && S x) = M := ⟨_, rfl⟩
      have HMM : Hid ((fun x => A x && S x) = M) := hM
      rw [hM] at hv1
      have HB2 : Hid (Below w.heap.size w w2) := HB.out.trans (hb2.mono HB.out.size)
      have HL2 : Hid (LR w2 w.heap.size (.slice (some ⟨g, 0, none⟩) (splitL S (P.take k)).length c) (splitL S (P.take k)) X') := HL.out.below hb2
      have HV1 : Hid (SetIs w2 w.heap.size v1 M) := ownsRow_down hv1 HB.out.size
      obtain ⟨a1, g1, c1, rfl, hq1, hq2⟩ := hv1.open
      clear hq1 hq2
      have HBD : Hid (Below w.heap.size w w2.drew) := HB2.out.drew
      have hc2 := HCX.out w2 HB2.out
      clear hM hv1 hb2 hcx hB
      go_wp2_with fail
      go_cut [8] from 22 to 28 (fun s V => ∃ (a2 : Option Addr) (c2 : Nat), s = .slice a2 (runs (fun x => A x && !S x) 256).length c2 ∧ Hid (SetIs V w.heap.size s (fun x => A x && !S x) ∧ Below w2.heap.size w2 V))
      case first =>
        go_region_held (fun V => V.cell? ⟨b, k, none⟩ = some (.slice ax (runs A 256).length cx)) (go_keep)
          (first
            | (go_at_call 29; refine (HNT.out _ HBD.out).mono ?_; rintro e w5 ⟨vn, rfl, hvn, hb5⟩; obtain ⟨an, gn, cn, rfl, hgn, hsn⟩ := hvn.open; have HB25 : Hid (Below w2.heap.size w2 w5) := ((Below.refl _ _).drew).trans hb5; have HB5 : Hid (Below w.heap.size w w5) := HB2.out.trans (HB25.out.mono HB2.out.size); have hc5 := HCX.out w5 HB5.out)
            | (go_at_call 28; refine (HM.out w5 HB5.out an gn 0 cn _ (fun x => !S x) _ _ hgn hsn (Nat.le_trans (runs_le _) (by omega)) (runs_ok _) (runs_has _)).mono ?_; rintro e w6 ⟨vm, rfl, hvm, hb6⟩; obtain ⟨am, gm, cm, rfl, _, _⟩ := hvm.open; have hc6 := HCX.out w6 (HB5.out.trans (hb6.mono HB5.out.size))))
        all_goals go_wp2_with fail
        all_goals go_meet
        all_goals exact ⟨_, _, rfl, ownsRow_down hvm HB5.out.size, HB25.out.trans (hb6.mono HB25.out.size)⟩
      case rest =>
        obtain ⟨a2, c2, rfl, hcx⟩ := hcut
        rename World => W3
        obtain ⟨hv3, hb3⟩ := hcx
        obtain ⟨N, hN⟩ : ∃ N : Nat → Bool, (fun x => A x && !S x) = N := ⟨_, rfl⟩
        rw [hN] at hv3
        rw [hN]
        have HNN : Hid ((fun x => A x && !S x) = N) := hN
        obtain ⟨L0, hL0⟩ : ∃ L0, splitL S (P.take k) = L0 := ⟨_, rfl⟩
        have hlen : L0.length ≤ 512 := by
          rw [← hL0]
          have := splitL_len S (P.take k)
          rw [List.length_take] at this
          omega
        have hlen1 : (L0 ++ [M]).length ≤ 513 := by rw [List.length_append]; simp; omega
        rw [hL0] at HL2 HTK
        rw [hL0]
        have HL3 : Hid (LR W3 w.heap.size (.slice (some ⟨g, 0, none⟩) L0.length c) L0 X') := HL2.out.below hb3
        have HV13 : Hid (SetIs W3 w.heap.size (.slice a1 (runs M 256).length c1) M) := own_belowV HV1.out hb3
        have HV23 : Hid (SetIs W3 w.heap.size (.slice a2 (runs N 256).length c2) N) := hv3
        have HB3 : Hid (Below w.heap.size w W3) := HB2.out.trans (hb3.mono HB2.out.size)
        have HZW3 : Hid (w.heap.size ≤ W3.heap.size) := HB3.out.size
        have HTK3 : Hid (splitL S (P.take (k + 1)) = L0 ++ (if anyB M then [M] else []) ++ (if anyB N then [N] else [])) := by
          rw [HTK.out, cut2, HMM.out, HNN.out, ← List.append_assoc]; rfl
        have ha1 := any_runs (B := M)
        have ha2 := any_runs (B := N)
        clear hv3 hb3 hN hL0 hc2 HL HL2 HTK HV1 HM HM1 HNT HCX HMM HNN HST HGX HSX
        cases hAM : anyB M
        case true =>
          have hp1 : (0 : Int) < ((runs M 256).length : Int) := by rw [hAM] at ha1; have := of_decide_eq_true ha1.symm; omega
          cases hAN : anyB N
          case true =>
            have hp2 : (0 : Int) < ((runs N 256).length : Int) := by rw [hAN] at ha2; have := of_decide_eq_true ha2.symm; omega
            have HE : Hid (splitL S (P.take (k + 1)) = L0 ++ [M] ++ [N]) := by rw [HTK3.out, hAM, hAN]; rfl
            clear ha1 ha2 hAM hAN
            go_wp2_with (at_builtin; first | (refine wpList_append_own _ rfl _ _ 24 rfl w.heap.size 34 i0 _ 1 24 Tryd.underlying24 hi hz0 hz1 hz2 (by simp [Value.cells]) (by decide) _ _ _ rfl (HL4.out.head.alloc _) ⟨W4.heap.size, 0, none⟩ 1 1 [.slice a2 (runs N 256).length c2] rfl rfl (cell_one_new _ _ _) (by simp [Value.oneCell']) (by unfold maxLen; omega) (by omega) (by rw [World.size_alloc]; have := HZW4.out; omega) ?_; intro v' W5 hown5 hgr _; obtain ⟨g5, c5, rfl⟩ := ownsRow_succ hown5; have HL5 : Hid (LR W5 w.heap.size (.slice (some ⟨g5, 0, none⟩) ((L0 ++ [M]).length + 1) c5) (L0 ++ [M] ++ [N]) (X' ++ [.slice a1 (runs M 256).length c1] ++ [.slice a2 (runs N 256).length c2])) := HL4.out.push HV24.out ((Below.refl _ _).alloc (Nat.le_refl _) _) hown5 hgr; have HB5 : Hid (Below w.heap.size w W5) := (HB4.out.alloc HB4.out.size _).grown hgr (by rw [World.size_alloc]; have := HB4.out.size; omega) (fun j hj => (own_ltV HL4.out.head j hj).1); clear hown5 hgr) | (refine wpList_append_own _ rfl _ _ 24 rfl w.heap.size 34 i0 _ 1 24 Tryd.underlying24 hi hz0 hz1 hz2 (by simp [Value.cells]) (by decide) _ _ _ rfl (HL3.out.head.alloc _) ⟨W3.heap.size, 0, none⟩ 1 1 [.slice a1 (runs M 256).length c1] rfl rfl (cell_one_new _ _ _) (by simp [Value.oneCell']) (by unfold maxLen; omega) (by omega) (by rw [World.size_alloc]; have := HZW3.out; omega) ?_; intro v' W4 hown4 hgr _; obtain ⟨g4, c4, rfl⟩ := ownsRow_succ hown4; have HL4 : Hid (LR W4 w.heap.size (.slice (some ⟨g4, 0, none⟩) (L0.length + 1) c4) (L0 ++ [M]) (X' ++ [.slice a1 (runs M 256).length c1])) := HL3.out.push HV13.out ((Below.refl _ _).alloc (Nat.le_refl _) _) hown4 hgr; have HV24 : Hid (SetIs W4 w.heap.size (.slice a2 (runs N 256).length c2) N) := own_grown (own_belowV HV23.out ((Below.refl _ _).alloc (Nat.le_refl _) _)) (HL3.out.head.alloc _) (by decide) hgr; have HB4 : Hid (Below w.heap.size w W4) := (HB3.out.alloc HB3.out.size _).grown hgr (by rw [World.size_alloc]; have := HB3.out.size; omega) (fun j hj => (own_ltV HL3.out.head j hj).1); have HZW4 : Hid (w.heap.size ≤ W4.heap.size) := HB4.out.size; clear hown4 hgr))
            go_roundw
            case rel => exact ⟨k + 1, g5, c5, _, by omega, by go_num, by rw [HE.out]; simp, by rw [HE.out, show (L0 ++ [M] ++ [N]).length = (L0 ++ [M]).length + 1 by simp]; exact HL5.out, HB5.out⟩
            case measure => simp [intOf]; omega
          case false =>
            have hp2 : ¬ (0 : Int) < ((runs N 256).length : Int) := by rw [hAN] at ha2; have := of_decide_eq_false ha2.symm; omega
            have HE : Hid (splitL S (P.take (k + 1)) = L0 ++ [M]) := by rw [HTK3.out, hAM, hAN]; exact List.append_nil _
            clear ha1 ha2 hAM hAN
            go_wp2_with (at_builtin; (refine wpList_append_own _ rfl _ _ 24 rfl w.heap.size 34 i0 _ 1 24 Tryd.underlying24 hi hz0 hz1 hz2 (by simp [Value.cells]) (by decide) _ _ _ rfl (HL3.out.head.alloc _) ⟨W3.heap.size, 0, none⟩ 1 1 [.slice a1 (runs M 256).length c1] rfl rfl (cell_one_new _ _ _) (by simp [Value.oneCell']) (by unfold maxLen; omega) (by omega) (by rw [World.size_alloc]; have := HZW3.out; omega) ?_; intro v' W4 hown4 hgr _; obtain ⟨g4, c4, rfl⟩ := ownsRow_succ hown4; have HL4 : Hid (LR W4 w.heap.size (.slice (some ⟨g4, 0, none⟩) (L0.length + 1) c4) (L0 ++ [M]) (X' ++ [.slice a1 (runs M 256).length c1])) := HL3.out.push HV13.out ((Below.refl _ _).alloc (Nat.le_refl _) _) hown4 hgr; have HV24 : Hid (SetIs W4 w.heap.size (.slice a2 (runs N 256).length c2) N) := own_grown (own_belowV HV23.out ((Below.refl _ _).alloc (Nat.le_refl _) _)) (HL3.out.head.alloc _) (by decide) hgr; have HB4 : Hid (Below w.heap.size w W4) := (HB3.out.alloc HB3.out.size _).grown hgr (by rw [World.size_alloc]; have := HB3.out.size; omega) (fun j hj => (own_ltV HL3.out.head j hj).1); have HZW4 : Hid (w.heap.size ≤ W4.heap.size) := HB4.out.size; clear hown4 hgr))
            go_roundw
            case rel => exact ⟨k + 1, g4, c4, _, by omega, by go_num, by rw [HE.out]; simp, by rw [HE.out, show (L0 ++ [M]).length = L0.length + 1 by simp]; exact HL4.out, HB4.out⟩
            case measure => simp [intOf]; omega
        case false =>
          have hp1 : ¬ (0 : Int) < ((runs M 256).length : Int) := by rw [hAM] at ha1; have := of_decide_eq_false ha1.symm; omega
          cases hAN : anyB N
          case true =>
            have hp2 : (0 : Int) < ((runs N 256).length : Int) := by rw [hAN] at ha2; have := of_decide_eq_true ha2.symm; omega
            have HE : Hid (splitL S (P.take (k + 1)) = L0 ++ [N]) := by rw [HTK3.out, hAM, hAN, if_neg (by simp), if_pos rfl, List.append_nil]; rfl
            clear ha1 ha2 hAM hAN
            go_wp2_with (at_builtin; (refine wpList_append_own _ rfl _ _ 24 rfl w.heap.size 34 i0 _ 1 24 Tryd.underlying24 hi hz0 hz1 hz2 (by simp [Value.cells]) (by decide) _ _ _ rfl (HL3.out.head.alloc _) ⟨W3.heap.size, 0, none⟩ 1 1 [.slice a2 (runs N 256).length c2] rfl rfl (cell_one_new _ _ _) (by simp [Value.oneCell']) (by unfold maxLen; omega) (by omega) (by rw [World.size_alloc]; have := HZW3.out; omega) ?_; intro v' W4 hown4 hgr _; obtain ⟨g4, c4, rfl⟩ := ownsRow_succ hown4; have HL4 : Hid (LR W4 w.heap.size (.slice (some ⟨g4, 0, none⟩) (L0.length + 1) c4) (L0 ++ [N]) (X' ++ [.slice a2 (runs N 256).length c2])) := HL3.out.push HV23.out ((Below.refl _ _).alloc (Nat.le_refl _) _) hown4 hgr; have HB4 : Hid (Below w.heap.size w W4) := (HB3.out.alloc HB3.out.size _).grown hgr (by rw [World.size_alloc]; have := HB3.out.size; omega) (fun j hj => (own_ltV HL3.out.head j hj).1); clear hown4 hgr))
            go_roundw
            case rel => exact ⟨k + 1, g4, c4, _, by omega, by go_num, by rw [HE.out]; simp, by rw [HE.out, show (L0 ++ [N]).length = L0.length + 1 by simp]; exact HL4.out, HB4.out⟩
            case measure => simp [intOf]; omega
          case false =>
            have hp2 : ¬ (0 : Int) < ((runs N 256).length : Int) := by rw [hAN] at ha2; have := of_decide_eq_false ha2.symm; omega
            have HE : Hid (splitL S (P.take (k + 1)) = L0) := by rw [HTK3.out, hAM, hAN, if_neg (by simp), if_neg (by simp), List.append_nil, List.append_nil]; rfl
            clear ha1 ha2 hAM hAN
            go_wp2_with fail
            go_roundw
            case rel => exact ⟨k + 1, g, c, X', by omega, by go_num, by rw [HE.out], by rw [HE.out]; exact HL3.out, HB3.out⟩
            case measure => simp [intOf]; omega
    · have hltz : ¬ (k : Int) < (P.length : Int) := by omega
      have HF : Hid (splitL S (P.take k) = splitL S P) := by rw [Hid, List.take_of_length_le (by omega)]
      go_wp2_with fail
      go_ret
      exact ⟨g, c, by rw [← HF.out]; rfl, ⟨X', by rw [← HF.out]; exact HL.out⟩, HB.out⟩
end Go.Proofs.YtjpmdbaalhieoaaDoor

