/- the walk of impl.SetRead -/
import Derived.Test.YthapckfahfnpjaaDoorZe
namespace Go.Proofs.YthapckfahfnpjaaDoor
open Go.RowKit
set_option linter.unusedVariables false
set_option linter.unusedSimpArgs false

/-- what comes of Split at commas -/
def SplitRes (s : ByteArray) (w : World) (e : Ending) (w' : World) : Prop :=
  ∃ ws : List ByteArray, e = .returned (.slice (some ⟨w.heap.size, 0, none⟩) ws.length ws.length) ∧ ws.map tx = cw (tx s) ∧ w'.ownsRow w.heap.size 9 1 (.slice (some ⟨w.heap.size, 0, none⟩) ws.length ws.length) ws.length (ws.map Value.string) ∧ Below w.heap.size w w'
theorem split_any (s : ByteArray) (hs : s.size ≤ 1048576) (w : World) (hE : Env w) : Calls Tryd.prog 14 #[.string s, .string ⟨#[44]⟩] w (SplitRes s w) := by
  obtain ⟨_, ⟨m, hm⟩, _⟩ := hE
  have hlen := Lib.splitB_all ⟨#[44]⟩ (by decide) 0 _ s rfl
  have hcw : (Lib.splitB ⟨#[44]⟩ 0 (Lib.countB s ⟨#[44]⟩) s).map tx = cw (tx s) := by
    have h1 := Lib.splitB_data ⟨#[44]⟩ 0 (Lib.countB s ⟨#[44]⟩) s
    exact h1.trans (split_cw _ (tx s) (Nat.le_refl _))
  refine (show Calls Tryd.prog 14 #[.string s, .string ⟨#[44]⟩] w _ from Any.strings_Split Tryd.lays146 (by kernel_rfl) s ⟨#[44]⟩ m w (by omega) hm (by decide)).mono ?_
  rintro e w' ⟨rfl, rfl⟩
  have hl := congrArg List.length hcw
  have hb := (cw_len (tx s)).2
  rw [← tx_size] at hb
  rw [List.length_map] at hl
  refine ⟨Lib.splitB ⟨#[44]⟩ 0 (Lib.countB s ⟨#[44]⟩) s, by rw [hlen], hcw, ?_, (Below.refl _ _).alloc (Nat.le_refl _) _⟩
  have h := World.ownsRow_lit (e := 9) (size := 1) w ((Lib.splitB ⟨#[44]⟩ 0 (Lib.countB s ⟨#[44]⟩) s).map Value.string).toArray (Lib.splitB ⟨#[44]⟩ 0 (Lib.countB s ⟨#[44]⟩) s).length (Nat.le_refl _) (by unfold maxLen; omega) (by simp)
  rw [List.toList_toArray] at h
  exact h

theorem own_types' {w : World} {b b' g n n' c : Nat} {v : Value} {xs xs' : List Value} (h : w.ownsRow b 34 2 v n xs) (h' : w.ownsRow b' 9 1 (.slice (some ⟨g, 0, none⟩) n' c) n' xs') : some g ≠ v.ownBlock := by
  rcases h.2 with ⟨rfl, _⟩ | ⟨k, cap, cur, rfl, _⟩
  · simp [Value.ownBlock]
  · have := own_types (n := n) (c := cap) h h'
    simpa [Value.ownBlock] using this

set_option maxRecDepth 100000 in
set_option maxHeartbeats 4000000 in
theorem implSetRead_any (s : ByteArray) (hs : s.size ≤ 1048576) (w : World) (hE : Env w) :
    Calls Tryd.prog 5 #[.string s] w (SetRes s w) := by
  obtain ⟨i0, hi, hz0, hz1, hz2⟩ := info_parts Tryd.info34
  by_cases hbig : 1200 < s.size
  · have hbz : (1200 : Int) < (s.size : Int) := by omega
    go_enter Tryd.func5, Tryd.ntmps5
    go_wp2
    go_ret2
    exact set_mk _ [] false (World.ownsRow_nil _ _ _ _) (by simp) (Below.refl _ _) (.inr ⟨rfl, rfl, .inl (by rw [← tx_size]; exact hbig)⟩)
  · have hbz : ¬ ((1200 : Int) < (s.size : Int)) := by omega
    by_cases hno : s = ⟨#[110, 111]⟩
    · subst hno
      go_enter Tryd.func5, Tryd.ntmps5
      go_wp2_with fail
      refine (implSetOk_any none 0 0 0 0 (fun _ => 0) (fun _ => 0) _ (fun h => by omega) (fun i hi => by omega) (by omega)).mono ?_
      rintro e w1 ⟨rfl, hb1⟩
      have hok : okB 0 (fun _ => (0 : Int)) (fun _ => 0) = true := rfl
      rw [hok]
      go_wp2_with fail
      refine (implSetText_any none 0 0 0 0 (fun _ => 0) (fun _ => 0) _ (fun h => by omega) (fun i hi => by omega) (fun i hi => by omega) (by omega) (hE.below hb1).1.2).mono ?_
      rintro e w2 ⟨r, rfl, hr, hb2⟩
      obtain rfl : r = ⟨#[110, 111]⟩ := tx_inj hr
      go_wp2
      go_ret2
      exact set_mk _ [] true (World.ownsRow_nil _ _ _ _) (by simp) (hb1.trans (hb2.mono hb1.size)) (.inl ⟨rfl, by decide, canon_nil, fun R' h => canon_no h⟩)
    · have hnz := no_list s hno
      have HNO : Hid (tx s ≠ [110, 111]) := no_tx hno
      have HSZ : Hid (s.size = (tx s).length) := tx_size s
      clear hno
      go_enter Tryd.func5, Tryd.ntmps5
      go_wp2_with fail
      refine (split_any s hs _ hE).mono ?_
      rintro e w0 ⟨ws, rfl, hws, how, hb0⟩
      have hwl : 0 < ws.length ∧ ws.length ≤ 1201 := by
        have h1 := cw_len (tx s)
        have h2 := congrArg List.length hws
        rw [List.length_map] at h2
        rw [← HSZ.out] at h1
        omega
      obtain ⟨hwl0, hwl1⟩ := hwl
      have HWS : Hid (ws.map tx = cw (tx s)) := hws
      clear hws
      go_wp2
      go_loopw [4, 17] (fun t i wr => ∃ (v : Value) (R : List (Int × Int)), R.length ≤ ws.length ∧ i = .int .i64 R.length ∧ v = t ∧ Hid (Reads (cw (tx s)) R ∧ ∀ p ∈ R, In64 p.1 ∧ In64 p.2) ∧ wr.ownsRow w.heap.size 34 2 v R.length (cellsI R) ∧ wr.ownsRow w.heap.size 9 1 (.slice (some ⟨w.heap.size, 0, none⟩) ws.length ws.length) ws.length (ws.map Value.string) ∧ Below w.heap.size w wr)
        (fun _ i _ => ws.length - (intOf i).toNat)
      case atStart => exact ⟨.slice none 0 0, [], by simp, rfl, rfl, ⟨reads_nil _, fun p hp => by simp at hp⟩, World.ownsRow_nil _ _ _ _, how, hb0⟩
      case round =>
        obtain ⟨v, R, hk, rfl, rfl, HR, hown, hwds, hB⟩ := hrel
        have hgg := own_types' hown hwds
        have HGG : Hid (some w.heap.size ≠ v.ownBlock) := hgg
        clear hgg
        by_cases hlt : R.length < ws.length
        · have hltz : ((R.length : Nat) : Int) < (ws.length : Int) := by omega
          have hcw : wr.cell? ⟨w.heap.size, R.length, none⟩ = some (.string ws[R.length]) := by
            rw [hwds.cellAt _ (by omega)]; simp [hlt]
          have HW : Hid ((cw (tx s))[R.length]? = some (tx ws[R.length])) := by
            show (cw (tx s))[R.length]? = some (tx ws[R.length])
            rw [← HWS.out]; simp [hlt]
          obtain ⟨wd, hwd⟩ : ∃ wd, wd = ws[R.length] := ⟨_, rfl⟩
          rw [← hwd] at hcw HW
          have hwdl : wd.size ≤ 1048576 := by
            have h1 := cw_mem_len (tx s) (tx wd) (List.mem_of_getElem? HW.out)
            rw [← tx_size, ← tx_size] at h1
            omega
          clear hwd
          have hEr : Env wr := hE.below hB
          go_wp2_with fail
          refine (spanRead_any wd hwdl _ (by first | exact hEr | exact hEr.below ((Below.refl _ _).alloc (Nat.le_refl _) _))).mono ?_
          rintro e w1 ⟨x, y, ok, rfl, hx, hy, hspan, hb1⟩
          cases ok with
          | false =>
            have HBAD : Hid (∀ x y, By x y → tx wd ≠ spanT x y) := fun x' y' hb e => by cases (hspan x' y' hb e).2
            have hB1 := hB.trans (hb1.mono hB.size)
            clear hspan
            go_wp2
            go_ret2
            exact set_mk _ [] false (World.ownsRow_nil _ _ _ _) (by simp) (hB1.alloc hB1.size _) (.inr ⟨rfl, rfl, .inr (fun R' => bad_canon HW.out HBAD.out HNO.out)⟩)
          | true =>
            have HP : Hid (∀ x' y', By x' y' → tx wd = spanT x' y' → (x, y) = (x', y')) := fun x' y' hb e => (hspan x' y' hb e).1
            have HX : Hid (In64 x ∧ In64 y) := ⟨hx, hy⟩
            have hB1 := hB.trans (hb1.mono hB.size)
            have hown1 := (own_below hown hb1).alloc (.cells #[.int .i64 x, .int .i64 y] 34)
            have hwds1 := (own_below hwds hb1).alloc (.cells #[.int .i64 x, .int .i64 y] 34)
            have hnew : ∀ j u, [Value.int .i64 x, Value.int .i64 y][j]? = some u → ((w1.alloc (.cells #[.int .i64 x, .int .i64 y] 34)).alloc (.cells #[.int .i64 x, .int .i64 y] 34)).cell? ((⟨w1.heap.size + 1, 0, none⟩ : Addr).add j) = some u := by
              have h := cell_two_new2 (w1.alloc (.cells #[.int .i64 x, .int .i64 y] 34)) (.int .i64 x) (.int .i64 y) 34
              rwa [World.size_alloc] at h
            have HN : Hid (∀ j u, [Value.int .i64 x, Value.int .i64 y][j]? = some u → ((w1.alloc (.cells #[.int .i64 x, .int .i64 y] 34)).alloc (.cells #[.int .i64 x, .int .i64 y] 34)).cell? ((⟨w1.heap.size + 1, 0, none⟩ : Addr).add j) = some u) := hnew
            have hbl := fun j e => (hown.lt j e).1
            have HBL : Hid (∀ j, v.ownBlock = some j → w.heap.size ≤ j) := hbl
            have hs1 := hB1.size
            clear hspan hx hy hnew hbl
            go_wp2_with (at_builtin; refine wpList_append_own _ rfl _ _ 22 rfl w.heap.size 34 i0 (.agg #[.int .i64 0, .int .i64 0]) 2 16 Tryd.underlying22 hi hz0 hz1 hz2 rfl (by decide) _ _ _ rfl (hown1.alloc _) ⟨w1.heap.size + 1, 0, none⟩ 1 1 [.int .i64 x, .int .i64 y] rfl rfl HN.out (by simp [Value.oneCell']) (by unfold maxLen; omega) (by omega) (by simp; omega) ?_; intro v' w2 hown' hgrow _; obtain ⟨g', cap', rfl⟩ := ownsRow_succ hown')
            have hgrow1 : ((w1.alloc (.cells #[.int .i64 x, .int .i64 y] 34)).alloc (.cells #[.int .i64 x, .int .i64 y] 34)).grownBy w2 v.ownBlock := hgrow
            have hB2 : Below w.heap.size w w2 := ((hB1.alloc hB1.size _).alloc (by simp; omega) _).grown hgrow1 (by simp; omega) HBL.out
            have hr : w2.ownsRow w.heap.size 34 2 (.slice (some ⟨g', 0, none⟩) (R.length + 1) cap') (R ++ [(x, y)]).length (cellsI (R ++ [(x, y)])) := by rw [cellsI_snoc]; simpa using hown'
            have hw2 := (hwds1.alloc (.cells #[.int .i64 x, .int .i64 y] 34)).kept hgrow1 (.inr HGG.out)
            go_roundw
            case rel => exact ⟨_, R ++ [(x, y)], by simp; omega, by simp, rfl, ⟨reads_snoc HR.out.1 HW.out HP.out, in_snoc HR.out.2 HX.out.1 HX.out.2⟩, hr, hw2, hB2⟩
            case measure => simp [intOf]; omega
        · have hltz : ¬ (((R.length : Nat) : Int) < (ws.length : Int)) := by omega
          have hfull : R.length = ws.length := by omega
          have HL : Hid (R.length = (cw (tx s)).length) := by
            show R.length = (cw (tx s)).length
            rw [← HWS.out, hfull, List.length_map]
          obtain ⟨a, g, cap, rfl, hga, hsp⟩ := own_sp hown
          clear hfull HGG
          go_wp2_with fail
          refine (implSetOk_any a g 0 cap R.length (rl R) (rh R) _ hga hsp (by omega)).mono ?_
          rintro e w1 ⟨rfl, hb1⟩
          have hB1 := hB.trans (hb1.mono hB.size)
          cases hok : okB R.length (rl R) (rh R) with
          | false =>
            have HBAD : Hid (∀ R', ¬ Canon (tx s) R') := fun R' hc => by
              obtain rfl := reads_canon HR.out.1 HL.out hc HNO.out
              rw [hc.1] at hok
              cases hok
            clear hok
            go_wp2
            go_ret2
            exact set_mk _ [] false (World.ownsRow_nil _ _ _ _) (by simp) hB1 (.inr ⟨rfl, rfl, .inr HBAD.out⟩)
          | true =>
            have HOK : Hid (okB R.length (rl R) (rh R) = true) := hok
            clear hok
            go_wp2_with fail
            refine (implSetText_any a g 0 cap R.length (rl R) (rh R) _ hga (hsp.below hb1) (in_rl HR.out.2) (by omega) (hE.below hB1).1.2).mono ?_
            rintro e w2 ⟨r, rfl, hr, hb2⟩
            have hB2 := hB1.trans (hb2.mono hB1.size)
            have hown2 := own_below (own_below hown hb1) hb2
            have HTX : Hid (tx r = setT R.length (rl R) (rh R)) := hr
            clear hr
            by_cases heq : r = s
            · subst heq
              go_wp2
              go_ret2
              have hcan : Canon (tx r) R := ⟨HOK.out, HTX.out.symm⟩
              exact set_mk _ R true hown2 (by omega) hB2 (.inl ⟨rfl, by rw [← tx_size]; omega, hcan, fun R' hc => reads_canon HR.out.1 HL.out hc HNO.out⟩)
            · have hne : (r.toList == s.toList) = false := by
                rw [ByteArray.toList_eq, ByteArray.toList_eq, beq_eq_false_iff_ne]
                exact fun e => heq (tx_inj e)
              have HBAD : Hid (∀ R', ¬ Canon (tx s) R') := fun R' hc => by
                obtain rfl := reads_canon HR.out.1 HL.out hc HNO.out
                exact heq (tx_inj (HTX.out.trans hc.2))
              clear heq
              go_wp2
              go_ret2
              exact set_mk _ [] false (World.ownsRow_nil _ _ _ _) (by simp) hB2 (.inr ⟨rfl, rfl, .inr HBAD.out⟩)
end Go.Proofs.YthapckfahfnpjaaDoor

