/- the walk of spec.SetRead -/
import Derived.Test.YthapckfahfnpjaaDoorZc
namespace Go.Proofs.YthapckfahfnpjaaDoor
open Go.RowKit
set_option linter.unusedVariables false
set_option linter.unusedSimpArgs false

theorem num_dec (u : Nat) (h : u < 256) : Num (Lib.decDigits u) := by
  refine ⟨itoa_ne' u, ?_, dig_itoa u h, ?_⟩
  · rcases dec3 u h with ⟨h1, e⟩ | ⟨h1, h2, e⟩ | ⟨h1, e⟩ <;> (rw [e]; simp)
  · intro hh
    rcases dec3 u h with ⟨h1, e⟩ | ⟨h1, h2, e⟩ | ⟨h1, e⟩
    · rw [e]; rfl
    · exfalso
      rw [e] at hh
      have h3 := congrArg UInt8.toNat (Option.some.inj hh)
      rw [dig_nat _ (by omega)] at h3
      have : (48 : UInt8).toNat = 48 := rfl
      omega
    · exfalso
      rw [e] at hh
      have h3 := congrArg UInt8.toNat (Option.some.inj hh)
      rw [dig_nat _ (by omega)] at h3
      have : (48 : UInt8).toNat = 48 := rfl
      omega

/-- a word without a dash that is the text of a span -/
theorem word_one {l : List UInt8} {x y : Int} (hb : By x y) (e : l = spanT x y) (h : ∀ c ∈ l, c ≠ 45) : Num l ∧ ((val l : Nat) : Int) = x ∧ y = x := by
  obtain ⟨u, v, rfl, rfl, h1, h2⟩ := hb.nat
  rw [spanT_nat] at e
  by_cases hu : v = u
  · rw [if_pos hu] at e
    subst e
    exact ⟨num_dec u (by omega), by rw [val_itoa u (by omega)], by omega⟩
  · rw [if_neg hu] at e
    exact absurd rfl (h 45 (by rw [e]; simp))
/-- a word with a dash that is the text of a span -/
theorem word_two {l : List UInt8} {x y : Int} {i : Nat} (hb : By x y) (e : l = spanT x y) (hi : l[i]? = some 45) (hj : ∀ j, j < i → l[j]? ≠ some 45) :
    Num (l.take i) ∧ ((val (l.take i) : Nat) : Int) = x ∧ Num (l.drop (i + 1)) ∧ ((val (l.drop (i + 1)) : Nat) : Int) = y := by
  obtain ⟨u, v, rfl, rfl, h1, h2⟩ := hb.nat
  rw [spanT_nat] at e
  by_cases hu : v = u
  · rw [if_pos hu] at e
    subst e
    exact absurd rfl (dig_itoa u (by omega) 45 (List.mem_of_getElem? hi)).ne.2.1
  · rw [if_neg hu] at e
    have hat : l[(Lib.decDigits u).length]? = some 45 := by rw [e]; simp
    have hii : i = (Lib.decDigits u).length := by
      rcases Nat.lt_trichotomy i (Lib.decDigits u).length with h | h | h
      · rw [e, List.getElem?_append_left h] at hi
        exact absurd rfl (dig_itoa u (by omega) 45 (List.mem_of_getElem? hi)).ne.2.1
      · exact h
      · exact absurd hat (hj _ h)
    have t1 : l.take i = Lib.decDigits u := by rw [e, hii]; simp
    have t2 : l.drop (i + 1) = Lib.decDigits v := by rw [e, hii, ← List.drop_drop]; simp
    rw [t1, t2]
    exact ⟨num_dec u (by omega), by rw [val_itoa u (by omega)], num_dec v h2, by rw [val_itoa v h2]⟩

/-- what is answered at a text -/
def Ans (t : List UInt8) (R : List (Int × Int)) (ok : Bool) : Prop :=
  (ok = true ∧ t.length ≤ 1200 ∧ Canon t R ∧ ∀ R', Canon t R' → R' = R) ∨ (ok = false ∧ R = [] ∧ (1200 < t.length ∨ ∀ R', ¬ Canon t R'))
theorem Ans.unique {t : List UInt8} {R R' : List (Int × Int)} {ok ok' : Bool} (h : Ans t R ok) (h' : Ans t R' ok') : R' = R ∧ ok' = ok := by
  rcases h with ⟨rfl, h1, h2, h3⟩ | ⟨rfl, rfl, h1⟩
  · rcases h' with ⟨rfl, h1', h2', _⟩ | ⟨rfl, rfl, h1'⟩
    · exact ⟨h3 R' h2', rfl⟩
    · rcases h1' with h | h
      · omega
      · exact absurd h2 (h R)
  · rcases h' with ⟨rfl, h1', h2', _⟩ | ⟨rfl, rfl, _⟩
    · rcases h1 with h | h
      · omega
      · exact absurd h2' (h R')
    · exact ⟨rfl, rfl⟩
/-- what comes of reading a set -/
def SetRes (s : ByteArray) (w : World) (e : Ending) (w' : World) : Prop :=
  ∃ (v : Value) (R : List (Int × Int)) (ok : Bool), e = .returned (.tuple #[v, .bool ok]) ∧ w'.ownsRow w.heap.size 34 2 v R.length (cellsI R) ∧ R.length ≤ 2000 ∧ Below w.heap.size w w' ∧ Ans (tx s) R ok

theorem no_list (s : ByteArray) (h : s ≠ ⟨#[110, 111]⟩) : (s.toList == [110, 111]) = false := by
  rw [ByteArray.toList_eq, beq_eq_false_iff_ne]
  exact fun e => h (tx_inj e)
theorem no_tx {s : ByteArray} (h : s ≠ ⟨#[110, 111]⟩) : tx s ≠ [110, 111] := fun e => h (tx_inj e)
theorem own_types {w : World} {b b' g g' n n' c c' : Nat} {xs xs' : List Value} (h : w.ownsRow b 34 2 (.slice (some ⟨g, 0, none⟩) n c) n xs) (h' : w.ownsRow b' 9 1 (.slice (some ⟨g', 0, none⟩) n' c') n' xs') : g' ≠ g := by
  rintro rfl
  rcases h.2 with ⟨e, _⟩ | ⟨k, cap, cur, e, _, hb, _⟩
  · cases e
  · rcases h'.2 with ⟨e', _⟩ | ⟨k', cap', cur', e', _, hb', _⟩
    · cases e'
    · cases e
      cases e'
      rw [hb] at hb'
      cases hb'
theorem cell_two_new2 (w : World) (x y : Value) (t : TypeId) : ∀ j u, [x, y][j]? = some u → (w.alloc (.cells #[x, y] t)).cell? ((⟨w.heap.size, 0, none⟩ : Addr).add j) = some u := by
  intro j u hj
  match j, hj with
  | 0, hj => simp at hj; subst hj; simp [Addr.add]
  | 1, hj => simp at hj; subst hj; simp [Addr.add]
theorem set_mk {s : ByteArray} {w w' : World} (v : Value) (R : List (Int × Int)) (ok : Bool) (h1 : w'.ownsRow w.heap.size 34 2 v R.length (cellsI R)) (h2 : R.length ≤ 2000) (h3 : Below w.heap.size w w') (h4 : Ans (tx s) R ok) : SetRes s w (.returned (.tuple #[v, .bool ok])) w' := ⟨v, R, ok, rfl, h1, h2, h3, h4⟩
theorem in_rl {R : List (Int × Int)} (h : ∀ p ∈ R, In64 p.1 ∧ In64 p.2) : ∀ i, i < R.length → In64 (rl R i) ∧ In64 (rh R i) := by
  intro i hi
  have e : R.getD i (0, 0) = R[i] := by simp [List.getD, hi]
  rw [rl, rh, e]
  exact h _ (List.getElem_mem hi)
theorem in_snoc {R : List (Int × Int)} {x y : Int} (h : ∀ p ∈ R, In64 p.1 ∧ In64 p.2) (hx : In64 x) (hy : In64 y) : ∀ p ∈ R ++ [(x, y)], In64 p.1 ∧ In64 p.2 := by
  intro p hp
  rcases List.mem_append.1 hp with h1 | h1
  · exact h p h1
  · simp at h1; subst h1; exact ⟨hx, hy⟩
theorem cw_len (t : List UInt8) : 0 < (cw t).length ∧ (cw t).length ≤ t.length + 1 := by
  induction t with
  | nil => exact ⟨by decide, by decide⟩
  | cons c l ih =>
    rw [cw]
    split
    · simp; omega
    · simp; omega
theorem mem_tx_find {s : ByteArray} (h : ∀ j, j < s.size → (tx s)[j]? ≠ some 45) : ∀ c ∈ tx s, c ≠ 45 := by
  rintro c hc rfl
  obtain ⟨j, hj⟩ := List.mem_iff_getElem?.1 hc
  refine h j ?_ hj
  rcases Nat.lt_or_ge j s.size with h1 | h1
  · exact h1
  · rw [List.getElem?_eq_none (by rw [← tx_size]; exact h1)] at hj; cases hj

theorem cw_mem_len (t : List UInt8) : ∀ x ∈ cw t, x.length ≤ t.length := by
  induction t with
  | nil => intro x hx; simp [cw] at hx; simp [hx]
  | cons c l ih =>
    intro x hx
    have hl := (cw_len l).1
    rw [cw] at hx
    split at hx
    · rcases List.mem_cons.1 hx with rfl | h
      · simp
      · have := ih x h; simp; omega
    · rcases List.mem_cons.1 hx with rfl | h
      · have h1 : (cw l).headD [] ∈ cw l := by
          cases hc : cw l with
          | nil => rw [hc] at hl; simp at hl
          | cons a b => simp
        have := ih _ h1
        simp at this ⊢
        omega
      · have := ih x (List.mem_of_mem_tail h); simp; omega
theorem tx_take (s : ByteArray) (i : Nat) : tx (s.extract 0 i) = (tx s).take i := by rw [tx_extract]; simp
theorem tx_drop (s : ByteArray) (i : Nat) : tx (s.extract i s.size) = (tx s).drop i := by
  rw [tx_extract, List.take_of_length_le (by rw [List.length_drop, ← tx_size]; omega)]

theorem own_sp' {w : World} {base g cap : Nat} {R : List (Int × Int)} (h : w.ownsRow base 34 2 (.slice (some ⟨g, 0, none⟩) R.length cap) R.length (cellsI R)) : Sp w g 0 R.length (rl R) (rh R) := by
  intro i hi
  obtain ⟨e0, e1⟩ := cellsI_get R i hi
  have c0 := h.cellAt (i * 2) (by omega)
  have c1 := h.cellAt (i * 2 + 1) (by omega)
  rw [e0] at c0
  rw [e1] at c1
  exact ⟨by simpa using c0, by simpa using c1⟩

set_option maxRecDepth 100000 in
set_option maxHeartbeats 4000000 in
theorem specSetRead_any (s : ByteArray) (hs : s.size ≤ 1048576) (w : World) :
    Calls Tryd.prog 4 #[.string s] w (SetRes s w) := by
  obtain ⟨i0, hi, hz0, hz1, hz2⟩ := info_parts Tryd.info34
  have hlit : (w.alloc (.cells #[] 34)).ownsRow w.heap.size 34 2 (.slice (some ⟨w.heap.size, 0, none⟩) 0 0) 0 [] := World.ownsRow_lit w #[] 0 (Nat.le_refl _) (by unfold maxLen; omega) rfl
  by_cases hno : s = ⟨#[110, 111]⟩
  · subst hno
    go_enter Tryd.func4, Tryd.ntmps4
    go_wp2
    go_ret2
    exact set_mk _ [] true hlit (by simp) ((Below.refl _ _).alloc (Nat.le_refl _) _) (.inl ⟨rfl, by decide, canon_nil, fun R' h => canon_no h⟩)
  · have hnz := no_list s hno
    have HNO : Hid (tx s ≠ [110, 111]) := no_tx hno
    have HSZ : Hid (s.size = (tx s).length) := tx_size s
    clear hno
    by_cases hbig : 1200 < s.size
    · have hbz : (1200 : Int) < (s.size : Int) := by omega
      go_enter Tryd.func4, Tryd.ntmps4
      go_wp2
      go_ret2
      exact set_mk _ [] false (World.ownsRow_nil _ _ _ _) (by simp) ((Below.refl _ _).alloc (Nat.le_refl _) _) (.inr ⟨rfl, rfl, .inl (by rw [← tx_size]; exact hbig)⟩)
    · have hbz : ¬ ((1200 : Int) < (s.size : Int)) := by omega
      go_enter Tryd.func4, Tryd.ntmps4
      go_wp2_with fail
      refine (cut_any s hs _).mono ?_
      rintro e w0 ⟨vw, ws, rfl, hws, how, hb0⟩
      have hB0 : Below w.heap.size w w0 := ((Below.refl _ _).alloc (Nat.le_refl _) _).trans (hb0.mono (by simp))
      have hlit0 := own_below hlit hb0
      have hwl : 0 < ws.length ∧ ws.length ≤ 1201 := by
        have h1 := cw_len (tx s)
        have h2 := congrArg List.length hws
        rw [List.length_map] at h2
        rw [← HSZ.out] at h1
        omega
      obtain ⟨hwl0, hwl1⟩ := hwl
      have HWS : Hid (ws.map tx = cw (tx s)) := hws
      obtain ⟨gw, cw', rfl⟩ : ∃ gw cw', vw = .slice (some ⟨gw, 0, none⟩) ws.length cw' := by
        rcases how.2 with ⟨_, h⟩ | ⟨g, cap, cur, h, _⟩
        · omega
        · exact ⟨g, cap, h⟩
      clear hlit hb0 hws
      go_wp2
      go_loopw [4, 6] (fun t i wr => ∃ (k g cap : Nat) (R : List (Int × Int)), k ≤ ws.length ∧ R.length = k ∧ i = .int .i64 k ∧ t = .slice (some ⟨g, 0, none⟩) R.length cap ∧ Hid (Reads (cw (tx s)) R ∧ ∀ p ∈ R, In64 p.1 ∧ In64 p.2) ∧ wr.ownsRow w.heap.size 34 2 (.slice (some ⟨g, 0, none⟩) R.length cap) R.length (cellsI R) ∧ wr.ownsRow (w.alloc (.cells #[] 34)).heap.size 9 1 (.slice (some ⟨gw, 0, none⟩) ws.length cw') ws.length (ws.map Value.string) ∧ Below w.heap.size w wr)
        (fun _ i _ => ws.length - (intOf i).toNat)
      case atStart => exact ⟨0, w.heap.size, 0, [], by omega, rfl, rfl, rfl, ⟨reads_nil _, fun p hp => by simp at hp⟩, hlit0, how, hB0⟩
      case round =>
        obtain ⟨k, g, cap, R, hk, hRk, rfl, rfl, HR, hown, hwds, hB⟩ := hrel
        subst hRk
        have hgb := (hown.lt g rfl).1
        have hgg := own_types hown hwds
        by_cases hlt : R.length < ws.length
        · have hltz : ((R.length : Nat) : Int) < (ws.length : Int) := by omega
          have hcw : wr.cell? ⟨gw, R.length, none⟩ = some (.string ws[R.length]) := by
            rw [hwds.cellAt _ (by omega)]; simp [hlt]
          have HW : Hid ((cw (tx s))[R.length]? = some (tx ws[R.length])) := by
            show (cw (tx s))[R.length]? = some (tx ws[R.length])
            rw [← HWS.out]; simp [hlt]
          obtain ⟨wd, hwd⟩ : ∃ wd, wd = ws[R.length] := ⟨_, rfl⟩
          rw [← hwd] at hcw HW
          have hwdl : wd.size ≤ 1048576 := by
            have h1 := cw_mem_len (tx s) (tx wd) (List.mem_of_getElem? HW.out)
            rw [← tx_size, ← tx_size] at h1
            omega
          clear hwd
          go_wp2_with fail
          refine (find_any wd hwdl _).mono ?_
          rintro e w1 ⟨kf, rfl, hfind, hw1⟩
          subst w1
          rcases hfind with ⟨rfl, hfree⟩ | ⟨i, rfl, hilt, hi45, hifirst⟩
          · have HF : Hid (∀ c ∈ tx wd, c ≠ 45) := mem_tx_find hfree
            clear hfree
            go_wp2_with fail
            refine (num_any wd hwdl _).mono ?_
            rintro e w1 ⟨x, b, rfl, hx64, hnum, hw1⟩
            subst w1
            cases b with
            | false =>
              have HBAD : Hid (∀ x y, By x y → tx wd ≠ spanT x y) := fun x y hb e => by
                have h1 := (hnum (word_one hb e HF.out).1).2
                cases h1
              clear hnum
              go_wp2
              go_ret2
              exact set_mk _ [] false (World.ownsRow_nil _ _ _ _) (by simp) hB (.inr ⟨rfl, rfl, .inr (fun R' => bad_canon HW.out HBAD.out HNO.out)⟩)
            | true =>
              have HP : Hid (∀ x' y', By x' y' → tx wd = spanT x' y' → (x, x) = (x', y')) := fun x' y' hb e => by
                obtain ⟨h1, h2, h3⟩ := word_one hb e HF.out
                have h4 := (hnum h1).1
                rw [h4, h2, h3]
              have HX : Hid (In64 x) := hx64
              clear hnum hx64
              go_wp2_with (at_builtin; refine wpList_append_own _ rfl _ _ 22 rfl w.heap.size 34 i0 (.agg #[.int .i64 0, .int .i64 0]) 2 16 Tryd.underlying22 hi hz0 hz1 hz2 rfl (by decide) _ _ _ rfl (hown.alloc _) ⟨wr.heap.size, 0, none⟩ 1 1 [.int .i64 x, .int .i64 x] rfl rfl (cell_two_new2 _ _ _ _) (by simp [Value.oneCell']) (by unfold maxLen; omega) (by omega) (by have := hB.size; simp; omega) ?_; intro v' w1 hown' hgrow _; obtain ⟨g', cap', rfl⟩ := ownsRow_succ hown')
              have hB1 : Below w.heap.size w w1 := (hB.alloc hB.size _).grown hgrow (by have := hB.size; simp; omega) (fun j e => by cases e; exact hgb)
              have hr : w1.ownsRow w.heap.size 34 2 (.slice (some ⟨g', 0, none⟩) (R.length + 1) cap') (R ++ [(x, x)]).length (cellsI (R ++ [(x, x)])) := by rw [cellsI_snoc]; simpa using hown'
              have hgrow1 : (wr.alloc (.cells #[.int .i64 x, .int .i64 x] 34)).grownBy w1 (some g) := hgrow
              have hw1 := (hwds.alloc (.cells #[.int .i64 x, .int .i64 x] 34)).kept hgrow1 (.inr (by simpa [Value.ownBlock] using hgg))
              go_roundw
              case rel => exact ⟨R.length + 1, g', cap', R ++ [(x, x)], by omega, by simp, by go_num, by simp, ⟨reads_snoc HR.out.1 HW.out HP.out, in_snoc HR.out.2 HX.out HX.out⟩, by simpa using hr, hw1, hB1⟩
              case measure => simp [intOf]; omega
          · have hiz : ¬ ((i : Int) < 0) := by omega
            have HI : Hid ((tx wd)[i]? = some 45 ∧ ∀ j, j < i → (tx wd)[j]? ≠ some 45) := ⟨hi45, hifirst⟩
            clear hi45 hifirst
            have HT : Hid (tx (wd.extract 0 i) = (tx wd).take i ∧ tx (wd.extract (i + 1) wd.size) = (tx wd).drop (i + 1)) := ⟨tx_take wd i, tx_drop wd (i + 1)⟩
            have hl1 : (wd.extract 0 i).size ≤ 1048576 := by simp; omega
            have hl2 : (wd.extract (i + 1) wd.size).size ≤ 1048576 := by simp; omega
            go_wp2_with fail
            refine (num_any _ hl1 _).mono ?_
            rintro e w1 ⟨x, b, rfl, hx64, hnum, hw1⟩
            subst w1
            have HN1 : Hid (Num (tx (wd.extract 0 i)) → x = val (tx (wd.extract 0 i)) ∧ b = true) := hnum
            have HX : Hid (In64 x) := hx64
            clear hnum hx64
            go_wp2_with fail
            refine (num_any _ hl2 _).mono ?_
            rintro e w1 ⟨y, b2, rfl, hy64, hnum, hw1⟩
            subst w1
            have HN2 : Hid (Num (tx (wd.extract (i + 1) wd.size)) → y = val (tx (wd.extract (i + 1) wd.size)) ∧ b2 = true) := hnum
            have HY : Hid (In64 y) := hy64
            clear hnum hy64
            cases b with
            | false =>
              have HBAD : Hid (∀ x y, By x y → tx wd ≠ spanT x y) := fun x y hb e => by
                obtain ⟨h1, _⟩ := word_two hb e HI.out.1 HI.out.2
                have h2 := HN1.out
                rw [HT.out.1] at h2
                have h3 := (h2 h1).2
                cases h3
              go_wp2
              go_ret2
              exact set_mk _ [] false (World.ownsRow_nil _ _ _ _) (by simp) hB (.inr ⟨rfl, rfl, .inr (fun R' => bad_canon HW.out HBAD.out HNO.out)⟩)
            | true =>
              cases b2 with
              | false =>
                have HBAD : Hid (∀ x y, By x y → tx wd ≠ spanT x y) := fun x y hb e => by
                  obtain ⟨_, _, h1, _⟩ := word_two hb e HI.out.1 HI.out.2
                  have h2 := HN2.out
                  rw [HT.out.2] at h2
                  have h3 := (h2 h1).2
                  cases h3
                go_wp2
                go_ret2
                exact set_mk _ [] false (World.ownsRow_nil _ _ _ _) (by simp) hB (.inr ⟨rfl, rfl, .inr (fun R' => bad_canon HW.out HBAD.out HNO.out)⟩)
              | true =>
                have HP : Hid (∀ x' y', By x' y' → tx wd = spanT x' y' → (x, y) = (x', y')) := fun x' y' hb e => by
                  obtain ⟨h1, h2, h3, h4⟩ := word_two hb e HI.out.1 HI.out.2
                  have k1 := HN1.out
                  have k2 := HN2.out
                  rw [HT.out.1] at k1
                  rw [HT.out.2] at k2
                  rw [(k1 h1).1, (k2 h3).1, h2, h4]
                go_wp2_with (at_builtin; refine wpList_append_own _ rfl _ _ 22 rfl w.heap.size 34 i0 (.agg #[.int .i64 0, .int .i64 0]) 2 16 Tryd.underlying22 hi hz0 hz1 hz2 rfl (by decide) _ _ _ rfl (hown.alloc _) ⟨wr.heap.size, 0, none⟩ 1 1 [.int .i64 x, .int .i64 y] rfl rfl (cell_two_new2 _ _ _ _) (by simp [Value.oneCell']) (by unfold maxLen; omega) (by omega) (by have := hB.size; simp; omega) ?_; intro v' w1 hown' hgrow _; obtain ⟨g', cap', rfl⟩ := ownsRow_succ hown')
                have hB1 : Below w.heap.size w w1 := (hB.alloc hB.size _).grown hgrow (by have := hB.size; simp; omega) (fun j e => by cases e; exact hgb)
                have hr : w1.ownsRow w.heap.size 34 2 (.slice (some ⟨g', 0, none⟩) (R.length + 1) cap') (R ++ [(x, y)]).length (cellsI (R ++ [(x, y)])) := by rw [cellsI_snoc]; simpa using hown'
                have hgrow1 : (wr.alloc (.cells #[.int .i64 x, .int .i64 y] 34)).grownBy w1 (some g) := hgrow
                have hw1 := (hwds.alloc (.cells #[.int .i64 x, .int .i64 y] 34)).kept hgrow1 (.inr (by simpa [Value.ownBlock] using hgg))
                go_roundw
                case rel => exact ⟨R.length + 1, g', cap', R ++ [(x, y)], by omega, by simp, by go_num, by simp, ⟨reads_snoc HR.out.1 HW.out HP.out, in_snoc HR.out.2 HX.out HY.out⟩, by simpa using hr, hw1, hB1⟩
                case measure => simp [intOf]; omega
        · have hltz : ¬ (((R.length : Nat) : Int) < (ws.length : Int)) := by omega
          have hsp := own_sp' hown
          have hfull : R.length = ws.length := by omega
          have HL : Hid (R.length = (cw (tx s)).length) := by
            show R.length = (cw (tx s)).length
            rw [← HWS.out, hfull, List.length_map]
          clear hfull
          go_wp2_with fail
          refine (specSetOk_any _ g 0 cap R.length (rl R) (rh R) _ (fun _ => rfl) hsp (by omega)).mono ?_
          rintro e w1 ⟨rfl, hb1⟩
          have hB1 := hB.trans (hb1.mono hB.size)
          cases hok : okB R.length (rl R) (rh R) with
          | false =>
            have HBAD : Hid (∀ R', ¬ Canon (tx s) R') := fun R' hc => by
              obtain rfl := reads_canon HR.out.1 HL.out hc HNO.out
              rw [hc.1] at hok
              cases hok
            clear hok
            go_wp2
            go_ret2
            exact set_mk _ [] false (World.ownsRow_nil _ _ _ _) (by simp) hB1 (.inr ⟨rfl, rfl, .inr HBAD.out⟩)
          | true =>
            have HOK : Hid (okB R.length (rl R) (rh R) = true) := hok
            clear hok
            go_wp2_with fail
            refine (specSetText_any _ g 0 cap R.length (rl R) (rh R) _ (fun _ => rfl) (hsp.below hb1) (in_rl HR.out.2) (by omega)).mono ?_
            rintro e w2 ⟨r, rfl, hr, hb2⟩
            have hB2 := hB1.trans (hb2.mono hB1.size)
            have hown2 := own_below (own_below hown hb1) hb2
            have HTX : Hid (tx r = setT R.length (rl R) (rh R)) := hr
            clear hr
            by_cases heq : r = s
            · subst heq
              go_wp2
              go_ret2
              have hcan : Canon (tx r) R := ⟨HOK.out, HTX.out.symm⟩
              exact set_mk _ R true hown2 (by omega) hB2 (.inl ⟨rfl, by rw [← tx_size]; omega, hcan, fun R' hc => reads_canon HR.out.1 HL.out hc HNO.out⟩)
            · have hne : (r.toList == s.toList) = false := by
                rw [ByteArray.toList_eq, ByteArray.toList_eq, beq_eq_false_iff_ne]
                exact fun e => heq (tx_inj e)
              have HBAD : Hid (∀ R', ¬ Canon (tx s) R') := fun R' hc => by
                obtain rfl := reads_canon HR.out.1 HL.out hc HNO.out
                exact heq (tx_inj (HTX.out.trans hc.2))
              clear heq
              go_wp2
              go_ret2
              exact set_mk _ [] false (World.ownsRow_nil _ _ _ _) (by simp) hB2 (.inr ⟨rfl, rfl, .inr HBAD.out⟩)
end Go.Proofs.YthapckfahfnpjaaDoor

