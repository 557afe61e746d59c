/- the walk of impl's RulesText -/
import Derived.Test.YtcpbkkdjaojfiaaGreatDoorUo
import Derived.Test.YtcpbkkdjaojfiaaGreatDoorUi
import Derived.Test.YtcpbkkdjaojfiaaGreatDoorVx
import Derived.Test.YtcpbkkdjaojfiaaGreatDoorShB
import Derived.Shelf.Strings.BuilderK
namespace Go.Proofs.YtcpbkkdjaojfiaaGreatDoor
open Go.RowKit Go.Shelf
set_option linter.unusedVariables false
set_option linter.unusedSimpArgs false

/-- the builder in block b holds the bytes l -/
def Bld (B b : Nat) (l : List UInt8) (w : World) : Prop := Lib.IsBuilderF 48 5 B b (Lib.byteCells l) w
theorem own_kept {W W' : World} {base e size : Nat} {v : Value} {n : Nat} {xs : List Value} (h : W.ownsRowF base e size v n xs) (hb : Below W.heap.size W W') : W'.ownsRowF base e size v n xs := by
  refine ⟨h.1, ?_⟩
  rcases h.2 with h | ⟨g, cap, cur, fz, e1, e2, e3, e4⟩
  · exact .inl h
  · exact .inr ⟨g, cap, cur, fz, e1, e2, (hb.block g (Array.getElem?_eq_some_iff.1 e3).1).trans e3, e4⟩
theorem bldAt_kept {T e B b : Nat} {p : Value} {bs : List Value} {W W' : World} (h : Lib.BuilderAtF T e B b p bs W) (hb : Below W.heap.size W W') : Lib.BuilderAtF T e B b p bs W' := by
  obtain ⟨h1, v, h2, h3, h4⟩ := h
  exact ⟨h1, v, (hb.block b (Array.getElem?_eq_some_iff.1 h2).1).trans h2, own_kept h3 hb, h4⟩
theorem Bld.kept {B b : Nat} {l : List UInt8} {W W' : World} (h : Bld B b l W) (hb : Below W.heap.size W W') : Bld B b l W' := by
  rcases h with h | h
  · exact .inl (bldAt_kept h hb)
  · exact .inr (bldAt_kept h hb)
theorem Bld.lt {B b : Nat} {l : List UInt8} {W : World} (h : Bld B b l W) : b < W.heap.size := by
  rcases h with ⟨_, v, h, _⟩ | ⟨_, v, h, _⟩
  · exact (Array.getElem?_eq_some_iff.1 h).1
  · exact (Array.getElem?_eq_some_iff.1 h).1
theorem bld_new (w : World) : Bld w.heap.size w.heap.size [] (w.alloc (.cells #[.pointer none, .slice none 0 0] 48)) := Lib.IsBuilderF.of (Lib.fresh_isBuilder _ _ w)
theorem bld_write (B b : Nat) (l : List UInt8) (s : ByteArray) (w : World) (h : Bld B b l w) (hlen : l.length + s.size ≤ 140737488355328) (hBw : B ≤ w.heap.size) :
    Calls Tryz.prog 14 #[.pointer (some ⟨b, 0, none⟩), .string s] w fun e w' => e = .returned (.tuple #[.int .i64 s.size, .nilIface]) ∧ Bld B b (l ++ tx s) w' ∧ Below B w w' ∧ Lib.OthersKept 5 (some b) w w' := by
  refine (show Calls Tryz.prog 14 #[.pointer (some ⟨b, 0, none⟩), .string s] w fun e w' => e = .returned (.tuple #[.int .i64 s.size, .nilIface]) ∧ (Lib.BuilderAtF 48 5 B b (.pointer (some ⟨b, 0, none⟩)) (Lib.byteCells l ++ Lib.strCells s) w' ∧ Below B w w' ∧ Lib.OthersKept 5 (some b) w w')
    from Any.Builder_WriteString_k YtcpbkkdjaojfiaaGreatDoor.Tryz.laysWS YtcpbkkdjaojfiaaGreatDoor.Tryz.bldX B b (Lib.byteCells l) s w h (by rw [Lib.byteCells_length]; exact hlen) hBw).mono ?_
  rintro e w' ⟨rfl, h, hb, ho⟩
  refine ⟨rfl, .inr ?_, hb, ho⟩
  rw [Lib.strCells_eq, ← Lib.byteCells_append] at h
  exact h
theorem bld_string (B b : Nat) (l : List UInt8) (w : World) (h : Bld B b l w) (hBw : B ≤ w.heap.size) :
    Calls Tryz.prog 16 #[.pointer (some ⟨b, 0, none⟩)] w fun e w' => e = .returned (.string ⟨l.toArray⟩) ∧ Below B w w' :=
  (show Calls Tryz.prog 16 #[.pointer (some ⟨b, 0, none⟩)] w fun e w' => e = .returned (.string ⟨l.toArray⟩) ∧ (Lib.IsBuilderF 48 5 B b (Lib.byteCells l) w' ∧ Below B w w' ∧ Lib.OthersKept 5 (some b) w w')
    from Any.Builder_String_any_k YtcpbkkdjaojfiaaGreatDoor.Tryz.laysStr YtcpbkkdjaojfiaaGreatDoor.Tryz.bldX B b l w h hBw).mono (fun e w' h => ⟨h.1, h.2.2.1⟩)

set_option maxRecDepth 100000 in
set_option maxHeartbeats 2000000 in
theorem implRulesText_any (a : Option Addr) (b off n cap : Nat) (N : Nat → ByteArray) (K : Nat → Sh) (M : Nat → Mx) (w : World) (t : TypeId) (ea : Addr) (hE : Err w t ea) (hG : ErrTy w) (hP : Tab w.heap.size w) (hga : 0 < n → a = some ⟨b, off, none⟩) (hR : RulesIn AnyB w b off n N K M) (hn : n ≤ 1048576)
    (hN : ∀ i, i < n → (N i).size ≤ 1048576) (hc : ∀ i, i < n → cnt (K i) ≤ 1048576) :
    Calls Tryz.prog 7 #[.slice a n cap] w (TextRes n N K w) := by
  have HO : Hid (Calls Tryz.prog 13 #[.slice a n cap] w (RulesRes n N K w)) := implRulesOk_any a b off n cap N K M w t ea hE hG hga hR hn hN hc
  have HX : Hid (∀ i, i < n → ∀ w1, Below w.heap.size w w1 → Calls Tryz.prog 15 #[vx (K i) (M i)] w1 fun e w' => e = .returned (.string ⟨(textR (K i)).toArray⟩) ∧ Below w1.heap.size w1 w') := fun i hi w1 hb =>
    implRexText_any (K i) (M i) w1 t ea (hE.below hb) ((hP.on hb).up hb.size) ((hR i hi).2.below hb) (hc i hi)
  simp only [vx] at HX
  clear hE hG hP
  go_enter Tryz.func7, Tryz.ntmps7
  go_wp2_with fail
  refine HO.out.mono ?_
  rintro e w1 ⟨ok, rfl, hok, hb1⟩
  have HB1 : Hid (Below w.heap.size w w1) := hb1
  clear hb1
  by_cases hg : RulesGood n N K
  · obtain rfl : ok = true := hok.2 hg
    have hn5 : n ≤ 5 := hg.2.1
    have HG : Hid (RulesGood n N K) := hg
    clear hok hg HO
    have HL0 : Hid (Bld w1.heap.size w1.heap.size [] (w1.alloc (.cells #[.pointer none, .slice none 0 0] 48))) := bld_new w1
    have HBA : Hid (Below w.heap.size w (w1.alloc (.cells #[.pointer none, .slice none 0 0] 48))) := HB1.out.alloc HB1.out.size _
    have hw1 : w.heap.size ≤ w1.heap.size := HB1.out.size
    go_wp2_with fail
    go_loopw [11] (fun i wr => ∃ k : Nat, k ≤ n ∧ i = .int .i64 k ∧ Hid (Bld w1.heap.size w1.heap.size (textU N K k) wr) ∧ Hid (Below w1.heap.size w1 wr)) (fun i _ => n - (intOf i).toNat)
    case atStart => exact ⟨0, Nat.zero_le _, rfl, HL0, (Below.refl _ _).alloc (Nat.le_refl _) _⟩
    case round =>
      obtain ⟨k, hk, rfl, HJ, HB⟩ := hrel
      by_cases hlt : k < n
      · obtain rfl := hga (by omega)
        have hltz : (k : Int) < (n : Int) := by omega
        have HBW : Hid (Below w.heap.size w wr) := HB1.out.trans (HB.out.mono hw1)
        obtain ⟨hat, hin⟩ := hR k hlt
        obtain ⟨d0, d1, d2, d3⟩ := (hat.below HBW.out).cells
        obtain ⟨sa, sn, sc, ka, km, kc, es, ek⟩ := hin.slices
        have HC : Hid _ := HX.out k hlt
        rw [es] at d2
        rw [ek] at d3
        rw [Hid, es, ek] at HC
        have HC : Hid _ := HC
        clear es ek
        have hlen : (textU N K k).length ≤ 300000000 := by
          have h := textU_len (N := N) (K := K) (k := k) (fun i hi => (HG.out.2.2 i (by omega)).1.2.1) (fun i hi => hc i (by omega))
          omega
        have hl1 : (lineU (N k) (K k)).length ≤ 300000000 := by
          have h := lineU_len (HG.out.2.2 k hlt).1.2.1 (hc k hlt)
          omega
        have HS : Hid (tx (N k ++ ⟨#[58, 32]⟩ ++ ⟨(textR (K k)).toArray⟩ ++ ⟨#[10]⟩) = lineU (N k) (K k)) := by
          simp [Hid, tx_append, lineU, tx, List.append_assoc]
        have hz3 : (N k ++ ⟨#[58, 32]⟩ ++ ⟨(textR (K k)).toArray⟩ ++ ⟨#[10]⟩ : ByteArray).size ≤ 300000000 := by rw [tx_size, HS.out]; exact hl1
        have hzN : (N k).size ≤ 300000000 := by have := hz3; simp only [ByteArray.size_append] at this; omega
        obtain ⟨z, hz⟩ : ∃ z : ByteArray, (⟨(textR (K k)).toArray⟩ : ByteArray) = z := ⟨_, rfl⟩
        rw [hz] at HC HS hz3
        have hzz : z.size ≤ 300000000 := by have := hz3; simp only [ByteArray.size_append] at this; omega
        have HWS : Hid (∀ W, Below w1.heap.size w1 W → Bld w1.heap.size w1.heap.size (textU N K k) W → Calls Tryz.prog 14 #[.pointer (some ⟨w1.heap.size, 0, none⟩), .string (N k ++ ⟨#[58, 32]⟩ ++ z ++ ⟨#[10]⟩)] W fun e w' => (∃ m : Nat, e = .returned (.tuple #[.int .i64 m, .nilIface])) ∧ Bld w1.heap.size w1.heap.size (textU N K (k + 1)) w' ∧ Below w1.heap.size w1 w' ∧ Lib.OthersKept 5 (some w1.heap.size) W w') := fun W hb h =>
          (bld_write _ _ _ _ W h (by omega) hb.size).mono (by
            rintro e w' ⟨rfl, h', hb', ho⟩
            rw [HS.out, ← textU_succ] at h'
            exact ⟨⟨_, rfl⟩, h', hb.trans hb', ho⟩)
        clear hat hin hz hz3 hlen hl1
        obtain ⟨W, hW⟩ : ∃ W : World, W = (wr.alloc (.cells #[.string (N k), .int .i64 (K k).kind, .slice sa sn sc, .slice ka km kc] 42)) := ⟨_, rfl⟩
        have hbld : w1.heap.size < wr.heap.size := HJ.out.lt
        have hbW : Below wr.heap.size wr W := by rw [hW]; exact (Below.refl _ _).alloc (Nat.le_refl _) _
        have HBW1 : Hid (Below w1.heap.size w1 W.drew) := (HB.out.trans (hbW.mono HB.out.size)).drew
        have HBW0 : Hid (Below w.heap.size w W.drew) := HB1.out.trans (HBW1.out.mono hw1)
        have HJW : Hid (Bld w1.heap.size w1.heap.size (textU N K k) W.drew) := HJ.out.kept hbW.drew
        have HKP : Hid (∀ V, Below W.drew.heap.size W.drew V → V.cell? ⟨wr.heap.size, 0, none⟩ = some (.string (N k)) ∧ V.cell? ⟨wr.heap.size, 1, none⟩ = some (.int .i64 (K k).kind) ∧ V.cell? ⟨wr.heap.size, 2, none⟩ = some (.slice sa sn sc) ∧ V.cell? ⟨wr.heap.size, 3, none⟩ = some (.slice ka km kc)) := fun V hb => by
          have hlt : wr.heap.size < W.drew.heap.size := by rw [hW]; simp [go_sem]
          refine ⟨(hb.cell (p := ⟨wr.heap.size, 0, none⟩) hlt).trans ?_, (hb.cell (p := ⟨wr.heap.size, 1, none⟩) hlt).trans ?_, (hb.cell (p := ⟨wr.heap.size, 2, none⟩) hlt).trans ?_, (hb.cell (p := ⟨wr.heap.size, 3, none⟩) hlt).trans ?_⟩
          all_goals (rw [hW]; simp [go_sem])
        have HKO : Hid (∀ V V', Below W.drew.heap.size W.drew V → Lib.OthersKept 5 (some w1.heap.size) V V' → V'.cell? ⟨wr.heap.size, 0, none⟩ = some (.string (N k)) ∧ V'.cell? ⟨wr.heap.size, 1, none⟩ = some (.int .i64 (K k).kind) ∧ V'.cell? ⟨wr.heap.size, 2, none⟩ = some (.slice sa sn sc) ∧ V'.cell? ⟨wr.heap.size, 3, none⟩ = some (.slice ka km kc)) := fun V V' hb ho => by
          have hlt : wr.heap.size < W.drew.heap.size := by rw [hW]; simp [go_sem]
          have hob : W.drew.heap[wr.heap.size]? = some (.cells #[.string (N k), .int .i64 (K k).kind, .slice sa sn sc, .slice ka km kc] 42 (0, 0)) := by rw [hW]; show (wr.heap.push _)[wr.heap.size]? = _; simp
          have hV : V.heap[wr.heap.size]? = _ := (hb.block _ hlt).trans hob
          have hV' := ho _ _ hV (by intro e; have := Option.some.inj e; omega) (by intro c fz e; cases e)
          have key : ∀ o, V'.cell? ⟨wr.heap.size, o, none⟩ = V.cell? ⟨wr.heap.size, o, none⟩ := fun o => World.cell?_of_block (w := V) (a := ⟨wr.heap.size, o, none⟩) (hV'.trans hV.symm)
          obtain ⟨y0, y1, y2, y3⟩ := HKP.out V hb
          exact ⟨(key 0).trans y0, (key 1).trans y1, (key 2).trans y2, (key 3).trans y3⟩
        clear hbW
        go_wp2_with fail
        rw [← hW]
        have hx := HKP.out W.drew (Below.refl _ _)
        have x0 : W.cell? ⟨wr.heap.size, 0, none⟩ = some (.string (N k)) := hx.1
        have x1 : W.cell? ⟨wr.heap.size, 1, none⟩ = some (.int .i64 (K k).kind) := hx.2.1
        have x2 : W.cell? ⟨wr.heap.size, 2, none⟩ = some (.slice sa sn sc) := hx.2.2.1
        have x3 : W.cell? ⟨wr.heap.size, 3, none⟩ = some (.slice ka km kc) := hx.2.2.2
        clear hx
        clear hW d0 d1 d2 d3
        go_region_held (fun V => V.cell? ⟨wr.heap.size, 0, none⟩ = some (.string (N k)) ∧ V.cell? ⟨wr.heap.size, 1, none⟩ = some (.int .i64 (K k).kind) ∧ V.cell? ⟨wr.heap.size, 2, none⟩ = some (.slice sa sn sc) ∧ V.cell? ⟨wr.heap.size, 3, none⟩ = some (.slice ka km kc)) (go_keep)
          (first
            | (go_at_call 14; refine (HWS.out _ (HBW1.out.trans (hb2.mono HBW1.out.size)) (HJW.out.kept hb2)).mono ?_; rintro e w3 ⟨⟨m3, rfl⟩, hj3, hb3, ho3⟩; obtain ⟨z0, z1, z2, z3⟩ := HKO.out w2 w3 hb2 ho3)
            | (go_at_call 15; refine (HC.out W.drew HBW0.out).mono ?_; rintro e w2 ⟨rfl, hb2⟩
               obtain ⟨y0, y1, y2, y3⟩ := HKP.out w2 hb2))
        all_goals go_wp2_with fail
        all_goals
          go_roundw
          case rel => exact ⟨k + 1, by omega, by go_num, hj3, hb3⟩
          case measure => simp [intOf]; omega
      · go_wp2_with fail
        refine (bld_string _ _ _ _ HJ.out HB.out.size).mono ?_
        rintro e w5 ⟨rfl, hb5⟩
        go_wp2_with fail
        go_ret
        obtain rfl : k = n := by omega
        exact ⟨_, rfl, fun _ => by simp [tx], fun h => absurd HG.out h, HB1.out.trans ((HB.out.trans hb5).mono hw1)⟩
  · have hf : ok = false := by
      cases ok
      · rfl
      · exact absurd (hok.1 rfl) hg
    subst hf
    clear hok
    go_wp2_with fail
    go_ret
    exact ⟨_, rfl, fun h => absurd h hg, fun _ => rfl, HB1.out⟩
end Go.Proofs.YtcpbkkdjaojfiaaGreatDoor

