/- the walks of addSpanText, addSetText and of impl's SetText -/
import Derived.Test.YthapckfahfnpjaaDoorVa
import Derived.Test.YthapckfahfnpjaaDoorTree
namespace Go.Proofs.YthapckfahfnpjaaDoor
open Go.RowKit Go.Shelf
set_option linter.unusedVariables false
set_option linter.unusedSimpArgs false

set_option maxRecDepth 100000 in
set_option maxHeartbeats 1000000 in
theorem addSpan_any (B : Nat) (W0 w : World) (v : Value) (l : List UInt8) (x y : Int) (hx : In64 x) (hy : In64 y) (hb : Bf B W0 w v l) (ht : Tab B w) (hlen : l.length ≤ 140737480000000) :
    Calls Tryd.prog 30 #[v, .agg #[.int .i64 x, .int .i64 y]] w fun e w' => ∃ v', e = .returned v' ∧ Bf B W0 w' v' (l ++ spanT x y) := by
  obtain ⟨W1, hW1⟩ : ∃ W1, w.alloc (.cells #[.int .i64 x, .int .i64 y] 34) = W1 := ⟨_, rfl⟩
  have hb1 : Bf B W0 W1 v l := by rw [← hW1]; exact hb.alloc _
  have ht1 : Tab B W1 := by rw [← hW1]; exact ht.on ((Below.refl _ _).alloc hb.2.2.1 _)
  have hbox : W1.heap[w.heap.size]? = some (.cells #[.int .i64 x, .int .i64 y] 34 (0, 0)) := by rw [← hW1]; exact alloc_new w _
  have x0 : W1.cell? ⟨w.heap.size, 0, none⟩ = some (.int .i64 x) := boxCell hbox rfl
  have x1 : W1.cell? ⟨w.heap.size, 1, none⟩ = some (.int .i64 y) := boxCell hbox rfl
  have HX : Hid (∀ (W : World) (u : Value) (r : List UInt8), Bf B W1 W u r → W.cell? ⟨w.heap.size, 0, none⟩ = some (.int .i64 x) ∧ W.cell? ⟨w.heap.size, 1, none⟩ = some (.int .i64 y)) := fun W u r h =>
    ⟨h.cell hbox (by decide) x0, h.cell hbox (by decide) x1⟩
  have HB1 : Hid (Bf B W0 W1 v l) := hb1
  have hlx := itoa_len x hx
  have hly := itoa_len y hy
  have HA : Hid (∀ (z : Int) (W : World) (u : Value) (r : List UInt8), In64 z → Bf B W1 W u r → r.length ≤ 140737488000000 → Calls Tryd.prog 40 #[u, .int .i64 z, .int .i64 10] W fun e w' => ∃ v', e = .returned v' ∧ Bf B W1 w' v' (r ++ Lib.itoa z)) := fun z W u r hz h hr =>
    appendInt_any B W1 W u r z hz h (ht1.on h.2.1) hr
  have HB : Hid (Bf B W1 W1 v l) := hb1.base
  by_cases hxy : y = x
  · have hq : (y != x) = false := by simp [hxy]
    have HS : Hid (spanT x y = Lib.itoa x) := by show spanT x y = Lib.itoa x; rw [spanT, if_pos hxy]
    clear hxy hb hb1 ht ht1 hbox
    go_enter Tryd.func30, Tryd.ntmps30
    go_wp2_with fail
    clear hW1
    refine (HA.out x _ _ _ hx HB.out (by omega)).mono ?_
    rintro e w1 ⟨v1, rfl, hb2⟩
    obtain ⟨z0, z1⟩ := HX.out w1 _ _ hb2
    go_wp2_with fail
    go_ret
    exact ⟨_, rfl, by rw [HS.out]; exact HB1.out.over hb2⟩
  · have hq : (y != x) = true := by simp [hxy]
    have HS : Hid (spanT x y = Lib.itoa x ++ [45] ++ Lib.itoa y) := by show spanT x y = _; rw [spanT, if_neg hxy]
    clear hxy hb hb1 ht ht1 hbox
    go_enter Tryd.func30, Tryd.ntmps30
    go_wp2_with fail
    clear hW1
    refine (HA.out x _ _ _ hx HB.out (by omega)).mono ?_
    rintro e w1 ⟨v1, rfl, hb2⟩
    obtain ⟨z0, z1⟩ := HX.out w1 _ _ hb2
    have HB2 : Hid (Bf B W1 w1 v1 (l ++ Lib.itoa x)) := hb2
    clear hb2
    go_wp2_with (at_builtin; refine wp_byte 45 _ rfl HB2.out rfl _ _ rfl rfl rfl rfl (by simp; omega) ?_; intro v2 w2 hb3; refine Hid.out ?_)
    refine Lib.hid ?_
    obtain ⟨y0, y1⟩ := HX.out w2 _ _ hb3
    have HB3 : Hid (Bf B W1 w2 v2 (l ++ Lib.itoa x ++ [45])) := hb3
    clear hb3
    go_wp2_with fail
    refine (HA.out y _ _ _ hy HB3.out (by simp; omega)).mono ?_
    rintro e w3 ⟨v3, rfl, hb4⟩
    go_wp2_with fail
    go_ret
    exact ⟨_, rfl, by rw [HS.out]; simpa [List.append_assoc] using HB1.out.over hb4⟩

theorem joinT_app (L H : Nat → Int) (k : Nat) : joinT L H (k + 1) = (if k = 0 then joinT L H k else joinT L H k ++ [44]) ++ spanT (L k) (H k) := by
  by_cases e : k = 0
  · subst e; simp [joinT_one, joinT_zero]
  · rw [joinT_succ L H k (by omega), if_neg e]

set_option maxRecDepth 100000 in
set_option maxHeartbeats 1000000 in
theorem addSet_any (B : Nat) (W0 w : World) (v : Value) (l : List UInt8) (a : Option Addr) (b off cap n : Nat) (L H : Nat → Int) (hga : 0 < n → a = some ⟨b, off, none⟩ ∧ b < B) (hsp : Sp w b off n L H) (hin : ∀ i, i < n → In64 (L i) ∧ In64 (H i)) (hn : n ≤ 4194304)
    (hb : Bf B W0 w v l) (ht : Tab B w) (hlen : l.length ≤ 140700000000000) :
    Calls Tryd.prog 23 #[v, .slice a n cap] w fun e w' => ∃ v', e = .returned v' ∧ Bf B W0 w' v' (l ++ setT n L H) := by
  by_cases h0 : n = 0
  · subst h0
    have HB : Hid (Bf B W0 w v l) := hb
    clear hb
    go_enter Tryd.func23, Tryd.ntmps23
    go_wp2_with (at_builtin; refine wp_text ⟨#[110, 111]⟩ HB.out rfl _ _ rfl rfl rfl (by show l.length + 2 ≤ _; omega) ?_; intro v2 w2 hb3; refine Hid.out ?_)
    refine Lib.hid ?_
    go_wp2_with fail
    go_ret
    exact ⟨_, rfl, by simpa [setT, tx] using hb3⟩
  · have h0z : ¬ (n : Int) = 0 := by omega
    obtain ⟨rfl, hbB⟩ := hga (by omega)
    have HB : Hid (Bf B w w v l) := hb.base
    have HB0 : Hid (Bf B W0 w v l) := hb
    have HT : Hid (Tab B w) := ht
    have HSP : Hid (∀ W, Below B w W → Sp W b off n L H) := fun W hbw => hsp.keep (B := fun k => k < B) (fun _ => hbB) (fun k hk _ => hbw.block k hk)
    clear hb ht hsp
    go_enter Tryd.func23, Tryd.ntmps23
    go_wp2_with fail
    go_loopw [0, 14] (fun t i wr => ∃ (k : Nat) (tv : Value), k ≤ n ∧ i = .int .i64 k ∧ tv = t ∧ Hid (Bf B w wr tv (l ++ joinT L H k))) (fun _ i _ => n - (intOf i).toNat)
    case atStart => exact ⟨0, _, Nat.zero_le _, rfl, rfl, by rw [joinT_zero, List.append_nil]; exact HB.out⟩
    case round =>
      obtain ⟨k, tv, hk', rfl, rfl, HK⟩ := hrel
      by_cases hlt : k < n
      · have hltz : (k : Int) < (n : Int) := by omega
        obtain ⟨c1, c2⟩ := (HSP.out wr HK.out.2.1) k hlt
        obtain ⟨i1, i2⟩ := hin k hlt
        have hjl := joinT_len L H k (fun i hi => hin i (by omega))
        have HK1 : Hid (Bf B w (wr.alloc (.cells #[.int .i64 (L k), .int .i64 (H k)] 34)) tv (l ++ joinT L H k)) := HK.out.alloc _
        have HA : Hid (∀ (W : World) (u : Value) (r : List UInt8), Bf B w W u r → r.length ≤ 140737480000000 → Calls Tryd.prog 30 #[u, .agg #[.int .i64 (L k), .int .i64 (H k)]] W fun e w' => ∃ v', e = .returned v' ∧ Bf B w w' v' (r ++ spanT (L k) (H k))) := fun W u r h hr => addSpan_any B w W u r (L k) (H k) i1 i2 h (HT.out.on h.2.1) hr
        by_cases hk0 : k = 0
        · have hz : ¬ ((0 : Int) < (k : Int)) := by omega
          have HJ : Hid (joinT L H (k + 1) = joinT L H k ++ spanT (L k) (H k)) := by rw [Hid, joinT_app, if_pos hk0]
          clear hk0
          go_wp2_with fail
          refine (HA.out _ _ _ HK1.out (by simp; omega)).mono ?_
          rintro e w2 ⟨v2, rfl, hb2⟩
          have HB2 : Hid _ := hb2
          clear hb2
          go_wp2_with fail
          go_roundw
          case rel => exact ⟨k + 1, _, by omega, by go_num, rfl, by rw [HJ.out, ← List.append_assoc]; exact HB2.out⟩
          case measure => simp [intOf]; omega
        · have hz : ((0 : Int) < (k : Int)) := by omega
          have HJ : Hid (joinT L H (k + 1) = joinT L H k ++ [44] ++ spanT (L k) (H k)) := by rw [Hid, joinT_app, if_neg hk0]
          clear hk0
          have hbox : (wr.alloc (.cells #[.int .i64 (L k), .int .i64 (H k)] 34)).heap[wr.heap.size]? = some (.cells #[.int .i64 (L k), .int .i64 (H k)] 34 (0, 0)) := alloc_new wr _
          have HX : Hid (∀ (W : World) (u : Value) (r : List UInt8), Bf B (wr.alloc (.cells #[.int .i64 (L k), .int .i64 (H k)] 34)) W u r → W.cell? ⟨wr.heap.size, 0, none⟩ = some (.int .i64 (L k)) ∧ W.cell? ⟨wr.heap.size, 1, none⟩ = some (.int .i64 (H k))) := fun W u r h =>
            ⟨h.cell hbox (by decide) (boxCell hbox rfl), h.cell hbox (by decide) (boxCell hbox rfl)⟩
          clear hbox
          go_wp2_with (at_builtin; refine wp_byte 44 _ rfl HK1.out.base rfl _ _ rfl rfl rfl (by simp) (by simp; omega) ?_; intro v2 w2 hb3; refine Hid.out ?_)
          refine Lib.hid ?_
          obtain ⟨y0, y1⟩ := HX.out w2 _ _ hb3
          have HB3 : Hid (Bf B w w2 v2 (l ++ joinT L H k ++ [44])) := HK1.out.over hb3
          clear hb3
          go_wp2_with fail
          refine (HA.out _ _ _ HB3.out (by simp; omega)).mono ?_
          rintro e w3 ⟨v3, rfl, hb4⟩
          have HB4 : Hid _ := hb4
          clear hb4
          go_wp2_with fail
          go_roundw
          case rel => exact ⟨k + 1, _, by omega, by go_num, rfl, by rw [HJ.out, ← List.append_assoc, ← List.append_assoc]; exact HB4.out⟩
          case measure => simp [intOf]; omega
      · obtain rfl : k = n := by omega
        go_wp2_with fail
        go_ret
        exact ⟨_, rfl, HB0.out.over (by rw [setT, if_neg h0]; exact HK.out)⟩

theorem setT_ne (n : Nat) (L H : Nat → Int) : setT n L H ≠ [] := by
  unfold setT
  by_cases h : n = 0
  · rw [if_pos h]; simp
  · rw [if_neg h]; exact joinT_ne L H n (by omega)

set_option maxHeartbeats 1000000 in
theorem implSetText_any (a : Option Addr) (b off cap n : Nat) (L H : Nat → Int) (w : World) (hga : 0 < n → a = some ⟨b, off, none⟩) (hsp : Sp w b off n L H) (hin : ∀ i, i < n → In64 (L i) ∧ In64 (H i)) (hn : n ≤ 4194304) (ht : Tab w.heap.size w) :
    Calls Tryd.prog 17 #[.slice a n cap] w fun e w' => ∃ s, e = .returned (.string s) ∧ tx s = setT n L H ∧ Below w.heap.size w w' := by
  have HC : Hid (Calls Tryd.prog 23 #[.slice none 0 0, .slice a n cap] w fun e w' => ∃ v', e = .returned v' ∧ Bf w.heap.size w w' v' ([] ++ setT n L H)) :=
    addSet_any w.heap.size w w (.slice none 0 0) [] a b off cap n L H (fun h => ⟨hga h, World.block_lt_of_cell? _ _ (hsp 0 h).1⟩) hsp hin hn (Bf.nil (Nat.le_refl _)) ht (by simp)
  go_enter Tryd.func17, Tryd.ntmps17
  go_wp2_with fail
  refine HC.out.mono ?_
  rintro e w1 ⟨v1, rfl, hb⟩
  rw [List.nil_append] at hb
  have hcv := hb.conv (setT_ne n L H)
  have HB : Hid _ := hb
  clear hb
  go_wp2_with fail
  go_ret
  exact ⟨_, rfl, by simp [tx], HB.out.2.1⟩
end Go.Proofs.YthapckfahfnpjaaDoor

