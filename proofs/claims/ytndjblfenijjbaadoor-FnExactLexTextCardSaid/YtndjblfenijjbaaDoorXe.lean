/- the walks of tokenText and of impl's LexText -/
import Derived.Test.YtndjblfenijjbaaDoorXd
import Derived.Test.YtndjblfenijjbaaDoorShG
import Derived.Test.YtndjblfenijjbaaDoorShH
import Derived.Lib.AppendIntMem
namespace Go.Proofs.YtndjblfenijjbaaDoor
open Go.RowKit
set_option linter.unusedVariables false
set_option linter.unusedSimpArgs false

/-- the name of the library's table of powers of ten, as the row has it -/
abbrev powNameX : String := ((Rows.fnExactLexTextRow.named.drop 0).headD "")
theorem gPowX : Tryd.prog.globalNamed powNameX = some 1 := by kernel_rfl
/-- that table lies where it must -/
def PowX (w : World) : Prop := 1 < w.heap.size ∧ Lib.TabIs Tryd.prog w powNameX .u64 Lib.pow10Tab
theorem PowX.below {w w' : World} (h : PowX w) (hb : Below w.heap.size w w') : PowX w' :=
  ⟨Nat.lt_of_lt_of_le h.1 hb.size, var?_below hb gPowX h.1 h.2⟩
theorem itoa_anyX (n : Int) (w : World) (hn : In64 n) (hp : PowX w) :
    Calls Tryd.prog 14 #[.int .i64 n] w fun e w' => ∃ s, e = .returned (.string s) ∧ tx s = Lib.itoa n ∧ Below w.heap.size w w' := by
  refine (show Calls Tryd.prog 14 #[.int .i64 n] w fun e w' => e = .returned (.string ⟨(Lib.itoa n).toArray⟩) ∧ ∃ k os, w' = Sort.grow (w.drewN k) os from Any.strconv_Itoa YtndjblfenijjbaaDoor.Tryd.laysM171 n hn.1 hn.2 w hp.2).mono ?_
  rintro e w' ⟨rfl, k, os, rfl⟩
  exact ⟨_, rfl, by simp [tx], Lib.below_grow _ _ (Nat.le_refl _) _ _⟩

/-- the text of a token, in bytes -/
def tkTB (k : Tk) : ByteArray := ⟨(tkT k).toArray⟩
theorem tx_tkTB (k : Tk) : tx (tkTB k) = tkT k := by simp [tx, tkTB]

set_option maxRecDepth 100000 in
set_option maxHeartbeats 4000000 in
theorem tokenText_any (x : Tk) (w : World) (hx : Tk64 x) (hp : PowX w) :
    Calls Tryd.prog 11 #[.agg #[.int .i64 x.r, .int .i64 x.f, .int .i64 x.t]] w fun e w' => e = .returned (.string (tkTB x)) ∧ Below w.heap.size w w' := by
  obtain ⟨W0, hW0⟩ : ∃ W0, W0 = w.alloc (.cells #[.int .i64 x.r, .int .i64 x.f, .int .i64 x.t] 31) := ⟨_, rfl⟩
  have hb0 : Below w.heap.size w W0 := by rw [hW0]; exact (Below.refl _ _).alloc (Nat.le_refl _) _
  have HB0 : Hid (Below w.heap.size w W0) := hb0
  have HCE : Hid (∀ V, Below W0.heap.size W0 V → V.cell? ⟨w.heap.size, 0, none⟩ = some (.int .i64 x.r) ∧ V.cell? ⟨w.heap.size, 1, none⟩ = some (.int .i64 x.f) ∧ V.cell? ⟨w.heap.size, 2, none⟩ = some (.int .i64 x.t)) := fun V hV =>
    ⟨(hV.cell (p := ⟨w.heap.size, 0, none⟩) (by rw [hW0]; simp)).trans (by rw [hW0]; simp [go_sem]), (hV.cell (p := ⟨w.heap.size, 1, none⟩) (by rw [hW0]; simp)).trans (by rw [hW0]; simp [go_sem]), (hV.cell (p := ⟨w.heap.size, 2, none⟩) (by rw [hW0]; simp)).trans (by rw [hW0]; simp [go_sem])⟩
  have HD : Hid (∀ y V, (y = x.r ∨ y = x.f ∨ y = x.t) → Below W0.heap.size W0 V → Calls Tryd.prog 14 #[.int .i64 y] V fun e w' => ∃ s, e = .returned (.string s) ∧ tx s = Lib.itoa y ∧ s.size ≤ 21 ∧ Below V.heap.size V w') := fun y V hy hV => by
    have hx64 : In64 y := by
      rcases hy with rfl | rfl | rfl
      · exact hx.1
      · exact hx.2.1
      · exact hx.2.2
    exact (itoa_anyX y V hx64 ((hp.below hb0).below hV)).mono fun e w' ⟨s, h1, h2, h3⟩ => ⟨s, h1, h2, size_of h2 (itoa_len y hx64), h3⟩
  clear hb0 hp hx
  go_enter Tryd.func11, Tryd.ntmps11
  go_wp2_with fail
  rw [← hW0]
  obtain ⟨c0, c1, c2⟩ := HCE.out W0 (Below.refl _ _)
  clear hW0
  have HBR : Hid (Below W0.heap.size W0 W0.drew) := (Below.refl _ _).drew
  go_region_held (fun V => V.cell? ⟨w.heap.size, 0, none⟩ = some (.int .i64 x.r) ∧ V.cell? ⟨w.heap.size, 1, none⟩ = some (.int .i64 x.f) ∧ V.cell? ⟨w.heap.size, 2, none⟩ = some (.int .i64 x.t)) (go_keep)
    (first
      | (go_at_call_of 14 (Value.int IntKind.i64 x.t); refine (HD.out _ w6 (.inr (.inr rfl)) HB6.out).mono ?_; rintro e w7 ⟨s3, rfl, hs3, hz3, hb7⟩; have HB7 : Hid (Below W0.heap.size W0 w7) := HB6.out.trans (hb7.mono HB6.out.size); have HS3 : Hid (tx s3 = Lib.itoa x.t) := hs3; clear hs3; obtain ⟨x0, x1, x2⟩ := HCE.out w7 HB7.out)
      | (go_at_call_of 14 (Value.int IntKind.i64 x.f); refine (HD.out _ w5 (.inr (.inl rfl)) HB5.out).mono ?_; rintro e w6 ⟨s2, rfl, hs2, hz2, hb6⟩; have HB6 : Hid (Below W0.heap.size W0 w6) := HB5.out.trans (hb6.mono HB5.out.size); have HS2 : Hid (tx s2 = Lib.itoa x.f) := hs2; clear hs2; obtain ⟨y0, y1, y2⟩ := HCE.out w6 HB6.out)
      | (go_at_call_of 14 (Value.int IntKind.i64 x.r); refine (HD.out _ W0.drew (.inl rfl) HBR.out).mono ?_; rintro e w5 ⟨s1, rfl, hs1, hz1, hb5⟩; have HB5 : Hid (Below W0.heap.size W0 w5) := HBR.out.trans hb5; have HS1 : Hid (tx s1 = Lib.itoa x.r) := hs1; clear hs1; obtain ⟨z0, z1, z2⟩ := HCE.out w5 HB5.out))
  all_goals go_wp2_with fail
  all_goals
    go_ret
    refine ⟨congrArg (fun z => Ending.returned (.string z)) (tx_inj ?_), HB0.out.trans (HB7.out.mono HB0.out.size)⟩
    rw [tx_tkTB]
    simp only [tx_append, HS1.out, HS2.out, HS3.out, tkT]
    simp [tx]

theorem Tryd.infoStr : (Tryd.prog.info? 9).map (fun i => (i.zero, i.size, i.bytes)) = some (some (.string ⟨#[]⟩), 1, 16) := by kernel_rfl
theorem makeStr (n : Nat) (hn : n ≤ 1048576) (w : World) : (Instr.makeSlice 34 (.int .i64 n) (.int .i64 n)).run Tryd.prog w = .ok (.slice (some ⟨w.heap.size, 0, none⟩) n n) (w.alloc (.cells (madeCells #[.string ⟨#[]⟩] n) 9)) := by
  obtain ⟨i0, hi, hz0, hz1, hz2⟩ := info_parts Tryd.infoStr
  have h := run_make (P := Tryd.prog) w 34 9 i0 _ Tryd.underlying34 hi hz0 .i64 .i64 n n (by omega) (by omega) (by rw [hz2]; omega) (by omega)
  rw [hz1] at h
  simpa [Value.cells] using h
theorem made_rowT (w : World) (n : Nat) (K : Nat → Tk) : (w.alloc (.cells (madeCells #[.string ⟨#[]⟩] n) 9)).rowIs w.heap.size 9 n (fun j => if j < 0 then .string (tkTB (K j)) else .string ⟨#[]⟩) := by
  have h := World.rowIs_alloc w (madeCells #[.string ⟨#[]⟩] n) 9 (fun _ => .string ⟨#[]⟩) (fun i hi => by
    rw [size_madeCells] at hi
    simp only [madeCells, Array.getElem?_map]
    rw [Array.getElem?_range, if_pos hi]
    simp [Nat.mod_one])
  rw [size_madeCells] at h
  exact h.congr (fun i _ => by simp)
theorem rowT_step {w : World} {b n k : Nat} {K : Nat → Tk} (h : w.rowIs b 9 n (fun j => if j < k then .string (tkTB (K j)) else .string ⟨#[]⟩)) :
    (w.setCell ⟨b, k, none⟩ (.string (tkTB (K k)))).rowIs b 9 n (fun j => if j < k + 1 then .string (tkTB (K j)) else .string ⟨#[]⟩) := by
  refine (h.set k _).congr (fun j _ => ?_)
  by_cases e1 : j = k
  · subst e1
    rw [if_pos rfl, if_pos (by omega)]
  · rw [if_neg e1]
    by_cases e3 : j < k
    · rw [if_pos e3, if_pos (by omega)]
    · rw [if_neg e3, if_neg (by omega)]
theorem toks_map (K : Nat → Tk) (n : Nat) : ((List.range n).map (fun j => tkTB (K j))).map (·.data.toList) = toksT K n := by
  rw [List.map_map]
  rfl

theorem joinX_any (bk n : Nat) (K : Nat → Tk) (w : World) (hrow : w.rowIs bk 9 n (fun j => .string (tkTB (K j)))) (hin : ∀ i, i < n → Tk64 (K i)) (hn : n ≤ 1048576) :
    Calls Tryd.prog 12 #[.slice (some ⟨bk, 0, none⟩) n n, .string ⟨#[32]⟩] w fun e w' => ∃ s, e = .returned (.string s) ∧ tx s = lexT K n ∧ Below w.heap.size w w' := by
  have hl : ((List.range n).map (fun j => tkTB (K j))).length = n := by simp
  have hj := lexT_len K n hin
  have h := Any.strings_Join YtndjblfenijjbaaDoor.Tryd.lays156 YtndjblfenijjbaaDoor.Tryd.Builder_Extra_156 bk 0 n ((List.range n).map (fun j => tkTB (K j))) ⟨#[32]⟩ w
    (fun j x hx => by
      rw [List.getElem?_map] at hx
      by_cases hjn : j < n
      · rw [List.getElem?_range hjn] at hx
        obtain rfl := Option.some.inj hx
        rw [Nat.zero_add]
        exact hrow.cell hjn
      · rw [List.getElem?_eq_none (by simp; omega)] at hx
        cases hx)
    hrow.lt (by rw [hl]; omega) (by rw [hl]; exact Nat.le_refl _)
    (by rw [toks_map]; exact Nat.le_trans hj (by omega))
  rw [hl, toks_map] at h
  refine (show Calls Tryd.prog 12 #[.slice (some ⟨bk, 0, none⟩) n n, .string ⟨#[32]⟩] w fun e w' => e = .returned (.string ⟨(lexT K n).toArray⟩) ∧ Below w.heap.size w w' from h).mono ?_
  rintro e w' ⟨rfl, hb⟩
  exact ⟨_, rfl, by simp [tx], hb⟩

set_option maxRecDepth 100000 in
set_option maxHeartbeats 2000000 in
theorem implLexText_any (a : Option Addr) (b off cap n : Nat) (K : Nat → Tk) (w : World) (hp : PowX w) (hga : 0 < n → a = some ⟨b, off, none⟩) (hc : TkIn w b off n K) (hin : ∀ i, i < n → Tk64 (K i)) (hn : n ≤ 1048576) :
    Calls Tryd.prog 7 #[.slice a n cap] w fun e w' => ∃ s, e = .returned (.string s) ∧ tx s = lexT K n ∧ Below w.heap.size w w' := by
  have hmk := makeStr n hn
  have HP : Hid (∀ V, Below w.heap.size w V → PowX V) := fun V hV => hp.below hV
  have HC : Hid (∀ V, Below w.heap.size w V → TkIn V b off n K) := fun V hV => hc.below hV
  have H64 : Hid (∀ i, i < n → Tk64 (K i)) := hin
  clear hp hc hin
  go_enter Tryd.func7, Tryd.ntmps7
  go_wp2
  clear hmk
  go_loopw [11] (fun i wr => ∃ k : Nat, k ≤ n ∧ i = .int .i64 k ∧ wr.rowIs w.heap.size 9 n (fun j => if j < k then .string (tkTB (K j)) else .string ⟨#[]⟩) ∧ Below w.heap.size w wr) (fun i _ => n - (intOf i).toNat)
  case atStart => exact ⟨0, Nat.zero_le _, rfl, made_rowT w n K, (Below.refl _ _).alloc (Nat.le_refl _) _⟩
  case round =>
    obtain ⟨k, hk, rfl, hrow, hB⟩ := hrel
    by_cases hlt : k < n
    · obtain rfl := hga (by omega)
      have hltz : (k : Int) < (n : Int) := by omega
      obtain ⟨c1, c2, c3⟩ := HC.out wr hB k hlt
      go_wp2_with fail
      have hB0 : Below w.heap.size w (wr.alloc (.cells #[.int .i64 (K k).r, .int .i64 (K k).f, .int .i64 (K k).t] 31)) := hB.alloc hB.size _
      refine (tokenText_any (K k) _ (H64.out k hlt) (HP.out _ hB0)).mono ?_
      rintro e w1 ⟨rfl, hb1⟩
      have hrow1 := row_below (row_below hrow ((Below.refl _ _).alloc (Nat.le_refl _) _)) hb1
      have hB1 := hB0.trans (hb1.mono hB0.size)
      have e1 := hrow1.cell (i := k) (by omega)
      have f1 := hrow1.frozen k
      clear c1 c2 c3 hrow hb1 hB0
      go_wp2
      go_roundw
      case rel => exact ⟨k + 1, by omega, by go_num, rowT_step hrow1, hB1.setCell (by simp) _⟩
      case measure => simp [intOf]; omega
    · have hltz : ¬ ((k : Int) < (n : Int)) := by omega
      obtain rfl : k = n := by omega
      go_wp2_with fail
      refine (joinX_any w.heap.size k K wr (hrow.congr (fun j hj => by rw [if_pos hj])) H64.out hn).mono ?_
      rintro e w1 ⟨s1, rfl, hs1, hb1⟩
      go_wp2
      go_ret
      exact ⟨s1, rfl, hs1, hB.trans (hb1.mono hB.size)⟩
end Go.Proofs.YtndjblfenijjbaaDoor

