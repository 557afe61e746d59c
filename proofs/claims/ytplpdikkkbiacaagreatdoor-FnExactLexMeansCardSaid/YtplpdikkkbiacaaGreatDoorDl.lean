/- A copy of a set, as one step of a region that draws; a Rex of a kind, a set and kids. -/
import Derived.Test.YtplpdikkkbiacaaGreatDoorUc
import Derived.Test.YtplpdikkkbiacaaGreatDoorTe
import Derived.Test.YtplpdikkkbiacaaGreatDoorUg
import Derived.Test.YtplpdikkkbiacaaGreatDoorUh
import Derived.Test.YtplpdikkkbiacaaGreatDoorXo
import Derived.Test.YtplpdikkkbiacaaGreatDoorXt
import Derived.Test.YtplpdikkkbiacaaGreatDoorXu
import Derived.Test.YtplpdikkkbiacaaGreatDoorMb
import Derived.Test.YtplpdikkkbiacaaGreatDoorWc
import Derived.Lib.ItoaLen
import Derived.Lib.ItoaNum
import Derived.Laws.IdiomStrings
import Derived.Test.YtplpdikkkbiacaaGreatDoorXs
import Derived.Test.YtplpdikkkbiacaaGreatDoorJn
import Derived.Shelf.Abstract
namespace Go.Proofs.YtplpdikkkbiacaaGreatDoor
open Go.RowKit
set_option linter.unusedVariables false
set_option linter.unusedSimpArgs false

set_option maxHeartbeats 1000000 in
theorem eqRule_same (s : ByteArray) (S : Sh) (M M' : Mx) (w : World) (h : In AnyB w S M) (h' : In AnyB w S M') (hcnt : cnt S ≤ 1048576) :
    Calls Tryz.prog 24 #[rv s S M, rv s S M'] w fun e w' => e = .returned (.bool true) ∧ Below w.heap.size w w' := by
  obtain ⟨a, n, c, a', m, c', es, ek⟩ := h.slices
  obtain ⟨a2, n2, c2, a2', m2, c2', es2, ek2⟩ := h'.slices
  have H1 : Hid (∀ w1, Below w.heap.size w w1 → Calls Tryz.prog 38 #[vx S M, vx S M'] w1 fun e w' => e = .returned (.bool true) ∧ Below w1.heap.size w1 w') := fun w1 hb1 => eqRex_same S M M' w1 (h.below hb1) (h'.below hb1) hcnt
  rw [vx, vx, es, ek, es2, ek2] at H1
  rw [rv, rv, es, ek, es2, ek2]
  clear es ek es2 ek2 h h'
  have hB0 : Below w.heap.size w ((w.alloc (.cells #[.string s, .int .i64 S.kind, .slice a n c, .slice a' m c'] 52)).alloc (.cells #[.string s, .int .i64 S.kind, .slice a2 n2 c2, .slice a2' m2 c2'] 52)) := ((Below.refl _ _).alloc (Nat.le_refl _) _).alloc (by simp) _
  go_enter Tryz.func24, Tryz.ntmps24
  go_wp2_with fail
  refine (H1.out _ hB0).mono ?_
  rintro e w1 ⟨rfl, hb1⟩
  go_wp2_with fail
  go_ret
  exact ⟨rfl, hB0.trans (hb1.mono hB0.size)⟩

set_option maxHeartbeats 1000000 in
theorem eqRuleS_same (n : Nat) (N : Nat → ByteArray) (K : Nat → Sh) (M M' : Nat → Mx) (hn : n ≤ 1048576) (hc : ∀ i, i < n → cnt (K i) ≤ 1048576)
    (a : Option Addr) (b off cap : Nat) (a' : Option Addr) (b' off' cap' : Nat) (w : World) (hga : 0 < n → a = some ⟨b, off, none⟩) (hR : RulesIn AnyB w b off n N K M)
    (hga' : 0 < n → a' = some ⟨b', off', none⟩) (hR' : RulesIn AnyB w b' off' n N K M') :
    Calls Tryz.prog 9 #[.slice a n cap, .slice a' n cap'] w fun e w' => e = .returned (.bool true) ∧ Below w.heap.size w w' := by
  have hnn : ((n : Int) != (n : Int)) = false := by simp
  go_enter Tryz.func9, Tryz.ntmps9
  go_wp2_with fail
  go_loopw [5] (fun i wr => ∃ k : Nat, k ≤ n ∧ i = .int .i64 k ∧ Below w.heap.size w wr) (fun i _ => n - (intOf i).toNat)
  case atStart => exact ⟨0, Nat.zero_le _, rfl, Below.refl _ _⟩
  case round =>
    obtain ⟨k, hk', rfl, hB⟩ := hrel
    by_cases hlt : k < n
    · obtain rfl := hga (by omega)
      obtain rfl := hga' (by omega)
      have hltz : (k : Int) < (n : Int) := by omega
      obtain ⟨hat, hin⟩ := hR k hlt
      obtain ⟨hat', hin'⟩ := hR' k hlt
      obtain ⟨d0, d1, d2, d3⟩ := (hat.below hB).cells
      obtain ⟨y0, y1, y2, y3⟩ := (hat'.below hB).cells
      have HC : Hid (Calls Tryz.prog 24 #[rv (N k) (K k) (M k), rv (N k) (K k) (M' k)] wr.drew fun e w' => e = .returned (.bool true) ∧ Below wr.drew.heap.size wr.drew w') := eqRule_same _ _ _ _ wr.drew ((hin.below hB).below (Below.refl _ _).drew) ((hin'.below hB).below (Below.refl _ _).drew) (hc k hlt)
      clear hat hat' hin hin'
      simp only [rv] at HC
      go_wp2_with fail
      go_region_with (go_at_call 24; refine HC.out.mono ?_; rintro e w1 ⟨rfl, hb1⟩)
      all_goals go_wp2_with fail
      all_goals
        go_roundw
        case rel => exact ⟨k + 1, by omega, by go_num, hB.drew.trans (hb1.mono hB.size)⟩
        case measure => simp [intOf]; omega
    · go_wp2_with fail
      go_ret
      exact ⟨rfl, hB⟩
end Go.Proofs.YtplpdikkkbiacaaGreatDoor
namespace Go.Proofs.YtplpdikkkbiacaaGreatDoor
open Go.RowKit
set_option linter.unusedVariables false
set_option linter.unusedSimpArgs false

theorem areRules_nil (w : World) : Calls Tryz.prog 33 #[.nilIface] w fun e w' => e = .returned (.bool true) ∧ Below w.heap.size w w' := by
  go_enter Tryz.func33, Tryz.ntmps33
  go_wp2_with fail
  refine (as_nil _ _).mono ?_
  rintro e w1 ⟨rfl, rfl⟩
  go_wp2_with fail
  go_ret
  exact ⟨rfl, (Below.refl _ _).alloc (Nat.le_refl _) _⟩
theorem areRules_no (p : Int) (s : ByteArray) (w : World) (hg : ErrTy w) : Calls Tryz.prog 33 #[.iface 85 (.agg #[.int .i64 p, .string s])] w fun e w' => e = .returned (.bool false) ∧ Below w.heap.size w w' := by
  have hb0 : Below w.heap.size w (w.alloc (.cells #[.int .i64 0, .string ⟨#[]⟩] 85)) := (Below.refl _ _).alloc (Nat.le_refl _) _
  have HA : Hid (Calls Tryz.prog 46 #[.iface 85 (.agg #[.int .i64 p, .string s]), .iface 87 (.pointer (some ⟨w.heap.size, 0, none⟩))] (w.alloc (.cells #[.int .i64 0, .string ⟨#[]⟩] 85))
      fun e w' => e = .returned (.bool true) ∧ Below w.heap.size (w.alloc (.cells #[.int .i64 0, .string ⟨#[]⟩] 85)) w') :=
    as_hit p s w.heap.size (.int .i64 0) (.string ⟨#[]⟩) _ (hg.below hb0) (by simp [go_sem]) (by simp [go_sem]) (fun o => by simp [go_sem])
  go_enter Tryz.func33, Tryz.ntmps33
  go_wp2_with fail
  refine HA.out.mono ?_
  rintro e w1 ⟨rfl, hb1⟩
  go_wp2_with fail
  go_ret
  exact ⟨rfl, hb0.trans hb1⟩

set_option maxHeartbeats 1000000 in
theorem implRulesOk_any (a : Option Addr) (b off n cap : Nat) (N : Nat → ByteArray) (K : Nat → Sh) (M : Nat → Mx) (w : World) (t : TypeId) (ea : Addr) (hE : Err w t ea) (hG : ErrTy w) (hga : 0 < n → a = some ⟨b, off, none⟩) (hR : RulesIn AnyB w b off n N K M) (hn : n ≤ 1048576)
    (hN : ∀ i, i < n → (N i).size ≤ 1048576) (hc : ∀ i, i < n → cnt (K i) ≤ 1048576) :
    Calls Tryz.prog 18 #[.slice a n cap] w (RulesRes n N K w) := by
  have HC : Hid (Calls Tryz.prog 34 #[.slice a n cap] w (ErrRes n N K w)) := checkRules_any a b off n cap N K M w t ea hE hga hR hn hN hc
  go_enter Tryz.func18, Tryz.ntmps18
  go_wp2_with fail
  refine HC.out.mono ?_
  rintro e w1 ⟨⟨hgood, rfl⟩ | ⟨hbad, p, s, rfl⟩, hb1⟩
  · go_wp2_with fail
    refine (areRules_nil _).mono ?_
    rintro e w2 ⟨rfl, hb2⟩
    go_wp2_with fail
    go_ret
    exact .yes hgood (hb1.trans (hb2.mono hb1.size))
  · go_wp2_with fail
    refine (areRules_no p s _ (hG.below hb1)).mono ?_
    rintro e w2 ⟨rfl, hb2⟩
    go_wp2_with fail
    go_ret
    exact .no hbad (hb1.trans (hb2.mono hb1.size))

theorem cntS_at {N : Nat → ByteArray} {K : Nat → Sh} {n i : Nat} (h : i < n) : (N i).size ≤ cntS N K n ∧ cnt (K i) ≤ cntS N K n := by
  have := sumN_at (f := fun i => cntU (N i) (K i)) h
  simp only [cntU] at this
  have e : cntS N K n = sumN (fun i => (N i).size + cnt (K i)) n := rfl
  omega
end Go.Proofs.YtplpdikkkbiacaaGreatDoor
namespace Go.Proofs.YtplpdikkkbiacaaGreatDoor
open Go.RowKit
set_option linter.unusedVariables false
set_option linter.unusedSimpArgs false

set_option maxRecDepth 100000 in
set_option maxHeartbeats 4000000 in
theorem implLexMeans_any (a : Option Addr) (b off n cap : Nat) (N : Nat → ByteArray) (K : Nat → Sh) (M : Nat → Mx) (t : ByteArray) (w : World) (ty : TypeId) (ea : Addr) (hE : Err w ty ea) (hG : ErrTy w) (hga : 0 < n → a = some ⟨b, off, none⟩) (hR : RulesIn AnyB w b off n N K M) (hn : n ≤ 1048576)
    (hN : ∀ i, i < n → (N i).size ≤ 1048576) (hc : ∀ i, i < n → cnt (K i) ≤ 1048576) (ht : t.size ≤ 4611686018427387904) :
    Calls Tryz.prog 7 #[.slice a n cap, .string t] w (TokRes (MeansR n N K t) w) := by
  obtain ⟨W0, hW0⟩ : ∃ W0, W0 = (w.alloc (.cells #[.slice a n cap] 27)).alloc (.cells #[.string t] 9) := ⟨_, rfl⟩
  have hb0 : Below w.heap.size w W0 := by rw [hW0]; exact ((Below.refl _ _).alloc (Nat.le_refl _) _).alloc (by simp) _
  have HX : Hid (∀ V, Below W0.heap.size W0 V → V.cell? ⟨w.heap.size, 0, none⟩ = some (.slice a n cap) ∧ V.cell? ⟨w.heap.size + 1, 0, none⟩ = some (.string t)) := fun V hV => by
    refine ⟨((bcell hV).1 _ _ (by rw [hW0]; simp; omega)).trans ?_, ((bcell hV).1 _ _ (by rw [hW0]; simp)).trans ?_⟩ <;> (rw [hW0]; simp [go_sem])
  have H1 : Hid (Calls Tryz.prog 18 #[.slice a n cap] W0 (RulesRes n N K W0)) := implRulesOk_any a b off n cap N K M W0 ty ea (hE.below hb0) (hG.below hb0) hga (hR.below hb0) hn hN hc
  have H3 : Hid (∀ V, Calls Tryz.prog 19 #[.string t] V fun e w' => e = .returned (.bool (decide ((t.size : Int) ≤ 12))) ∧ w' = V) := implWord_any t
  have HFD : Hid (∀ (V : World) (c : Nat), Below W0.heap.size W0 V → n ≤ 5 → t.size ≤ 12 → c ≤ t.size → Calls Tryz.prog 21 (#[.int .i64 c] ++ #[.pointer (some ⟨w.heap.size, 0, none⟩), .pointer (some ⟨w.heap.size + 1, 0, none⟩)]) V fun e w' => (∃ r x : Int, e = .returned (.agg #[.int .i64 r, .int .i64 c, .int .i64 x]) ∧ BestV n K t c r x) ∧ Below V.heap.size V w') := fun V c hV h5 h12 hct => by
    have hwV := hb0.trans (hV.mono hb0.size)
    exact meansFind_any a b off n cap N K M t c w.heap.size (w.heap.size + 1) V ty ea (hE.below hwV) hga (hR.below hwV) h5 hc h12 hct (HX.out V hV).1 (HX.out V hV).2
  have HB0 : Hid (Below w.heap.size w W0) := hb0
  have hs0 : w.heap.size + 1 < W0.heap.size := by rw [hW0]; simp
  clear hR hN hc hga hE hG
  go_enter Tryz.func7, Tryz.ntmps7
  go_wp2_with fail
  rw [← hW0]
  clear hW0 hb0
  refine H1.out.mono ?_
  rintro e w1 ⟨ok, rfl, hok, hb1⟩
  have HOK : Hid (ok = true ↔ RulesGood n N K) := hok
  obtain ⟨p0, p1⟩ := HX.out _ hb1
  have HB1 : Hid (Below w.heap.size w w1) := HB0.out.trans (hb1.mono HB0.out.size)
  have HW1 : Hid (Below W0.heap.size W0 w1) := hb1
  clear hok hb1
  cases ok
  · go_wp2_with fail
    refine bodyPost_ret (v := .tuple #[.slice none 0 0, .int .i64 0]) (by simp [results, Tryz.results7, go_sem]) rfl ?_
    exact .nil (.inr ⟨.inl (fun h => by have := HOK.out.2 h; cases this), rfl, rfl⟩) HB1.out
  have HD : Hid (RulesGood n N K) := HOK.out.1 rfl
  have h5 : n ≤ 5 := HD.out.2.1
  by_cases c1 : 12 < t.size
  · have c1z : decide ((t.size : Int) ≤ 12) = false := decide_eq_false (by omega)
    rw [c1z] at H3
    go_wp2_with fail
    refine (H3.out _).mono ?_
    rintro e w2 ⟨rfl, hw2⟩
    subst w2
    go_wp2_with fail
    refine bodyPost_ret (v := .tuple #[.slice none 0 0, .int .i64 0]) (by simp [results, Tryz.results7, go_sem]) rfl ?_
    exact .nil (.inr ⟨.inr c1, rfl, rfl⟩) HB1.out
  have c1z : decide ((t.size : Int) ≤ 12) = true := decide_eq_true (by omega)
  rw [c1z] at H3
  have hl12 : t.size ≤ 12 := by omega
  have HCUT : Hid (Calls Tryz.prog 20 #[.string t, .func (.func 21) #[] #[.pointer (some ⟨w.heap.size, 0, none⟩), .pointer (some ⟨w.heap.size + 1, 0, none⟩)]] w1 fun e W' => ∃ (v : Value) (L : List Tk) (c : Nat), e = .returned (.tuple #[v, .int .i64 c]) ∧ CutEnd (BestV n K t) t.size L c ∧ W'.ownsRow w1.heap.size 46 3 v L.length (cellsT L) ∧ Below w1.heap.size w1 W') :=
    cut_any 21 _ t (BestV n K t) (bestV_finds h5 K t) (by omega) w1 (enters_of Tryz.func21 (by kernel_rfl) rfl) (fun V c hV hct => HFD.out V c (HW1.out.trans (hV.mono HW1.out.size)) h5 hl12 hct)
  clear c1 c1z HFD
  go_wp2_with fail
  refine (H3.out _).mono ?_
  rintro e w2 ⟨rfl, hw2⟩
  subst w2
  go_wp2_with fail
  refine HCUT.out.mono ?_
  rintro e w4 ⟨v, L, c, rfl, hcut, hown, hb4⟩
  have HE : Hid (MeansR n N K t L c) := .inl ⟨HD.out, hl12, hcut⟩
  have HO : Hid (w4.ownsRow w1.heap.size 46 3 v L.length (cellsT L)) := hown
  have HB4 : Hid (Below w.heap.size w w4) := HB1.out.trans (hb4.mono HB1.out.size)
  clear hcut hown hb4 HCUT
  go_wp2_with fail
  refine bodyPost_ret (v := .tuple #[v, .int .i64 c]) (by simp [results, Tryz.results7, go_sem]) rfl ?_
  exact ⟨v, L, c, rfl, HE.out, own_downT HO.out HB1.out.size, HB4.out⟩
end Go.Proofs.YtplpdikkkbiacaaGreatDoor
namespace Go.Proofs.YtplpdikkkbiacaaGreatDoor
open Go.RowKit
set_option linter.unusedVariables false
set_option linter.unusedSimpArgs false

/-- a text of one byte -/
def ch (v : Int) : ByteArray := ⟨#[UInt8.ofNat v.toNat]⟩
theorem ch_size (v : Int) : (ch v).size = 1 := rfl
theorem conv_one (v : Int) (h0 : 0 ≤ v) (h1 : v < 256) (w : World) :
    (convert 74 9 (.slice (some ⟨w.heap.size, 0, none⟩) 1 1)).run Tryz.prog (w.alloc (.cells #[.int .u8 v] 5)) = .ok (.string (ch v)) (w.alloc (.cells #[.int .u8 v] 5)) := by
  have h := run_convert_bytes_back (P := Tryz.prog) (w.alloc (.cells #[.int .u8 v] 5)) 74 9 5 ⟨w.heap.size, 0, none⟩ 1 [UInt8.ofNat v.toNat] Tryz.underlying74 Tryz.underlying5 Tryz.underlying9 (fun j hj => by
    have : j = 0 := by simpa using hj
    subst this
    simp [Addr.add]
    omega)
  exact h

end Go.Proofs.YtplpdikkkbiacaaGreatDoor
namespace Go.Proofs.YtplpdikkkbiacaaGreatDoor
open Go.RowKit
set_option linter.unusedVariables false
set_option linter.unusedSimpArgs false

set_option maxRecDepth 100000 in
set_option maxHeartbeats 1000000 in
theorem markText_any (k0 : Int) (w : World) (h0 : 0 ≤ k0) (h1 : k0 ≤ 200000000) : Calls Tryz.prog 25 #[.int .i64 k0] w fun e w' => (∃ s : ByteArray, e = .returned (.string s)) ∧ Below w.heap.size w w' := by
  by_cases hz : k0 ≤ 0
  · go_enter Tryz.func25, Tryz.ntmps25
    go_wp2_with fail
    go_ret
    exact ⟨⟨_, rfl⟩, Below.refl _ _⟩
  go_enter Tryz.func25, Tryz.ntmps25
  go_wp2_with fail
  go_loopw [0, 3] (fun x t wr => ∃ (k : Nat) (s : ByteArray), x = .int .i64 k ∧ t = .string s ∧ s.size + k ≤ 200000000 ∧ Below w.heap.size w wr) (fun x _ _ => (intOf x).toNat)
  case atStart => exact ⟨k0.toNat, ⟨#[]⟩, by rw [Int.toNat_of_nonneg h0], rfl, by show 0 + k0.toNat ≤ 200000000; omega, Below.refl _ _⟩
  case round =>
    obtain ⟨k, s, rfl, rfl, hs, hB⟩ := hrel
    by_cases hlt : 0 < k
    · have hltz : (0 : Int) < (k : Int) := by omega
      have hcv := conv_one (48 + (k : Int) % 10) (by omega) (by omega)
      have hcs := ch_size (48 + (k : Int) % 10)
      go_wp2
      go_roundw
      case rel => exact ⟨k / 10, ch (48 + (k : Int) % 10) ++ s, by go_num, rfl, by rw [ByteArray.size_append, ch_size]; omega, hB.alloc hB.size _⟩
      case measure => simp [intOf]; omega
    · have hltz : ¬ (0 : Int) < (k : Int) := by omega
      go_wp2_with fail
      go_ret
      exact ⟨⟨_, rfl⟩, hB⟩
end Go.Proofs.YtplpdikkkbiacaaGreatDoor
namespace Go.Proofs.YtplpdikkkbiacaaGreatDoor
open Go.RowKit
set_option linter.unusedVariables false
set_option linter.unusedSimpArgs false

abbrev SetV : Type := Nat × (Nat → Int) × (Nat → Int)
def cellsV (s : SetV) : List Value := (List.range (s.1 * 2)).map (flat s.2.1 s.2.2)
theorem SetIn.of_cells {w : World} {base : Nat} {v : Value} {n : Nat} {L H : Nat → Int} (h : w.ownsRow base 76 2 v n (cellsV (n, L, H))) : SetIn (fun k => base ≤ k ∧ Soft w k) w v n L H := by
  rcases h.2 with ⟨rfl, h0⟩ | ⟨g, cap, cur, rfl, h1, h2, h3, h4, h5, h6⟩
  · exact ⟨none, 0, 0, 0, by rw [h0], fun hh => by omega, fun i hi => by omega⟩
  · refine ⟨some ⟨g, 0, none⟩, g, 0, cap, rfl, fun _ => ⟨rfl, h1, cur, 76, h2⟩, fun i hi => ?_⟩
    have a1 := World.ownsRow.cellAt h (i * 2) (by omega)
    have a2 := World.ownsRow.cellAt h (i * 2 + 1) (by omega)
    simp only [cellsV, List.getElem?_map, List.getElem?_range (show i * 2 < n * 2 by omega), List.getElem?_range (show i * 2 + 1 < n * 2 by omega), Option.map_some, flat_even, flat_odd] at a1 a2
    exact ⟨by simpa using a1, by simpa using a2⟩

end Go.Proofs.YtplpdikkkbiacaaGreatDoor

