/- the walk of spanRead -/
import Derived.Test.YthapckfahfnpjaaDoorZd
import Derived.Test.YthapckfahfnpjaaDoorVb
import Derived.Test.YthapckfahfnpjaaDoorShC
import Derived.Test.YthapckfahfnpjaaDoorShD
import Derived.Test.YthapckfahfnpjaaDoorShE
import Derived.Lib.AtoiAllCases
import Derived.Lib.AtoiErrMem
namespace Go.Proofs.YthapckfahfnpjaaDoor
open Go.RowKit
set_option linter.unusedVariables false
set_option linter.unusedSimpArgs false

theorem gSyn : Tryd.prog.globalNamed "strconv.ErrSyntax" = some 1 := by kernel_rfl
theorem gRan : Tryd.prog.globalNamed "strconv.ErrRange" = some 2 := by kernel_rfl

/-- the library's variables lie where they must -/
def Env (w : World) : Prop := (5 < w.heap.size ∧ Tab w.heap.size w) ∧ (∃ m, w.cell? ⟨0, 0, none⟩ = some (.int .i64 m)) ∧ (∃ tp p, w.var? Tryd.prog "strconv.ErrSyntax" = some #[.iface tp p]) ∧ (∃ tp p, w.var? Tryd.prog "strconv.ErrRange" = some #[.iface tp p])
theorem Env.below {w w' : World} (h : Env w) (hb : Below w.heap.size w w') : Env w' := by
  obtain ⟨⟨h0, h1⟩, ⟨m, h2⟩, ⟨tp, p, h3⟩, ⟨tp', p', h4⟩⟩ := h
  exact ⟨⟨Nat.lt_of_lt_of_le h0 hb.size, (h1.on hb).up hb.size⟩, ⟨m, (hb.cell (p := ⟨0, 0, none⟩) (by show 0 < w.heap.size; omega)).trans h2⟩, ⟨tp, p, var?_below hb gSyn (by omega) h3⟩, ⟨tp', p', var?_below hb gRan (by omega) h4⟩⟩

/-- what comes of Atoi -/
def AtoiRes (s : ByteArray) (w : World) (e : Ending) (w' : World) : Prop :=
  ∃ (v : Int) (er : Value), e = .returned (.tuple #[.int .i64 v, er]) ∧ (er = .nilIface ∨ ∃ t a, er = .iface t (.pointer (some a))) ∧ In64 v ∧ (∀ u, u < 256 → tx s = Lib.decDigits u → v = (u : Int) ∧ er = .nilIface) ∧ Below w.heap.size w w'

theorem atoi_any (s : ByteArray) (hs : s.size ≤ 1048576) (w : World) (hE : Env w) : Calls Tryd.prog 22 #[.string s] w (AtoiRes s w) := by
  obtain ⟨_, _, ⟨tp, p, h3⟩, ⟨tp', p', h4⟩⟩ := hE
  have hgood : ∀ u, u < 256 → tx s = Lib.decDigits u → Lib.atoiAll s.data.toList = .ok (u : Int) := fun u hu e => by
    rw [show s.data.toList = Lib.decDigits u from e]; exact atoi_itoa u hu
  cases hr : Lib.atoiAll s.data.toList with
  | ok v =>
    refine (show Calls Tryd.prog 22 #[.string s] w _ from Any.strconv_Atoi_ok Tryd.laysC172 s (by omega) v hr w).mono ?_
    rintro e w' ⟨rfl, hw⟩
    refine ⟨v, .nilIface, rfl, .inl rfl, Lib.atoiAll_bounds hr, fun u hu e => ⟨?_, rfl⟩, ?_⟩
    · have := hgood u hu e
      rw [hr] at this
      injection this
    · rcases hw with rfl | ⟨t, rfl⟩
      · exact Below.refl _ _
      · exact Lib.bytesWorld_below _ _ _
  | «syntax» =>
    refine (show Calls Tryd.prog 22 #[.string s] w _ from Any.strconv_Atoi_syntax_var Tryd.laysC172 s (by omega) hr tp p w h3).mono ?_
    rintro e w' ⟨N, rfl, _, _, hb⟩
    exact ⟨_, _, rfl, .inr ⟨_, _, rfl⟩, by unfold In64; omega, fun u hu e => (by have := hgood u hu e; rw [hr] at this; cases this), hb⟩
  | range =>
    refine (show Calls Tryd.prog 22 #[.string s] w _ from Any.strconv_Atoi_range_var Tryd.laysC172 s (by omega) hr tp' p' w h4).mono ?_
    rintro e w' ⟨N, rfl, _, _, hb⟩
    exact ⟨_, _, rfl, .inr ⟨_, _, rfl⟩, Lib.atoiSat_bounds _, fun u hu e => (by have := hgood u hu e; rw [hr] at this; cases this), hb⟩

/-- what comes of Cut at a dash -/
def DashRes (s : ByteArray) (w : World) (e : Ending) (w' : World) : Prop :=
  ∃ (a b : ByteArray) (two : Bool), e = .returned (.tuple #[.string a, .string b, .bool two]) ∧ tx a = (Lib.cut (tx s) [45]).1 ∧ tx b = (Lib.cut (tx s) [45]).2.1 ∧ two = (Lib.cut (tx s) [45]).2.2 ∧ a.size ≤ s.size ∧ b.size ≤ s.size ∧ ∃ n, w' = w.drewN n
theorem dash_any (s : ByteArray) (hs : s.size ≤ 1048576) (w : World) (hE : Env w) : Calls Tryd.prog 21 #[.string s, .string ⟨#[45]⟩] w (DashRes s w) := by
  obtain ⟨_, ⟨m, hm⟩, _⟩ := hE
  refine (show Calls Tryd.prog 21 #[.string s, .string ⟨#[45]⟩] w _ from Any.strings_Cut { Tryd.laysM145 with } s ⟨#[45]⟩ m w (by omega) hm).mono ?_
  rintro e w' ⟨rfl, n, rfl⟩
  refine ⟨_, _, _, rfl, by simp [tx], by simp [tx], rfl, ?_, ?_, n, rfl⟩
  · show (Lib.cut (tx s) [45]).1.toArray.size ≤ s.size
    rw [tx_size, Lib.cut]
    split <;> simp <;> omega
  · show (Lib.cut (tx s) [45]).2.1.toArray.size ≤ s.size
    rw [tx_size, Lib.cut]
    split <;> simp <;> omega

/-- what comes of reading a span -/
def SpanRes (s : ByteArray) (w : World) (e : Ending) (w' : World) : Prop :=
  ∃ (x y : Int) (ok : Bool), e = .returned (.tuple #[.agg #[.int .i64 x, .int .i64 y], .bool ok]) ∧ In64 x ∧ In64 y ∧ (∀ x' y', By x' y' → tx s = spanT x' y' → (x, y) = (x', y') ∧ ok = true) ∧ Below w.heap.size w w'

theorem dash_one {s a b : ByteArray} (h : tx a = (Lib.cut (tx s) [45]).1 ∧ tx b = (Lib.cut (tx s) [45]).2.1 ∧ false = (Lib.cut (tx s) [45]).2.2) {x y : Int} (hb : By x y) (e : tx s = spanT x y) :
    x.toNat < 256 ∧ tx a = Lib.decDigits x.toNat ∧ y.toNat < 256 ∧ tx a = Lib.decDigits y.toNat ∧ (((x.toNat : Nat) : Int), ((y.toNat : Nat) : Int)) = (x, y) := by
  obtain ⟨u, v, rfl, rfl, h1, h2⟩ := hb.nat
  rw [e, cut_span h1 h2] at h
  by_cases hu : v = u
  · subst hu
    rw [if_pos rfl] at h
    exact ⟨by omega, by simpa using h.1, by omega, by simpa using h.1, by simp⟩
  · rw [if_neg hu] at h
    cases h.2.2
theorem dash_two {s a b : ByteArray} (h : tx a = (Lib.cut (tx s) [45]).1 ∧ tx b = (Lib.cut (tx s) [45]).2.1 ∧ true = (Lib.cut (tx s) [45]).2.2) {x y : Int} (hb : By x y) (e : tx s = spanT x y) :
    x.toNat < 256 ∧ tx a = Lib.decDigits x.toNat ∧ y.toNat < 256 ∧ tx b = Lib.decDigits y.toNat ∧ (((x.toNat : Nat) : Int), ((y.toNat : Nat) : Int)) = (x, y) := by
  obtain ⟨u, v, rfl, rfl, h1, h2⟩ := hb.nat
  rw [e, cut_span h1 h2] at h
  by_cases hu : v = u
  · rw [if_pos hu] at h
    cases h.2.2
  · rw [if_neg hu] at h
    exact ⟨by omega, by simpa using h.1, by omega, by simpa using h.2.1, by simp⟩

set_option maxRecDepth 100000 in
set_option maxHeartbeats 4000000 in
theorem spanRead_any (s : ByteArray) (hs : s.size ≤ 1048576) (w : World) (hE : Env w) : Calls Tryd.prog 15 #[.string s] w (SpanRes s w) := by
  have hB0 : Below w.heap.size w (w.alloc (.cells #[.int .i64 0, .int .i64 0] 34)) := (Below.refl _ _).alloc (Nat.le_refl _) _
  have hrow0 : (w.alloc (.cells #[.int .i64 0, .int .i64 0] 34)).rowIs w.heap.size 34 2 (fun _ => .int .i64 0) := World.rowIs_alloc w #[.int .i64 0, .int .i64 0] 34 (fun _ => .int .i64 0) (fun i hi => by
    have : i < 2 := hi
    match i with
    | 0 => rfl
    | 1 => rfl)
  go_enter Tryd.func15, Tryd.ntmps15
  go_wp2_with fail
  refine (dash_any s hs _ (hE.below hB0)).mono ?_
  rintro e w1 ⟨a, b, two, rfl, ha, hb, htwo, hal, hbl, nq, hw1⟩
  have hB1 : Below w.heap.size w w1 := by rw [hw1]; exact to_drewN nq hB0
  have hr1 : w1.rowIs w.heap.size 34 2 (fun _ => .int .i64 0) := by rw [hw1]; exact hrow0.of_block rfl
  clear hw1
  have hE1 : Env w1 := hE.below hB1
  have HA : Hid (tx a = (Lib.cut (tx s) [45]).1 ∧ tx b = (Lib.cut (tx s) [45]).2.1 ∧ two = (Lib.cut (tx s) [45]).2.2) := ⟨ha, hb, htwo⟩
  clear ha hb htwo
  cases two with
  | false =>
    go_wp2_with fail
    refine (atoi_any a (by omega) _ hE1).mono ?_
    rintro e w2 ⟨x, er, rfl, her, hx, hgx, hb2⟩
    have hB2 := hB1.trans (hb2.mono hB1.size)
    have hr2 := row_below hr1 hb2
    have hE2 := hE1.below hb2
    have HGX : Hid (In64 x ∧ ∀ u, u < 256 → tx a = Lib.decDigits u → x = (u : Int) ∧ er = .nilIface) := ⟨hx, hgx⟩
    have HER : Hid (er = .nilIface ∨ ∃ t a, er = .iface t (.pointer (some a))) := her
    clear hr1 hE1 hb2 hx hgx her
    go_wp2_with fail
    refine (atoi_any a (by omega) _ hE2).mono ?_
    rintro e w3 ⟨y, er2, rfl, her2, hy, hgy, hb3⟩
    have hB3 := hB2.trans (hb3.mono hB2.size)
    have hr3 := row_below hr2 hb3
    have HGY : Hid (In64 y ∧ ∀ u, u < 256 → tx a = Lib.decDigits u → y = (u : Int) ∧ er2 = .nilIface) := ⟨hy, hgy⟩
    have HER2 : Hid (er2 = .nilIface ∨ ∃ t a, er2 = .iface t (.pointer (some a))) := her2
    clear hr2 hE2 hb3 hy hgy her2
    have e0 := hr3.cell (i := 0) (by omega)
    have e1 := hr3.cell (i := 1) (by omega)
    have f0 := hr3.frozen 0
    have f1 := hr3.frozen 1
    have x0 : (w3.setCell ⟨w.heap.size, 0, none⟩ (.int .i64 x)).cell? ⟨w.heap.size, 0, none⟩ = some (.int .i64 x) := by
      have := (hr3.set 0 (.int .i64 x)).cell (i := 0) (by omega)
      simpa using this
    have x1 : ((w3.setCell ⟨w.heap.size, 0, none⟩ (.int .i64 x)).setCell ⟨w.heap.size, 1, none⟩ (.int .i64 y)).cell? ⟨w.heap.size, 1, none⟩ = some (.int .i64 y) := by
      have := ((hr3.set 0 (.int .i64 x)).set 1 (.int .i64 y)).cell (i := 1) (by omega)
      simpa using this
    have X0 : Hid ((w3.setCell ⟨w.heap.size, 0, none⟩ (.int .i64 x)).cell? ⟨w.heap.size, 0, none⟩ = some (.int .i64 x)) := x0
    have X1 : Hid (((w3.setCell ⟨w.heap.size, 0, none⟩ (.int .i64 x)).setCell ⟨w.heap.size, 1, none⟩ (.int .i64 y)).cell? ⟨w.heap.size, 1, none⟩ = some (.int .i64 y)) := x1
    clear x0 x1
    rcases HER.out with rfl | ⟨t1, a1, rfl⟩
    · rcases HER2.out with rfl | ⟨t2, a2, rfl⟩
      · go_wp2_with fail
        go_region
        all_goals go_wp2
        all_goals refine bodyPost_ret (v := .tuple #[.agg #[.int .i64 x, .int .i64 y], .bool true]) (by simp [results, Tryd.results15, go_sem, X0.out, X1.out]) rfl ?_
        all_goals exact ⟨x, y, true, rfl, HGX.out.1, HGY.out.1, fun x' y' hb e => (by have h := (dash_one HA.out hb e); rw [((HGX.out.2 _ h.1 h.2.1)).1, ((HGY.out.2 _ h.2.2.1 h.2.2.2.1)).1]; exact ⟨h.2.2.2.2, rfl⟩), ((hB3.setCell (by simp) _).setCell (by simp) _).drew⟩
      · go_wp2_with fail
        go_region
        all_goals go_wp2
        all_goals refine bodyPost_ret (v := .tuple #[.agg #[.int .i64 x, .int .i64 y], .bool false]) (by simp [results, Tryd.results15, go_sem, X0.out, X1.out]) rfl ?_
        all_goals exact ⟨x, y, false, rfl, HGX.out.1, HGY.out.1, fun x' y' hb e => (by have h := (dash_one HA.out hb e); cases (HGY.out.2 _ h.2.2.1 h.2.2.2.1).2), ((hB3.setCell (by simp) _).setCell (by simp) _).drew⟩
    · go_wp2_with fail
      go_region
      all_goals go_wp2
      all_goals refine bodyPost_ret (v := .tuple #[.agg #[.int .i64 x, .int .i64 y], .bool false]) (by simp [results, Tryd.results15, go_sem, X0.out, X1.out]) rfl ?_
      all_goals exact ⟨x, y, false, rfl, HGX.out.1, HGY.out.1, fun x' y' hb e => (by have h := (dash_one HA.out hb e); cases (HGX.out.2 _ h.1 h.2.1).2), ((hB3.setCell (by simp) _).setCell (by simp) _).drew⟩
  | true =>
    go_wp2_with fail
    refine (atoi_any a (by omega) _ hE1).mono ?_
    rintro e w2 ⟨x, er, rfl, her, hx, hgx, hb2⟩
    have hB2 := hB1.trans (hb2.mono hB1.size)
    have hr2 := row_below hr1 hb2
    have hE2 := hE1.below hb2
    have HGX : Hid (In64 x ∧ ∀ u, u < 256 → tx a = Lib.decDigits u → x = (u : Int) ∧ er = .nilIface) := ⟨hx, hgx⟩
    have HER : Hid (er = .nilIface ∨ ∃ t a, er = .iface t (.pointer (some a))) := her
    clear hr1 hE1 hb2 hx hgx her
    go_wp2_with fail
    refine (atoi_any b (by omega) _ hE2).mono ?_
    rintro e w3 ⟨y, er2, rfl, her2, hy, hgy, hb3⟩
    have hB3 := hB2.trans (hb3.mono hB2.size)
    have hr3 := row_below hr2 hb3
    have HGY : Hid (In64 y ∧ ∀ u, u < 256 → tx b = Lib.decDigits u → y = (u : Int) ∧ er2 = .nilIface) := ⟨hy, hgy⟩
    have HER2 : Hid (er2 = .nilIface ∨ ∃ t a, er2 = .iface t (.pointer (some a))) := her2
    clear hr2 hE2 hb3 hy hgy her2
    have e0 := hr3.cell (i := 0) (by omega)
    have e1 := hr3.cell (i := 1) (by omega)
    have f0 := hr3.frozen 0
    have f1 := hr3.frozen 1
    have x0 : (w3.setCell ⟨w.heap.size, 0, none⟩ (.int .i64 x)).cell? ⟨w.heap.size, 0, none⟩ = some (.int .i64 x) := by
      have := (hr3.set 0 (.int .i64 x)).cell (i := 0) (by omega)
      simpa using this
    have x1 : ((w3.setCell ⟨w.heap.size, 0, none⟩ (.int .i64 x)).setCell ⟨w.heap.size, 1, none⟩ (.int .i64 y)).cell? ⟨w.heap.size, 1, none⟩ = some (.int .i64 y) := by
      have := ((hr3.set 0 (.int .i64 x)).set 1 (.int .i64 y)).cell (i := 1) (by omega)
      simpa using this
    have X0 : Hid ((w3.setCell ⟨w.heap.size, 0, none⟩ (.int .i64 x)).cell? ⟨w.heap.size, 0, none⟩ = some (.int .i64 x)) := x0
    have X1 : Hid (((w3.setCell ⟨w.heap.size, 0, none⟩ (.int .i64 x)).setCell ⟨w.heap.size, 1, none⟩ (.int .i64 y)).cell? ⟨w.heap.size, 1, none⟩ = some (.int .i64 y)) := x1
    clear x0 x1
    rcases HER.out with rfl | ⟨t1, a1, rfl⟩
    · rcases HER2.out with rfl | ⟨t2, a2, rfl⟩
      · go_wp2_with fail
        go_region
        all_goals go_wp2
        all_goals refine bodyPost_ret (v := .tuple #[.agg #[.int .i64 x, .int .i64 y], .bool true]) (by simp [results, Tryd.results15, go_sem, X0.out, X1.out]) rfl ?_
        all_goals exact ⟨x, y, true, rfl, HGX.out.1, HGY.out.1, fun x' y' hb e => (by have h := (dash_two HA.out hb e); rw [((HGX.out.2 _ h.1 h.2.1)).1, ((HGY.out.2 _ h.2.2.1 h.2.2.2.1)).1]; exact ⟨h.2.2.2.2, rfl⟩), ((hB3.setCell (by simp) _).setCell (by simp) _).drew⟩
      · go_wp2_with fail
        go_region
        all_goals go_wp2
        all_goals refine bodyPost_ret (v := .tuple #[.agg #[.int .i64 x, .int .i64 y], .bool false]) (by simp [results, Tryd.results15, go_sem, X0.out, X1.out]) rfl ?_
        all_goals exact ⟨x, y, false, rfl, HGX.out.1, HGY.out.1, fun x' y' hb e => (by have h := (dash_two HA.out hb e); cases (HGY.out.2 _ h.2.2.1 h.2.2.2.1).2), ((hB3.setCell (by simp) _).setCell (by simp) _).drew⟩
    · go_wp2_with fail
      go_region
      all_goals go_wp2
      all_goals refine bodyPost_ret (v := .tuple #[.agg #[.int .i64 x, .int .i64 y], .bool false]) (by simp [results, Tryd.results15, go_sem, X0.out, X1.out]) rfl ?_
      all_goals exact ⟨x, y, false, rfl, HGX.out.1, HGY.out.1, fun x' y' hb e => (by have h := (dash_two HA.out hb e); cases (HGX.out.2 _ h.1 h.2.1).2), ((hB3.setCell (by simp) _).setCell (by simp) _).drew⟩
end Go.Proofs.YthapckfahfnpjaaDoor

