/- Whatever is drawn, the longest match is as the model says, it matches, and no longer one does, the package's one error being as the program's text lays it. -/
import Derived.Test.YtdkdpdkmkabbaaaDoorWc
import Derived.ProofKit
import Derived.OpenShut
import Derived.ChangeOld
import Derived.Below
import Derived.Test.YtdkdpdkmkabbaaaDoorLg
import Derived.Test.YtdkdpdkmkabbaaaDoorTie
import Derived.Test.YtdkdpdkmkabbaaaDoorCards
import Derived.LaidMore
import Derived.Lib.LaidTab
import Derived.Stop.Joined
import Derived.Stop.LaidErr
import Derived.SevenTiedAt
import Derived.Lay
import Derived.ChangeMaps5
import Derived.ChangeVars
namespace Go.Proofs.YtdkdpdkmkabbaaaDoor
open Go.ChangeShapes Go.WideShapes Go.ChangeAt Go.RowKit Go.Deep
set_option linter.unusedVariables false
set_option linter.unusedSimpArgs false

theorem own : ownKnob Tryd.prog.godebug = none := by kernel_rfl
theorem laidOut : laidOutB Tryd.prog = true := by kernel_rfl
theorem Tryd.cells5 : Tryd.prog.cellsOf 5 = 1 := by kernel_rfl

/-- a slice of bytes that came in: where they lie, what they are -/
theorem openBytes {T : Type} {enc : TypeId × Value → T} {W : World} {v : Value} {fuel : Nat} {x : DataW T × List MemPlace}
    (hf : DataW.trod enc Tryd.prog W 0 (fun _ => true) true fuel 22 [v] = some x) :
    ∃ (a : Option Addr) (n c b off : Nat) (V : Nat → Nat), v = .slice a n c ∧ n ≤ c ∧ c ≤ 9223372036854775807 ∧ (0 < n → a = some ⟨b, off, none⟩ ∧ b < W.heap.size) ∧ ∀ i, i < n → V i ≤ 255 ∧ W.cell? ⟨b, off + i, none⟩ = some (.int .u8 (V i : Int)) := by
  rcases open_ints Tryd.underlying22 Tryd.underlying5 Tryd.cells5 hf with ⟨hcs, _⟩ | ⟨a, len, cap, zs, hcs, _, hl, hm, hz, _, hcell, hwf⟩
  · simp at hcs
    subst hcs
    exact ⟨none, 0, 0, 0, 0, fun _ => 0, rfl, Nat.le_refl _, by omega, fun h => absurd h (Nat.lt_irrefl _), fun i hi => absurd hi (Nat.not_lt_zero _)⟩
  · simp at hcs
    subst hcs
    simp at hz
    have hm' : cap ≤ 9223372036854775807 := by unfold maxLen at hm; omega
    by_cases h0 : len = 0
    · subst h0
      exact ⟨_, 0, cap, 0, 0, fun _ => 0, rfl, by omega, hm', fun h => absurd h (Nat.lt_irrefl _), fun i hi => absurd hi (Nat.not_lt_zero _)⟩
    · obtain ⟨b, off, rfl, hc⟩ := ints_at hcell (by omega)
      have hb : ∀ i, i < len → 0 ≤ zs.getD i 0 ∧ zs.getD i 0 ≤ 255 := fun i hi => by
        have hmem : zs.getD i 0 ∈ zs := by rw [List.getD_eq_getElem?_getD, List.getElem?_eq_getElem (by omega)]; exact List.getElem_mem _
        exact bounds_u8 (hwf _ hmem)
      refine ⟨_, len, cap, b, off, fun i => (zs.getD i 0).toNat, rfl, hl, hm', fun _ => ⟨rfl, World.block_lt_of_cell? _ _ (hc 0 (by omega))⟩, fun i hi => ?_⟩
      obtain ⟨h1, h2⟩ := hb i hi
      show (zs.getD i 0).toNat ≤ 255 ∧ W.cell? ⟨b, off + i, none⟩ = some (.int .u8 (((zs.getD i 0).toNat : Nat) : Int))
      refine ⟨by omega, ?_⟩
      rw [hc i (by omega), Int.toNat_of_nonneg h1]
end Go.Proofs.YtdkdpdkmkabbaaaDoor
namespace Go.Proofs.YtdkdpdkmkabbaaaDoor
open Go.ChangeShapes Go.WideShapes Go.ChangeAt Go.RowKit
set_option linter.unusedVariables false
set_option linter.unusedSimpArgs false

/-- the error's name, as the row has it -/
abbrev errName : String := Rows.fnMatchLongRow.named.headD ""
theorem gErr : Tryd.prog.globalNamed errName = some 0 := by kernel_rfl
theorem tErr : (Tryd.prog.globals[0]?).map (·.type) = some 97 := by kernel_rfl
/-- the name of the error's type -/
abbrev errText : String := "errors.errorString"
theorem starErr : "*" ++ errText = "*errors.errorString" := by decide
theorem rowErr (u : TypeId) (h : Tryd.prog.typeName? 3 u = some "*errors.errorString") : u = 106 :=
  typeName_ptr_named (nm := errText) (by rw [starErr]; kernel_rfl) (by kernel_rfl) (by decide) u (by rw [starErr]; exact h)

theorem err_of_laid {W : World} (h : laidMetH Tryd.prog Rows.fnMatchLongRow.laid W) : ∃ a, W.var? Tryd.prog errName = some #[.iface 106 (.pointer (some a))] ∧ Err W 106 a := by
  rw [MakeChecks.laidMetH_plain _ _ _ (by kernel_rfl)] at h
  obtain ⟨a0, t0, hv0, _⟩ := laid_sentinel (g := 0) h gErr (by kernel_rfl) Tryd.underlying97 rowErr Tryd.underlying106 Tryd.underlying125 rfl rfl Tryd.underlying9 (by kernel_rfl) (by kernel_rfl)
  refine ⟨a0, hv0, ?_⟩
  have := World.var?_cell gErr hv0 0
  simpa [Err] using this

theorem var_below {W W' : World} {cs : Array Value} (h : W.var? Tryd.prog errName = some cs) (hb : Below W.heap.size W W') : W'.var? Tryd.prog errName = some cs := by
  simp only [World.var?, gErr, Option.bind_some] at h ⊢
  have hlt : 0 < W.heap.size := by
    rcases Nat.lt_or_ge 0 W.heap.size with h' | h'
    · exact h'
    · simp [Array.getElem?_eq_none h'] at h
  rw [hb.block 0 hlt]
  exact h

theorem door_met (os : Os) (args : Array Value) : laidMetH Tryd.prog Rows.fnMatchLongRow.laid ((World.laidAll Tryd.prog os Rows.fnMatchLongRow.laid).forCall (fun _ _ => 0) ⟨#[], args, []⟩).memory := by
  rw [MakeChecks.laidMetH_plain _ _ _ (by kernel_rfl)]
  exact laidMet_laidAll args (by kernel_rfl) (by kernel_rfl)

set_option maxRecDepth 100000 in
theorem lifted3 (os : Os) (started : os.Started) (H : Type) (enc : TypeId × Value → H) :
    ReturnsInHanded {} Tryd.checked os 3 .any (fun w args => (Rows.fnMatchLongSpec.pre enc Tryd.prog Tryd.f3 [] false w args ∧ laidMetH Tryd.prog Rows.fnMatchLongRow.laid w) ∧ sizedMet enc Tryd.prog Tryd.f3 (OpenSpec.ofChange Rows.fnMatchLongSpec) false w args)
      (Rows.fnMatchLongSpec.post enc Tryd.prog Tryd.f3 false true false false) := by
  refine returnsInHanded_of_change_and (C := Tryd.checked) (X := fun w _ => laidMetH Tryd.prog Rows.fnMatchLongRow.laid w) (fun _ _ _ hh h => h.of_heap hh) own started (by kernel_rfl) Tryd.func3
    (ChangeSpec.witness_shaped (enc := enc) (C := Tryd.checked) (os := os) (X := fun w _ => laidMetH Tryd.prog Rows.fnMatchLongRow.laid w) false (World.laidAll Tryd.prog os Rows.fnMatchLongRow.laid) #[.slice none 0 0] 8 (World.laidAll_os _ _ _) (World.shaped_of_ZipB (by kernel_rfl) (by kernel_rfl)) (by kernel_rfl) (by kernel_rfl) (by kernel_rfl) (door_met os _)) ?_
  intro W base args ds gs before hval0 hW _ _ hL _
  have hval : ∀ (j : Nat) t v, Tryd.f3.params[j]? = some t → args[j]? = some v → Value.okWide Tryd.prog W .any base t v := hval0
  have hW' := hW
  obtain ⟨p, q, hA0, hV, rfl, hfz, hnd⟩ := hW
  have hA : DataW.TrodAll enc Tryd.prog W 0 (fun _ => true) true Tryd.f3.params.toList args.toList ds p := hA0
  rw [Tryd.params3] at hA hval
  obtain ⟨v0, vs0, d0, ds0, p0, q0, hargs, rfl, rfl, h0, r0⟩ := trodAll_cons hA
  obtain ⟨rfl, rfl, rfl⟩ := trodAll_nil r0
  obtain rfl : args = #[v0] := by cases args; simp_all
  obtain ⟨ea, hvar, hErr⟩ := err_of_laid hL
  obtain ⟨g, ty, cs, fuel, dv, pv, rfl, hg, ht, hcs, hrd, rfl⟩ := trodVars_one hV
  obtain rfl : g = 0 := Option.some.inj (hg.symm.trans gErr)
  obtain rfl : ty = 97 := Option.some.inj (ht.symm.trans tErr)
  obtain rfl : cs = #[.iface 106 (.pointer (some ea))] := Option.some.inj (hcs.symm.trans hvar)
  obtain ⟨hix, hyy⟩ := held_of_trod Tryd.underlying97 hrd
  have k0 := h0
  have lt0 : ∀ x ∈ p0, x.block < W.heap.size := by obtain ⟨m, hm⟩ := k0; exact DataW.trod_lt m _ _ _ hm
  obtain ⟨fu, hfu⟩ := h0
  obtain ⟨a00, len00, cap00, hv00⟩ := okWide_slice Tryd.underlying22 (hval 0 22 v0 rfl rfl)
  subst hv00
  obtain ⟨sa, n, c, bb, off, V, hsv, hnc, hcc, hna, hVV⟩ := openBytes (v := .slice a00 len00 cap00) hfu
  rw [hsv] at k0 hW' ⊢
  clear hA0 hval0
  refine (lawLong sa n c bb off V W 106 ea hErr (by omega) hnc hcc hna hVV).mono fun e W' ⟨he, bel⟩ => ?_
  subst he
  cases hyy
  have hvars : DataW.TrodVars enc Tryd.prog W' (fun b => decide (b < W.heap.size)) [errName] _ _ := trodVars_mk1 gErr tErr (var_below hvar bel) (trod_held (enc := enc) Tryd.underlying97 hix 0)
  exact ⟨_, rfl, _, _, _, [], _, _, hW', trodAll_mk1 (shut_bool Tryd.underlying4 _), (trodAll_cons_mk (Below.trod laidOut (by kernel_rfl) (of_decide_eq_true (by kernel_rfl)) k0 bel lt0) trodAll_mk0), hvars, bel.frame _, fun h => by cases h⟩

end Go.Proofs.YtdkdpdkmkabbaaaDoor

