/- At every argument RexText answers as its model says, and it changes no argument, the package's one error and the library's three tables being as the program's text lays it. -/
import Derived.Test.YtcfmohmmkpjjeaaDoorVx
import Derived.Test.YtcfmohmmkpjjeaaDoorOpen
import Derived.Test.YtcfmohmmkpjjeaaDoorTie
import Derived.Test.YtcfmohmmkpjjeaaDoorCards
import Derived.LaidMore
import Derived.Lib.LaidTab
import Derived.Stop.Joined
import Derived.Stop.LaidErr
import Derived.SevenTiedAt
import Derived.Lay
import Derived.ChangeMaps5
import Derived.ChangeVars
namespace Go.Proofs.YtcfmohmmkpjjeaaDoor
open Go.ChangeShapes Go.WideShapes Go.ChangeAt Go.RowKit
set_option linter.unusedVariables false
set_option linter.unusedSimpArgs false

/-- the error's name, as the row has it -/
abbrev errName : String := Rows.fnExactRexTextSpec.vars.headD ""
theorem gErr : Tryd.prog.globalNamed errName = some 0 := by kernel_rfl
theorem tErr : (Tryd.prog.globals[0]?).map (·.type) = some 78 := by kernel_rfl
/-- the name of the error's type -/
abbrev errText : String := "errors.errorString"
theorem starErr : "*" ++ errText = "*errors.errorString" := by decide
theorem rowErr (u : TypeId) (h : Tryd.prog.typeName? 3 u = some "*errors.errorString") : u = 99 :=
  typeName_ptr_named (nm := errText) (by rw [starErr]; kernel_rfl) (by kernel_rfl) (by decide) u (by rw [starErr]; exact h)

theorem gPow : Tryd.prog.globalNamed powName = some 1 := by kernel_rfl
theorem tPow : (Tryd.prog.globals[1]?).map (·.type) = some 90 := by kernel_rfl
theorem allLaid : Rows.fnExactRexTextRow.laid = [Rows.fnExactRexTextRow.laid.getD 0 ("", .nil), Rows.fnExactRexTextRow.laid.getD 1 ("", .nil), (powName, Lib.tabData .u64 Lib.pow10Tab), (errName, Rows.laid_loop_example_carding_impl_errNoRex)] := by kernel_rfl
theorem pow_of_laid {W : World} (h : laidMetH Tryd.prog Rows.fnExactRexTextRow.laid W) : Tab W.heap.size W := by
  rw [MakeChecks.laidMetH_plain _ _ _ (by kernel_rfl)] at h
  rw [allLaid] at h
  exact Lib.tabBelow_of_tabIs (Lib.tabIs_of_head gPow tPow Tryd.underlying90 Tryd.underlying82 (by kernel_rfl) (by kernel_rfl) (laidMet.tail (laidMet.tail h)))
theorem err_of_laid {W : World} (h : laidMetH Tryd.prog Rows.fnExactRexTextRow.laid W) : ∃ a, W.var? Tryd.prog errName = some #[.iface 99 (.pointer (some a))] ∧ Err W 99 a := by
  rw [MakeChecks.laidMetH_plain _ _ _ (by kernel_rfl)] at h
  rw [allLaid] at h
  obtain ⟨a0, t0, hv0, _⟩ := laid_sentinel (g := 0) (laidMet.tail (laidMet.tail (laidMet.tail h))) gErr (by kernel_rfl) Tryd.underlying78 rowErr Tryd.underlying99 Tryd.underlying116 rfl rfl Tryd.underlying9 (by kernel_rfl) (by kernel_rfl)
  refine ⟨a0, hv0, ?_⟩
  have := World.var?_cell gErr hv0 0
  simpa [Err] using this

theorem var_below {W W' : World} {cs : Array Value} (h : W.var? Tryd.prog errName = some cs) (hb : Below W.heap.size W W') : W'.var? Tryd.prog errName = some cs := by
  simp only [World.var?, gErr, Option.bind_some] at h ⊢
  have hlt : 0 < W.heap.size := by
    rcases Nat.lt_or_ge 0 W.heap.size with h' | h'
    · exact h'
    · simp [Array.getElem?_eq_none h'] at h
  rw [hb.block _ hlt]
  exact h

theorem door_met (os : Os) (args : Array Value) : laidMetH Tryd.prog Rows.fnExactRexTextRow.laid ((World.laidAll Tryd.prog os Rows.fnExactRexTextRow.laid).forCall (fun _ _ => 0) ⟨#[], args, []⟩).memory := by
  rw [MakeChecks.laidMetH_plain _ _ _ (by kernel_rfl)]
  exact laidMet_laidAll args (by kernel_rfl) (by kernel_rfl)

set_option maxRecDepth 100000 in
set_option maxHeartbeats 1000000 in
theorem lifted3 (os : Os) (started : os.Started) (H : Type) (enc : TypeId × Value → H) :
    ReturnsInHanded {} Tryd.checked os 3 .any (fun w args => (Rows.fnExactRexTextSpec.pre enc Tryd.prog Tryd.f3 [] false w args ∧ laidMetH Tryd.prog Rows.fnExactRexTextRow.laid w) ∧ sizedMet enc Tryd.prog Tryd.f3 (OpenSpec.ofChange Rows.fnExactRexTextSpec) false w args)
      (Rows.fnExactRexTextSpec.post enc Tryd.prog Tryd.f3 false true false false) := by
  refine returnsInHanded_of_change_and (C := Tryd.checked) (X := fun w _ => laidMetH Tryd.prog Rows.fnExactRexTextRow.laid w) (fun _ _ _ hh h => h.of_heap hh) own started (by kernel_rfl) Tryd.func3
    (ChangeSpec.witness_shaped (enc := enc) (C := Tryd.checked) (os := os) (X := fun w _ => laidMetH Tryd.prog Rows.fnExactRexTextRow.laid w) false (World.laidAll Tryd.prog os Rows.fnExactRexTextRow.laid) #[.agg #[.int .i64 0, .slice none 0 0, .slice none 0 0]] 8 (World.laidAll_os _ _ _) (World.shaped_of_ZipB (by kernel_rfl) (by kernel_rfl)) (by kernel_rfl) (by kernel_rfl) (by kernel_rfl) (door_met os _)) ?_
  intro W base args ds gs before hval0 hW _ _ hL _
  have hval : ∀ (j : Nat) t v, Tryd.f3.params[j]? = some t → args[j]? = some v → Value.okWide Tryd.prog W .any base t v := hval0
  have hW' := hW
  obtain ⟨p, q, hA0, hV, rfl, hfz, hnd⟩ := hW
  have hA : DataW.TrodAll enc Tryd.prog W 0 (fun _ => true) true Tryd.f3.params.toList args.toList ds p := hA0
  rw [Tryd.params3] at hA hval
  obtain ⟨v0, vs0, d0, ds0, p0, q0, hargs, rfl, rfl, h0, r0⟩ := trodAll_cons hA
  obtain ⟨rfl, rfl, rfl⟩ := trodAll_nil r0
  obtain rfl : args = #[v0] := by cases args; simp_all
  obtain ⟨ea, hvar, hErr⟩ := err_of_laid hL
  obtain ⟨g, ty, cs, fuel, dv, pv, rfl, hg, ht, hcs, hrd, rfl⟩ := trodVars_one hV
  obtain rfl : g = 0 := Option.some.inj (hg.symm.trans gErr)
  obtain rfl : ty = 78 := Option.some.inj (ht.symm.trans tErr)
  obtain rfl : cs = #[.iface 99 (.pointer (some ea))] := Option.some.inj (hcs.symm.trans hvar)
  obtain ⟨hix, hyy⟩ := held_of_trod Tryd.underlying78 hrd
  have k0 := h0
  have lt0 : ∀ x ∈ p0, x.block < W.heap.size := by obtain ⟨m, hm⟩ := k0; exact DataW.trod_lt m _ _ _ hm
  obtain ⟨fu, hfu⟩ := h0
  obtain ⟨S, M, hcl, hin⟩ := openRex fu fu _ _ (Nat.le_refl _) hfu
  obtain ⟨cs0, hcs0, _⟩ := okWide_struct Tryd.underlying25 (hval 0 25 v0 rfl rfl)
  have hv0 : v0 = vx S M := by
    subst hcs0
    cases cs0
    simp only [Value.cells] at hcl
    simp only [vx, Value.agg.injEq, Array.mk.injEq]
    exact hcl
  subst hv0
  clear hA0 hval0
  refine (lawRexText S M W 99 ea hErr (pow_of_laid hL) hin).mono fun e W' ⟨he, bel⟩ => ?_
  subst he
  cases hyy
  have hvars : DataW.TrodVars enc Tryd.prog W' (fun b => decide (b < W.heap.size)) [errName] _ _ := trodVars_mk1 gErr tErr (var_below hvar bel) (trod_held (enc := enc) Tryd.underlying78 hix 0)
  exact ⟨_, rfl, _, _, _, [], _, _, hW', trodAll_mk1 (shut_bool Tryd.underlying4 _), (trodAll_cons_mk (Below.trod laidOut (by kernel_rfl) (of_decide_eq_true (by kernel_rfl)) k0 bel lt0) trodAll_mk0), hvars, bel.frame _, fun h => by cases h⟩

end Go.Proofs.YtcfmohmmkpjjeaaDoor

