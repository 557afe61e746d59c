/- Whatever is drawn, a text that is too long is like nothing, not even like all others, the package's one error being as the program's text lays it. -/
import Derived.Test.YtkbhljpdneibaaaDoorLw
import Derived.Test.YtkbhljpdneibaaaDoorOpb
import Derived.Test.YtkbhljpdneibaaaDoorTie
import Derived.Test.YtkbhljpdneibaaaDoorCards
import Derived.LaidMore
import Derived.Lib.LaidTab
import Derived.Stop.Joined
import Derived.Stop.LaidErr
import Derived.SevenTiedAt
import Derived.Lay
import Derived.ChangeMaps5
import Derived.ChangeVars
namespace Go.Proofs.YtkbhljpdneibaaaDoor
open Go.ChangeShapes Go.WideShapes Go.ChangeAt Go.RowKit
set_option linter.unusedVariables false
set_option linter.unusedSimpArgs false

/-- the error's name, as the row has it -/
abbrev errName : String := Rows.fnMatchWordRow.named.headD ""
theorem gErr : Tryd.prog.globalNamed errName = some 0 := by kernel_rfl
theorem tErr : (Tryd.prog.globals[0]?).map (·.type) = some 83 := by kernel_rfl
/-- the name of the error's type -/
abbrev errText : String := "errors.errorString"
theorem starErr : "*" ++ errText = "*errors.errorString" := by decide
theorem rowErr (u : TypeId) (h : Tryd.prog.typeName? 3 u = some "*errors.errorString") : u = 105 :=
  typeName_ptr_named (nm := errText) (by rw [starErr]; kernel_rfl) (by kernel_rfl) (by decide) u (by rw [starErr]; exact h)

theorem err_of_laid {W : World} (h : laidMetH Tryd.prog Rows.fnMatchWordRow.laid W) : ∃ a, W.var? Tryd.prog errName = some #[.iface 105 (.pointer (some a))] ∧ Err W 105 a := by
  rw [MakeChecks.laidMetH_plain _ _ _ (by kernel_rfl)] at h
  obtain ⟨a0, t0, hv0, _⟩ := laid_sentinel (g := 0) h gErr (by kernel_rfl) Tryd.underlying83 rowErr Tryd.underlying105 Tryd.underlying124 rfl rfl Tryd.underlying9 (by kernel_rfl) (by kernel_rfl)
  refine ⟨a0, hv0, ?_⟩
  have := World.var?_cell gErr hv0 0
  simpa [Err] using this

theorem var_below {W W' : World} {cs : Array Value} (h : W.var? Tryd.prog errName = some cs) (hb : Below W.heap.size W W') : W'.var? Tryd.prog errName = some cs := by
  simp only [World.var?, gErr, Option.bind_some] at h ⊢
  have hlt : 0 < W.heap.size := by
    rcases Nat.lt_or_ge 0 W.heap.size with h' | h'
    · exact h'
    · simp [Array.getElem?_eq_none h'] at h
  rw [hb.block 0 hlt]
  exact h

theorem door_met (os : Os) (args : Array Value) : laidMetH Tryd.prog Rows.fnMatchWordRow.laid ((World.laidAll Tryd.prog os Rows.fnMatchWordRow.laid).forCall (fun _ _ => 0) ⟨#[], args, []⟩).memory := by
  rw [MakeChecks.laidMetH_plain _ _ _ (by kernel_rfl)]
  exact laidMet_laidAll args (by kernel_rfl) (by kernel_rfl)

set_option maxRecDepth 100000 in
theorem lifted3 (os : Os) (started : os.Started) (H : Type) (enc : TypeId × Value → H) :
    ReturnsInHanded {} Tryd.checked os 6 .any (fun w args => (Rows.fnMatchWordSpec.pre enc Tryd.prog Tryd.f6 [] false w args ∧ laidMetH Tryd.prog Rows.fnMatchWordRow.laid w) ∧ sizedMet enc Tryd.prog Tryd.f6 (OpenSpec.ofChange Rows.fnMatchWordSpec) false w args)
      (Rows.fnMatchWordSpec.post enc Tryd.prog Tryd.f6 false true false false) := by
  refine returnsInHanded_of_change_and (C := Tryd.checked) (X := fun w _ => laidMetH Tryd.prog Rows.fnMatchWordRow.laid w) (fun _ _ _ hh h => h.of_heap hh) own started (by kernel_rfl) Tryd.func6
    (ChangeSpec.witness_shaped (enc := enc) (C := Tryd.checked) (os := os) (X := fun w _ => laidMetH Tryd.prog Rows.fnMatchWordRow.laid w) false (World.laidAll Tryd.prog os Rows.fnMatchWordRow.laid) #[.slice none 0 0, .slice none 0 0] 8 (World.laidAll_os _ _ _) (World.shaped_of_ZipB (by kernel_rfl) (by kernel_rfl)) (by kernel_rfl) (by kernel_rfl) (by kernel_rfl) (door_met os _)) ?_
  intro W base args ds gs before hval0 hW _ _ hL _
  have hval : ∀ (j : Nat) t v, Tryd.f6.params[j]? = some t → args[j]? = some v → Value.okWide Tryd.prog W .any base t v := hval0
  have hW' := hW
  obtain ⟨p, q, hA0, hV, rfl, hfz, hnd⟩ := hW
  have hA : DataW.TrodAll enc Tryd.prog W 0 (fun _ => true) true Tryd.f6.params.toList args.toList ds p := hA0
  rw [Tryd.params6] at hA hval
  obtain ⟨v0, vs0, d0, ds0, p0, q0, hargs, rfl, rfl, h0, r0⟩ := trodAll_cons hA
  obtain ⟨v1, vs1, d1, ds1, p1, q1, hargs1, rfl, rfl, h1, r1⟩ := trodAll_cons r0
  obtain ⟨rfl, rfl, rfl⟩ := trodAll_nil r1
  obtain rfl : args = #[v0, v1] := by cases args; simp_all
  obtain ⟨ea, hvar, hErr⟩ := err_of_laid hL
  obtain ⟨g, ty, cs, fuel, dv, pv, rfl, hg, ht, hcs, hrd, rfl⟩ := trodVars_one hV
  obtain rfl : g = 0 := Option.some.inj (hg.symm.trans gErr)
  obtain rfl : ty = 83 := Option.some.inj (ht.symm.trans tErr)
  obtain rfl : cs = #[.iface 105 (.pointer (some ea))] := Option.some.inj (hcs.symm.trans hvar)
  obtain ⟨hix, hyy⟩ := held_of_trod Tryd.underlying83 hrd
  have k0 := h0
  have lt0 : ∀ x ∈ p0, x.block < W.heap.size := by obtain ⟨m, hm⟩ := k0; exact DataW.trod_lt m _ _ _ hm
  have k1 := h1
  have lt1 : ∀ x ∈ p1, x.block < W.heap.size := by obtain ⟨m, hm⟩ := k1; exact DataW.trod_lt m _ _ _ hm
  obtain ⟨fu, hfu⟩ := h0
  obtain ⟨fv, hfv⟩ := h1
  obtain ⟨a00, l00, c00, hv00⟩ := okWide_slice Tryd.underlying22 (hval 0 22 v0 rfl rfl)
  obtain ⟨a10, l10, c10, hv10⟩ := okWide_slice Tryd.underlying22 (hval 1 22 v1 rfl rfl)
  subst hv00
  subst hv10
  obtain ⟨sa, n, c, bb, off, V, hsv, hnc, hcc, hna, hVV⟩ := openBytes (v := .slice a00 l00 c00) hfu
  obtain ⟨sa2, n2, c2, bb2, off2, V2, hsv2, hnc2, hcc2, hna2, hVV2⟩ := openBytes (v := .slice a10 l10 c10) hfv
  obtain ⟨rfl, rfl, rfl⟩ := Value.slice.inj hsv
  obtain ⟨rfl, rfl, rfl⟩ := Value.slice.inj hsv2
  clear hA0 hval0
  refine (lawWord _ _ _ bb off V _ _ _ bb2 off2 V2 W 105 ea hErr (by omega) hnc hcc hna hVV (by omega) hnc2 hcc2 hna2 hVV2).mono fun e W' ⟨he, bel⟩ => ?_
  subst he
  cases hyy
  have hvars : DataW.TrodVars enc Tryd.prog W' (fun b => decide (b < W.heap.size)) [errName] _ _ := trodVars_mk1 gErr tErr (var_below hvar bel) (trod_held (enc := enc) Tryd.underlying83 hix 0)
  exact ⟨_, rfl, _, _, _, [], _, _, hW', trodAll_mk1 (shut_bool Tryd.underlying4 _), (trodAll_cons_mk (Below.trod laidOut (by kernel_rfl) (of_decide_eq_true (by kernel_rfl)) k0 bel lt0) (trodAll_cons_mk (Below.trod laidOut (by kernel_rfl) (of_decide_eq_true (by kernel_rfl)) k1 bel lt1) trodAll_mk0)), hvars, bel.frame _, fun h => by cases h⟩

end Go.Proofs.YtkbhljpdneibaaaDoor

