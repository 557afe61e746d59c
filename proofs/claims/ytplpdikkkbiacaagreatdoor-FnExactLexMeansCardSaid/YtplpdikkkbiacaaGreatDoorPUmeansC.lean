/- At every argument LexMeans answers as its model says, and it changes no argument, the package's one error being as the program's text lays it. -/
import Derived.Test.YtplpdikkkbiacaaGreatDoorXy
import Derived.Test.YtplpdikkkbiacaaGreatDoorOpu
import Derived.Test.YtplpdikkkbiacaaGreatDoorTie
import Derived.Test.YtplpdikkkbiacaaGreatDoorCards
import Derived.LaidMore
import Derived.LaidHandle
import Derived.Lib.LaidTab
import Derived.Stop.Joined
import Derived.Stop.LaidErr
import Derived.SevenTiedAt
import Derived.Lay
import Derived.ChangeMaps5
import Derived.ChangeVars
namespace Go.Proofs.YtplpdikkkbiacaaGreatDoor
open Go.ChangeShapes Go.WideShapes Go.ChangeAt Go.RowKit
set_option linter.unusedVariables false
set_option linter.unusedSimpArgs false

/-- the error's name, as the row has it -/
abbrev errName : String := Rows.fnExactLexMeansSpec.vars.headD ""
theorem gErr : Tryz.prog.globalNamed errName = some 1 := by kernel_rfl
theorem tErr : (Tryz.prog.globals[1]?).map (·.type) = some 68 := by kernel_rfl
/-- the name of the error's type -/
abbrev errText : String := "errors.errorString"
theorem starErr : "*" ++ errText = "*errors.errorString" := by decide
theorem rowErr (u : TypeId) (h : Tryz.prog.typeName? 3 u = some "*errors.errorString") : u = 186 :=
  typeName_ptr_named (nm := errText) (by rw [starErr]; kernel_rfl) (by kernel_rfl) (by decide) u (by rw [starErr]; exact h)

/-- what the row lays that is no handle, and what is one -/
abbrev plainL : List (String × DataW Unit) := Rows.fnExactLexMeansRow.laid.filter fun x => x.2.handleName?.isNone
abbrev handL : List (String × DataW Unit) := Rows.fnExactLexMeansRow.laid.filter fun x => x.2.handleName?.isSome
abbrev typeName0 : String := (handL.headD ("", .nil)).1
theorem hand_len : handL.length = 1 := by kernel_rfl
theorem hand_eq : handL = [(typeName0, Rows.laid_errors_errorType)] := by kernel_rfl
theorem plain_eq : plainL = [plainL.getD 0 ("", .nil), plainL.getD 1 ("", .nil), plainL.getD 2 ("", .nil), (errName, Rows.laid_loop_example_carding_impl_errNoRex)] := by kernel_rfl
theorem parts_of_laid {W : World} (h : laidMetH Tryz.prog Rows.fnExactLexMeansRow.laid W) : laidMet Tryz.prog plainL W ∧ handlesMet Tryz.prog handL W := by
  unfold laidMetH at h
  have hl := hand_len
  generalize hfl : (Rows.fnExactLexMeansRow.laid.filter fun x => x.2.handleName?.isSome) = fl at h
  have hh : handL = fl := hfl
  rw [hh] at hl ⊢
  cases fl with
  | nil => simp at hl
  | cons x r => exact h

theorem err_of_laid {W : World} (h : laidMetH Tryz.prog Rows.fnExactLexMeansRow.laid W) : ∃ a, W.var? Tryz.prog errName = some #[.iface 186 (.pointer (some a))] ∧ Err W 186 a := by
  have h1 := (parts_of_laid h).1
  rw [plain_eq] at h1
  obtain ⟨a0, t0, hv0, _⟩ := laid_sentinel (g := 1) (laidMet.tail (laidMet.tail (laidMet.tail h1))) gErr (by kernel_rfl) Tryz.underlying68 rowErr Tryz.underlying186 Tryz.underlying208 rfl rfl Tryz.underlying9 (by kernel_rfl) (by kernel_rfl)
  refine ⟨a0, hv0, ?_⟩
  have := World.var?_cell gErr hv0 0
  simpa [Err] using this

theorem gTy : Tryz.prog.globalNamed typeName0 = some 0 := by kernel_rfl
theorem rtTy : (Tryz.prog.cutTypes.find? (·.1 == "internal/reflectlite.rtype")).map (·.2) = some 131 := by kernel_rfl
theorem oneRow : ((List.range 225).filter fun t => Tryz.prog.rowNamed t [101, 114, 114, 111, 114]) = [68] := by kernel_rfl
theorem sizeTy : Tryz.prog.types.size = 225 := by kernel_rfl
theorem ty_of_laid {W : World} (h : laidMetH Tryz.prog Rows.fnExactLexMeansRow.laid W) : ErrTy W := by
  have h1 := (parts_of_laid h).2
  rw [hand_eq] at h1
  obtain ⟨name, u, ty, e1, e2, e3, e4, e5⟩ := h1 _ (List.mem_singleton.2 rfl)
  have en : name = [101, 114, 114, 111, 114] := (Option.some.inj e1).symm
  subst en
  obtain rfl := Option.some.inj (rtTy.symm.trans e2)
  have hm : ty ∈ (List.range 225).filter fun t => Tryz.prog.rowNamed t [101, 114, 114, 111, 114] := List.mem_filter.2 ⟨List.mem_range.2 (by rw [← sizeTy]; exact e3), e4⟩
  rw [oneRow] at hm
  obtain rfl := List.mem_singleton.1 hm
  have hh : typeHandle Tryz.prog 68 = .pointer (some ⟨5, 68, none⟩) := by kernel_rfl
  rw [hh] at e5
  simpa [ErrTy] using World.var?_cell gTy e5 0

theorem var_below {W W' : World} {cs : Array Value} (h : W.var? Tryz.prog errName = some cs) (hb : Below W.heap.size W W') : W'.var? Tryz.prog errName = some cs := by
  simp only [World.var?, gErr, Option.bind_some] at h ⊢
  have hlt : 1 < W.heap.size := by
    rcases Nat.lt_or_ge 1 W.heap.size with h' | h'
    · exact h'
    · simp [Array.getElem?_eq_none h'] at h
  rw [hb.block _ hlt]
  exact h

/-- a start at which the type's variable is laid -/
noncomputable def World.typed (os : Os) : World :=
  { World.holding Tryz.prog os ⟨#[], #[], []⟩ with heap := (World.holding Tryz.prog os ⟨#[], #[], []⟩).heap.modify 0 fun
      | .cells _ t frozen => .cells #[.iface 131 (.agg #[.pointer (some ⟨5, 68, none⟩)])] t frozen
      | o => o }
/-- a start at which all is laid -/
noncomputable def laidWorld (os : Os) : World := (World.typed os).layVars Tryz.prog plainL
theorem laidWorld_os (os : Os) : (laidWorld os).os = os := World.layVars_os _ _ _
theorem laidMet_typed (os : Os) (args : Array Value) (hf : (World.typed os).layFits Tryz.prog plainL [] = true) (hi : (World.typed os).layIfaces Tryz.prog plainL (laidWorld os) = true) :
    laidMet Tryz.prog plainL ((laidWorld os).forCall (fun _ _ => 0) ⟨#[], args, []⟩).memory := by
  have e1 : (plainL.filter fun x => (plainL.map (·.1)).contains x.1) = plainL := List.filter_eq_self.2 fun x hx => List.contains_iff_mem.2 (List.mem_map.2 ⟨x, hx, rfl⟩)
  have e2 : (plainL.filter fun x => !(plainL.map (·.1)).contains x.1) = [] := List.filter_eq_nil_iff.2 fun x hx => by rw [List.contains_iff_mem.2 (List.mem_map.2 ⟨x, hx, rfl⟩)]; simp
  have h : laidMet Tryz.prog plainL (laidWorld os) := laidMet_layVars (w0 := World.typed os) (plainL.map (·.1)) [] (by rw [e1]; rfl) (by rw [e1]; exact hf) (by rw [e1]; exact hi) (by rw [e2]; exact LaidIn.none)
  exact h.of_heap (by simp [World.memory, World.forCall, Input.heap])
theorem door_met (os : Os) (args : Array Value) : laidMetH Tryz.prog Rows.fnExactLexMeansRow.laid ((laidWorld os).forCall (fun _ _ => 0) ⟨#[], args, []⟩).memory :=
  laidMetH_of_parts (laidMet_typed os args (by kernel_rfl) (by kernel_rfl)) (by kernel_rfl)

set_option maxRecDepth 100000 in
set_option maxHeartbeats 1000000 in
theorem lifted3 (os : Os) (started : os.Started) (H : Type) (enc : TypeId × Value → H) :
    ReturnsInHanded {} Tryz.checked os 3 .any (fun w args => (Rows.fnExactLexMeansSpec.pre enc Tryz.prog Tryz.f3 [] false w args ∧ laidMetH Tryz.prog Rows.fnExactLexMeansRow.laid w) ∧ sizedMet enc Tryz.prog Tryz.f3 (OpenSpec.ofChange Rows.fnExactLexMeansSpec) false w args)
      (Rows.fnExactLexMeansSpec.post enc Tryz.prog Tryz.f3 false true false false) := by
  refine returnsInHanded_of_change_and (C := Tryz.checked) (X := fun w _ => laidMetH Tryz.prog Rows.fnExactLexMeansRow.laid w) (fun _ _ _ hh h => h.of_heap hh) own started (by kernel_rfl) Tryz.func3
    (ChangeSpec.witness_shaped (enc := enc) (C := Tryz.checked) (os := os) (X := fun w _ => laidMetH Tryz.prog Rows.fnExactLexMeansRow.laid w) false (laidWorld os) #[.slice none 0 0, .string ⟨#[]⟩] 8 (laidWorld_os _) (World.shaped_of_ZipB (by kernel_rfl) (by kernel_rfl)) (by kernel_rfl) (by kernel_rfl) (by kernel_rfl) (door_met os _)) ?_
  intro W base args ds gs before hval0 hW _ _ hL _
  have hval : ∀ (j : Nat) t v, Tryz.f3.params[j]? = some t → args[j]? = some v → Value.okWide Tryz.prog W .any base t v := hval0
  have hW' := hW
  obtain ⟨p, q, hA0, hV, rfl, hfz, hnd⟩ := hW
  have hA : DataW.TrodAll enc Tryz.prog W 0 (fun _ => true) true Tryz.f3.params.toList args.toList ds p := hA0
  rw [Tryz.params3] at hA hval
  obtain ⟨v0, vs0, d0, ds0, p0, q0, hargs, rfl, rfl, h0, r0⟩ := trodAll_cons hA
  obtain ⟨v1, vs1, d1, ds1, p1, q1, hargs1, rfl, rfl, h1, r1⟩ := trodAll_cons r0
  obtain ⟨rfl, rfl, rfl⟩ := trodAll_nil r1
  obtain rfl : args = #[v0, v1] := by cases args; simp_all
  obtain ⟨ea, hvar, hErr⟩ := err_of_laid hL
  have hTy := ty_of_laid hL
  obtain ⟨g, ty, cs, fuel, dv, pv, rfl, hg, ht, hcs, hrd, rfl⟩ := trodVars_one hV
  obtain rfl : g = 1 := Option.some.inj (hg.symm.trans gErr)
  obtain rfl : ty = 68 := Option.some.inj (ht.symm.trans tErr)
  obtain rfl : cs = #[.iface 186 (.pointer (some ea))] := Option.some.inj (hcs.symm.trans hvar)
  obtain ⟨hix, hyy⟩ := held_of_trod Tryz.underlying68 hrd
  have k0 := h0
  have lt0 : ∀ x ∈ p0, x.block < W.heap.size := by obtain ⟨m, hm⟩ := k0; exact DataW.trod_lt m _ _ _ hm
  have k1 := h1
  have lt1 : ∀ x ∈ p1, x.block < W.heap.size := by obtain ⟨m, hm⟩ := k1; exact DataW.trod_lt m _ _ _ hm
  obtain ⟨s, rfl, _, _, hsz⟩ := Go.ChangeMaps.open_string Tryz.underlying9 (hval 1 9 v1 rfl rfl) h1
  obtain ⟨va, vn, vc, hvs⟩ := okWide_slice Tryz.underlying22 (hval 0 22 v0 rfl rfl)
  subst hvs
  obtain ⟨fu, hfu⟩ := h0
  simp only [Value.cells] at hfu
  obtain ⟨a, n, cap, b, off, N, K, M, hv0, hga, hR, hN, hn⟩ := openRules hfu
  cases hv0
  clear hA0 hval0
  refine (lawLexMeans va b off vn vc N K M s W 186 ea hErr hTy hga hR hN hn (by unfold maxLen at hsz; omega)).mono fun e W' ⟨he, bel⟩ => ?_
  subst he
  cases hyy
  have hvars : DataW.TrodVars enc Tryz.prog W' (fun b => decide (b < W.heap.size)) [errName] _ _ := trodVars_mk1 gErr tErr (var_below hvar bel) (trod_held (enc := enc) Tryz.underlying68 hix 0)
  exact ⟨_, rfl, _, _, _, [], _, _, hW', trodAll_mk1 (shut_bool Tryz.underlying4 _), (trodAll_cons_mk (Below.trod laidOut (by kernel_rfl) (of_decide_eq_true (by kernel_rfl)) k0 bel lt0) (trodAll_cons_mk (Below.trod laidOut (by kernel_rfl) (of_decide_eq_true (by kernel_rfl)) k1 bel lt1) trodAll_mk0)), hvars, bel.frame _, fun h => by cases h⟩

end Go.Proofs.YtplpdikkkbiacaaGreatDoor
namespace Go.Proofs.YtplpdikkkbiacaaGreatDoor
open Go.ChangeShapes Go.WideShapes Go.ChangeAt Go.RowKit
set_option linter.unusedVariables false
set_option linter.unusedSimpArgs false

theorem and_t {a b : Bool} (h : a = true) (k : b = true) : (a && b) = true := by rw [h, k]; rfl
set_option maxHeartbeats 2000000 in
theorem closedFacts : joinedFacts Tryz.prog 3 Tryz.f3 Rows.fnExactLexMeansSpec Rows.fnExactLexMeansRow = true := by
  unfold joinedFacts
  iterate 31 (refine and_t ?_ ?_; rotate_left; (focus as_aux_lemma => kernel_rfl))
  kernel_rfl

theorem over3 : Rows.FnExactLexMeansSaid :=
  OpenClaim.holds_of_wide 3 Tryz.f3 rfl rfl rfl rfl rfl rfl rfl ⟨rfl, rfl, rfl, rfl, rfl⟩ rfl rfl rfl rfl rfl (by kernel_rfl) Tryz.func3 closedFacts
    (of_decide_eq_true (by kernel_rfl)) (by unfold Func.isWrapper; first | (rw [if_pos (by decide +kernel)]; kernel_rfl) | (rw [if_neg (by decide +kernel)]; exact ⟨rfl, rfl⟩))
    (fun os started H enc _ => lifted3 os started H enc)

end Go.Proofs.YtplpdikkkbiacaaGreatDoor
namespace Go.Proofs.YtplpdikkkbiacaaGreatDoor
open Go.ChangeShapes Go.WideShapes Go.ChangeAt Go.RowKit
set_option linter.unusedVariables false
set_option linter.unusedSimpArgs false

theorem lexMeans_card : Rows.FnExactLexMeansCardSaid :=
  Claim7.holds_tied_plain_at .later [] [.data, .data, .data, .handle, .sentinel] true Rows.fnExactLexMeansCard.stood.harness true
    over3 (fun _ h => by cases h) (by kernel_rfl) (fun _ h => by cases h) fnExactLexMeans_row_tie rfl ⟨rfl, rfl⟩ (by kernel_rfl) rfl
    (fun f fn hf hfn => by
      obtain rfl : f = 3 := Option.some.inj ((show Tryz.prog.funcNamed Rows.fnExactLexMeansRow.func = some 3 by kernel_rfl).symm.trans hf) |>.symm
      obtain rfl : fn = Tryz.f3 := (Option.some.inj (Tryz.func3.symm.trans hfn)).symm
      exact ⟨by kernel_rfl, fun j t ht => by
        rw [Tryz.params3] at ht
        have hm : t ∈ [22, 9] := by simpa using Array.mem_of_getElem? ht
        have hall : ([22, 9].all fun u => !Tryz.prog.wantsStandIn u) = true := by kernel_rfl
        exact (show Tryz.prog.wantsStandIn t = false by simpa using List.all_eq_true.1 hall t hm)⟩)
    (by kernel_rfl)
end Go.Proofs.YtplpdikkkbiacaaGreatDoor

