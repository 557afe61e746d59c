/- errors.As at an error that is none and at one that says that they are no rules; areRules -/
import Derived.Test.YtplpdikkkbiacaaGreatDoorUg
import Derived.LaidEql
import Derived.Stop.Asserts
import Derived.RowKitTokens
namespace Go.Proofs.YtplpdikkkbiacaaGreatDoor
open Go.RowKit Go.Extern.Stop Go.Stop Go.Extern
set_option linter.unusedVariables false
set_option linter.unusedSimpArgs false

theorem as_nil (t : Value) (w : World) : Calls Tryz.prog 46 #[.nilIface, t] w fun e w' => e = .returned (.bool false) ∧ w' = w := by
  go_enter Tryz.func46, Tryz.ntmps46
  go_wp2
  go_ret
  exact ⟨rfl, rfl⟩

/-! what the model's entries for internal/reflectlite tell at the two types: the error's own, and a pointer to it -/
theorem nrValueP (t : Addr) (w : World) : (ReflectliteValue.unpack (.iface 87 (.pointer (some t)))).run Tryz.prog w
    = .ok (.agg #[.pointer (some ⟨5, 87, none⟩), .pointer (some ⟨w.heap.size, 0, none⟩), .int .u64 150]) (w.alloc (.cells #[.pointer (some t)] 87)) := by kernel_rfl
theorem nrTypeP (a : Addr) (w : World) : (ReflectliteValue.methodAny (ReflectliteValue.valueError "reflectlite.Value.Type" 0) (fun t _ _ _ => ReflectliteType.toType t) #[.agg #[.pointer (some ⟨5, 87, none⟩), .pointer (some a), .int .u64 150]]).run Tryz.prog w
    = .ok (.iface 131 (.agg #[.pointer (some ⟨5, 87, none⟩)])) w := by kernel_rfl
theorem nrMethodKind (h : Value) (w : World) : (Go.method 325 131 (.agg #[h]) "Kind").run Tryz.prog w = .ok (118, h) w := by kernel_rfl
theorem nrKindP (w : World) : ((ReflectliteType.abiMethod fun t => (fun a : Nat => Value.int IntKind.u8 (a : Int)) <$> Rtype.kind t) #[.pointer (some ⟨5, 87, none⟩)]).run Tryz.prog w = .ok (.int .u8 22) w := by kernel_rfl
theorem nrKindE (w : World) : ((ReflectliteType.abiMethod fun t => (fun a : Nat => Value.int IntKind.u8 (a : Int)) <$> Rtype.kind t) #[.pointer (some ⟨5, 85, none⟩)]).run Tryz.prog w = .ok (.int .u8 25) w := by kernel_rfl
theorem nrRlm (z : Sem Value) (f : TypeId → Addr → Nat → Nat → Sem Value) (v : Value) :
    ReflectliteValue.method z f #[v] = (do match ← ReflectliteValue.parts v with | none => z | some (t, a, fl) => f t a fl (fl % 32)) := rfl
theorem nrPartsP (a : Addr) (w : World) : (ReflectliteValue.parts (.agg #[.pointer (some ⟨5, 87, none⟩), .pointer (some a), .int .u64 150])).run Tryz.prog w = .ok (some (87, a, 150)) w := by kernel_rfl
theorem nrIsNilP (a p : Addr) (W : World) (ha : W.cell? a = some (.pointer (some p))) :
    (ReflectliteValue.method (ReflectliteValue.valueError "reflectlite.Value.IsNil" 0) ReflectliteValue.isNil #[.agg #[.pointer (some ⟨5, 87, none⟩), .pointer (some a), .int .u64 150]]).run Tryz.prog W = .ok (.bool false) W := by
  rw [nrRlm]
  simp only [Sem.run_bind, nrPartsP, Result.andThen]
  simp [ReflectliteValue.isNil, loadVar, isAgg, underlying, Tryz.underlying87, ha, Result.andThen]
theorem nrMethodElem (h : Value) (w : World) : (Go.method 325 131 (.agg #[h]) "Elem").run Tryz.prog w = .ok (128, .agg #[h]) w := by kernel_rfl
theorem nrMethodImplements (h : Value) (w : World) : (Go.method 325 131 (.agg #[h]) "Implements").run Tryz.prog w = .ok (129, .agg #[h]) w := by kernel_rfl
theorem nrMethodAssignable (h : Value) (w : World) : (Go.method 325 131 (.agg #[h]) "AssignableTo").run Tryz.prog w = .ok (126, .agg #[h]) w := by kernel_rfl
theorem nrElemP (w : World) : (ReflectliteType.method ReflectliteType.elem #[.agg #[.pointer (some ⟨5, 87, none⟩)]]).run Tryz.prog w = .ok (.iface 131 (.agg #[.pointer (some ⟨5, 85, none⟩)])) w := by kernel_rfl
theorem nrImplements (w : World) : (ReflectliteType.relation "Implements" ReflectliteType.implements_ #[.agg #[.pointer (some ⟨5, 85, none⟩)], .iface 131 (.agg #[.pointer (some ⟨5, 68, none⟩)])]).run Tryz.prog w = .ok (.bool true) w := by kernel_rfl
theorem nrTypeOf (v : Value) (w : World) : (ReflectliteType.typeOf #[.iface 85 v]).run Tryz.prog w = .ok (.iface 131 (.agg #[.pointer (some ⟨5, 85, none⟩)])) w := by kernel_rfl
theorem nrAssignable (w : World) : (ReflectliteType.relation "AssignableTo" ReflectliteType.assignableTo #[.agg #[.pointer (some ⟨5, 85, none⟩)], .iface 131 (.agg #[.pointer (some ⟨5, 85, none⟩)])]).run Tryz.prog w = .ok (.bool true) w := by kernel_rfl
theorem nrValueE (p : Int) (s : ByteArray) (w : World) : (ReflectliteValue.unpack (.iface 85 (.agg #[.int .i64 p, .string s]))).run Tryz.prog w
    = .ok (.agg #[.pointer (some ⟨5, 85, none⟩), .pointer (some ⟨w.heap.size, 0, none⟩), .int .u64 153]) (w.alloc (.cells #[.int .i64 p, .string s] 85)) := by kernel_rfl
theorem nrElemOf (w : World) : (Rtype.elem? 87).run Tryz.prog w = .ok (some 85) w := by kernel_rfl
theorem nrMk (p : Addr) (w : World) : (ReflectliteValue.mk 85 p ReflectliteValue.flagAddr).run Tryz.prog w = .ok (.agg #[.pointer (some ⟨5, 85, none⟩), .pointer (some p), .int .u64 409]) w := by kernel_rfl
theorem nrElemV (a p : Addr) (W : World) (ha : W.cell? a = some (.pointer (some p))) :
    (ReflectliteValue.method (ReflectliteValue.valueError "reflectlite.Value.Elem" 0) ReflectliteValue.elem #[.agg #[.pointer (some ⟨5, 87, none⟩), .pointer (some a), .int .u64 150]]).run Tryz.prog W
      = .ok (.agg #[.pointer (some ⟨5, 85, none⟩), .pointer (some p), .int .u64 409]) W := by
  rw [nrRlm]
  simp only [Sem.run_bind, nrPartsP, Result.andThen]
  simp [ReflectliteValue.elem, loadVar, isAgg, underlying, Tryz.underlying87, ha, Result.andThen, nrElemOf, nrMk]
theorem nrRls (v x : Value) : ReflectliteValue.set #[v, x] = (do
    let (some (dst, a, fl), some (src, b, _)) := (← ReflectliteValue.parts v, ← ReflectliteValue.parts x)
      | unsupported (.noEntry "extern/(internal/reflectlite.Value).Set.zeroValue")
    if fl / ReflectliteValue.flagAddr % 2 == 0 then unsupported (.noEntry "extern/(internal/reflectlite.Value).Set.unaddressable")
    let val ← loadVar src b
    if ← Rtype.directlyAssignable dst src then storeVar dst a val
    else if ← Rtype.implements dst src then
      if (← Rtype.kind src) == 20 then
        match val with
        | .nilIface => unsupported (.noEntry "extern/reflectlite: a nil value of one interface type handed on as a value of another")
        | _ => storeVar dst a val
      else storeVar dst a (.iface src val)
    else panicString ("reflectlite.Set: value of type " ++ (← Rtype.spelt src) ++ " is not assignable to type " ++ (← Rtype.spelt dst))
    pure (.tuple #[])) := rfl
theorem nrPartsA (a : Addr) (w : World) : (ReflectliteValue.parts (.agg #[.pointer (some ⟨5, 85, none⟩), .pointer (some a), .int .u64 409])).run Tryz.prog w = .ok (some (85, a, 409)) w := by kernel_rfl
theorem nrPartsE (a : Addr) (w : World) : (ReflectliteValue.parts (.agg #[.pointer (some ⟨5, 85, none⟩), .pointer (some a), .int .u64 153])).run Tryz.prog w = .ok (some (85, a, 153)) w := by kernel_rfl
theorem nrDirect (w : World) : (Rtype.directlyAssignable 85 85).run Tryz.prog w = .ok true w := by kernel_rfl
theorem nrSize (w : World) : (sizeOf 85).run Tryz.prog w = .ok 2 w := by kernel_rfl
/-- (Value).Set: the error's variable at t gets what the Value's own variable holds -/
theorem nrSet (tb b : Nat) (p : Int) (s : ByteArray) (o0 o1 : Value) (W : World) (hb0 : W.cell? ⟨b, 0, none⟩ = some (.int .i64 p)) (hb1 : W.cell? ⟨b, 1, none⟩ = some (.string s)) (ht0 : W.cell? ⟨tb, 0, none⟩ = some o0) (ht1 : W.cell? ⟨tb, 1, none⟩ = some o1) (hf : ∀ o, W.frozen? ⟨tb, o, none⟩ = false) :
    (ReflectliteValue.set #[.agg #[.pointer (some ⟨5, 85, none⟩), .pointer (some ⟨tb, 0, none⟩), .int .u64 409], .agg #[.pointer (some ⟨5, 85, none⟩), .pointer (some ⟨b, 0, none⟩), .int .u64 153]]).run Tryz.prog W
      = .ok (.tuple #[]) ((W.setCell ⟨tb, 0, none⟩ (.int .i64 p)).setCell ⟨tb, 1, none⟩ (.string s)) := by
  have hl : (loadCells ⟨b, 0, none⟩ 2).run Tryz.prog W = .ok #[.int .i64 p, .string s] W := by
    have := run_loadCells_list (P := Tryz.prog) (w := W) ⟨b, 0, none⟩ [.int .i64 p, .string s] (fun j v hj => by
      match j, hj with
      | 0, hj => simp at hj; subst hj; simpa [Addr.add] using hb0
      | 1, hj => simp at hj; subst hj; simpa [Addr.add] using hb1)
    simpa using this
  rw [nrRls]
  simp only [Sem.run_bind, nrPartsA, nrPartsE, Result.andThen]
  simp [ReflectliteValue.flagAddr, loadVar, isAgg, underlying, Tryz.underlying85, hb0, hb1, Result.andThen, nrDirect, nrSize, storeVar, Value.cells, storeCells, Addr.add]
  rw [hl]
  simp only [Result.andThen]
  simp [storeCells, Addr.add]
  rw [run_store Tryz.prog W ⟨tb, 0, none⟩ _ _ (by rfl)]
  simp [ht0, hf]
  have hc2 : (W.setCell ⟨tb, 0, none⟩ (.int .i64 p)).cell? ⟨tb, 1, none⟩ = some o1 := by simp [go_sem, ht1]
  rw [run_store Tryz.prog _ ⟨tb, 1, none⟩ _ _ (by rfl)]
  simp [hc2, hf]

set_option maxHeartbeats 4000000 in
theorem asIn_hit (p : Int) (s : ByteArray) (tb ab : Nat) (o0 o1 : Value) (W : World) (ha : W.cell? ⟨ab, 0, none⟩ = some (.pointer (some ⟨tb, 0, none⟩))) (ht0 : W.cell? ⟨tb, 0, none⟩ = some o0) (ht1 : W.cell? ⟨tb, 1, none⟩ = some o1) (hf : ∀ o, W.frozen? ⟨tb, o, none⟩ = false) :
    Calls Tryz.prog 63 #[.iface 85 (.agg #[.int .i64 p, .string s]), .iface 87 (.pointer (some ⟨tb, 0, none⟩)), .agg #[.pointer (some ⟨5, 87, none⟩), .pointer (some ⟨ab, 0, none⟩), .int .u64 150], .iface 131 (.agg #[.pointer (some ⟨5, 85, none⟩)])] W
      fun e w' => e = .returned (.bool true) ∧ Below tb W w' := by
  have hta : tb < W.heap.size := World.block_lt_of_cell? _ _ ht0
  have haa : ab < W.heap.size := World.block_lt_of_cell? _ _ ha
  have hT := @run_callFunc_extern Tryz.prog 73 _ ReflectliteType.typeOf Tryz.func73 (by kernel_rfl) (by kernel_rfl) (by kernel_rfl) (by kernel_rfl)
  have hA := @run_callFunc_extern Tryz.prog 126 _ (ReflectliteType.relation "AssignableTo" ReflectliteType.assignableTo) Tryz.func126 (by kernel_rfl) (by kernel_rfl) (by kernel_rfl) (by kernel_rfl)
  have hE := @run_callFunc_extern Tryz.prog 74 _ (ReflectliteValue.method (ReflectliteValue.valueError "reflectlite.Value.Elem" 0) ReflectliteValue.elem) Tryz.func74 (by kernel_rfl) (by kernel_rfl) (by kernel_rfl) (by kernel_rfl)
  have hV := @run_callFunc_extern Tryz.prog 60 _ (fun args => ReflectliteValue.unpack (args.getD 0 (.tuple #[]))) Tryz.func60 (by kernel_rfl) (by kernel_rfl) (by kernel_rfl) (by kernel_rfl)
  have hS := @run_callFunc_extern Tryz.prog 75 _ ReflectliteValue.set Tryz.func75 (by kernel_rfl) (by kernel_rfl) (by kernel_rfl) (by kernel_rfl)
  have tO := nrTypeOf
  have mA := nrMethodAssignable
  have as1 := nrAssignable
  have ve := nrValueE p s
  have el := nrElemV ⟨ab, 0, none⟩ ⟨tb, 0, none⟩ (W.alloc (.cells #[.pointer (some ⟨5, 87, none⟩), .pointer (some ⟨ab, 0, none⟩), .int .u64 150] 107)) (by rw [World.cell?_alloc_lt _ _ ⟨ab, 0, none⟩ haa]; exact ha)
  have st := nrSet tb (W.heap.size + 1) p s o0 o1 ((W.alloc (.cells #[.pointer (some ⟨5, 87, none⟩), .pointer (some ⟨ab, 0, none⟩), .int .u64 150] 107)).alloc (.cells #[.int .i64 p, .string s] 85))
    (by simp [go_sem]) (by simp [go_sem])
    (by rw [World.cell?_alloc_lt _ _ ⟨tb, 0, none⟩ (by simp; omega), World.cell?_alloc_lt _ _ ⟨tb, 0, none⟩ hta]; exact ht0)
    (by rw [World.cell?_alloc_lt _ _ ⟨tb, 1, none⟩ (by simp; omega), World.cell?_alloc_lt _ _ ⟨tb, 1, none⟩ hta]; exact ht1)
    (fun o => by rw [World.frozen?_alloc_old _ _ ⟨tb, o, none⟩ (by simp; omega), World.frozen?_alloc_old _ _ ⟨tb, o, none⟩ (Nat.ne_of_lt hta)]; exact hf o)
  have hb : Below tb W ((((W.setCell ⟨tb, 0, none⟩ (.int .i64 p)).setCell ⟨tb, 1, none⟩ (.string s)).alloc (.cells #[.pointer (some ⟨5, 87, none⟩), .pointer (some ⟨ab, 0, none⟩), .int .u64 150] 107)).alloc (.cells #[.int .i64 p, .string s] 85)) :=
    ((((Below.refl tb W).setCell (Nat.le_refl _) _).setCell (Nat.le_refl _) _).alloc (by simp; omega) _).alloc (by simp; omega) _
  go_enter Tryz.func63, Tryz.ntmps63
  go_wp2
  refine wp_loop_rounds 1 ?_
  rw [rounds_succ]
  go_wp2
  go_ret
  exact ⟨rfl, hb⟩

/-- the type that errors.As asks of what it is given, as the package's variable has it -/
def ErrTy (w : World) : Prop := w.cell? ⟨0, 0, none⟩ = some (.iface 131 (.agg #[.pointer (some ⟨5, 68, none⟩)]))
theorem ErrTy.below {w w' : World} (h : ErrTy w) (hb : Below w.heap.size w w') : ErrTy w' := (hb.cell (p := ⟨0, 0, none⟩) (World.block_lt_of_cell? _ _ h)).trans h

set_option maxRecDepth 100000 in
set_option maxHeartbeats 4000000 in
theorem as_hit (p : Int) (s : ByteArray) (tb : Nat) (o0 o1 : Value) (W : World) (hg : ErrTy W) (ht0 : W.cell? ⟨tb, 0, none⟩ = some o0) (ht1 : W.cell? ⟨tb, 1, none⟩ = some o1) (hf : ∀ o, W.frozen? ⟨tb, o, none⟩ = false) :
    Calls Tryz.prog 46 #[.iface 85 (.agg #[.int .i64 p, .string s]), .iface 87 (.pointer (some ⟨tb, 0, none⟩))] W
      fun e w' => e = .returned (.bool true) ∧ Below tb W w' := by
  have hta : tb < W.heap.size := World.block_lt_of_cell? _ _ ht0
  have hga : 0 < W.heap.size := World.block_lt_of_cell? _ _ hg
  have hV := @run_callFunc_extern Tryz.prog 60 _ (fun args => ReflectliteValue.unpack (args.getD 0 (.tuple #[]))) Tryz.func60 (by kernel_rfl) (by kernel_rfl) (by kernel_rfl) (by kernel_rfl)
  have hTy := @run_callFunc_extern Tryz.prog 61 _ (ReflectliteValue.methodAny (ReflectliteValue.valueError "reflectlite.Value.Type" 0) (fun t _ _ _ => ReflectliteType.toType t)) Tryz.func61 (by kernel_rfl) (by kernel_rfl) (by kernel_rfl) (by kernel_rfl)
  have hN := @run_callFunc_extern Tryz.prog 62 _ (ReflectliteValue.method (ReflectliteValue.valueError "reflectlite.Value.IsNil" 0) ReflectliteValue.isNil) Tryz.func62 (by kernel_rfl) (by kernel_rfl) (by kernel_rfl) (by kernel_rfl)
  have hK := @run_callFunc_extern Tryz.prog 118 _ (ReflectliteType.abiMethod fun t => do pure (.int .u8 (← Rtype.kind t))) Tryz.func118 (by kernel_rfl) (by kernel_rfl) (by kernel_rfl) (by kernel_rfl)
  have hEl := @run_callFunc_extern Tryz.prog 128 _ (ReflectliteType.method ReflectliteType.elem) Tryz.func128 (by kernel_rfl) (by kernel_rfl) (by kernel_rfl) (by kernel_rfl)
  have hI := @run_callFunc_extern Tryz.prog 129 _ (ReflectliteType.relation "Implements" ReflectliteType.implements_) Tryz.func129 (by kernel_rfl) (by kernel_rfl) (by kernel_rfl) (by kernel_rfl)
  have vp := nrValueP
  have ty := nrTypeP
  have mK := nrMethodKind
  have mE := nrMethodElem
  have mI := nrMethodImplements
  have kp := nrKindP
  have ke := nrKindE
  have ep := nrElemP
  have im := nrImplements
  have hB2 : Below W.heap.size W ((W.alloc (.cells #[.pointer (some ⟨tb, 0, none⟩)] 87)).alloc (.cells #[.pointer (some ⟨5, 87, none⟩), .pointer (some ⟨W.heap.size, 0, none⟩), .int .u64 150] 107)) := ((Below.refl _ W).alloc (Nat.le_refl _) _).alloc (by simp) _
  have a0 : ((W.alloc (.cells #[.pointer (some ⟨tb, 0, none⟩)] 87)).alloc (.cells #[.pointer (some ⟨5, 87, none⟩), .pointer (some ⟨W.heap.size, 0, none⟩), .int .u64 150] 107)).cell? ⟨W.heap.size, 0, none⟩ = some (.pointer (some ⟨tb, 0, none⟩)) := by simp [go_sem]
  have nl := nrIsNilP ⟨W.heap.size, 0, none⟩ ⟨tb, 0, none⟩ ((W.alloc (.cells #[.pointer (some ⟨tb, 0, none⟩)] 87)).alloc (.cells #[.pointer (some ⟨5, 87, none⟩), .pointer (some ⟨W.heap.size, 0, none⟩), .int .u64 150] 107)) a0
  have hg2 : ((W.alloc (.cells #[.pointer (some ⟨tb, 0, none⟩)] 87)).alloc (.cells #[.pointer (some ⟨5, 87, none⟩), .pointer (some ⟨W.heap.size, 0, none⟩), .int .u64 150] 107)).cell? ⟨0, 0, none⟩ = some (.iface 131 (.agg #[.pointer (some ⟨5, 68, none⟩)])) := hg.below hB2
  have HC : Hid (Calls Tryz.prog 63 #[.iface 85 (.agg #[.int .i64 p, .string s]), .iface 87 (.pointer (some ⟨tb, 0, none⟩)), .agg #[.pointer (some ⟨5, 87, none⟩), .pointer (some ⟨W.heap.size, 0, none⟩), .int .u64 150], .iface 131 (.agg #[.pointer (some ⟨5, 85, none⟩)])] ((W.alloc (.cells #[.pointer (some ⟨tb, 0, none⟩)] 87)).alloc (.cells #[.pointer (some ⟨5, 87, none⟩), .pointer (some ⟨W.heap.size, 0, none⟩), .int .u64 150] 107))
      fun e w' => e = .returned (.bool true) ∧ Below tb ((W.alloc (.cells #[.pointer (some ⟨tb, 0, none⟩)] 87)).alloc (.cells #[.pointer (some ⟨5, 87, none⟩), .pointer (some ⟨W.heap.size, 0, none⟩), .int .u64 150] 107)) w') := asIn_hit p s tb W.heap.size o0 o1 ((W.alloc (.cells #[.pointer (some ⟨tb, 0, none⟩)] 87)).alloc (.cells #[.pointer (some ⟨5, 87, none⟩), .pointer (some ⟨W.heap.size, 0, none⟩), .int .u64 150] 107)) a0 ((hB2.cell (p := ⟨tb, 0, none⟩) hta).trans ht0) ((hB2.cell (p := ⟨tb, 1, none⟩) hta).trans ht1) (fun o => (hB2.frozen (p := ⟨tb, o, none⟩) hta).trans (hf o))
  have HB : Hid (Below tb W ((W.alloc (.cells #[.pointer (some ⟨tb, 0, none⟩)] 87)).alloc (.cells #[.pointer (some ⟨5, 87, none⟩), .pointer (some ⟨W.heap.size, 0, none⟩), .int .u64 150] 107))) := hB2.mono (by omega)
  clear hB2 a0 ht0 ht1 hf
  unfold ErrTy at hg
  go_enter Tryz.func46, Tryz.ntmps46
  go_wp2_with (go_at_call 63; refine HC.out.mono ?_; rintro e w' ⟨rfl, hb⟩)
  go_ret
  exact ⟨rfl, HB.out.trans hb⟩

end Go.Proofs.YtplpdikkkbiacaaGreatDoor

