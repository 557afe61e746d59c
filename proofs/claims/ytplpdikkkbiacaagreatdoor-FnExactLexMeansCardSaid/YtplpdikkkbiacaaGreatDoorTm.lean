/- the walks of comesThrough and of impl's RexOk -/
import Derived.Test.YtplpdikkkbiacaaGreatDoorTk
import Derived.Defers
import Derived.Recover
namespace Go.Proofs.YtplpdikkkbiacaaGreatDoor
open Go.RowKit Go.Shelf
set_option linter.unusedVariables false
set_option linter.unusedSimpArgs false

theorem catch_pan (p : Addr) (x : Bool) (u : TypeId) (pv : Value) (older : List PanicEntry) (w : World) (hc : w.cell? p = some (.bool x)) (hz : w.frozen? p = false) :
    CallsD Tryz.prog 77 #[.pointer (some p)] (.panicking ({ v := .iface u pv, recovered := false } :: older)) w fun e u' w' =>
      e = .returned (.tuple #[]) ∧ u' = .panicking ({ v := .iface u pv, recovered := true } :: older) ∧ w' = w.setCell p (.bool false) := by
  refine callsD_of_wpS Tryz.func77 rfl fun c₀ cs hu => ?_
  apply wpS_region
  simp [wpOpsS, go_sem, recoverD, hu, Tryz.ntmps77, hc, hz, bodyPostS, results, Tryz.results77]

theorem catch_idle (p : Addr) (x : Bool) (w : World) (hc : w.cell? p = some (.bool x)) (hz : w.frozen? p = false) :
    CallsD Tryz.prog 77 #[.pointer (some p)] .returning w fun e u' w' => e = .returned (.tuple #[]) ∧ u' = .returning ∧ w' = w.setCell p (.bool true) := by
  refine callsD_of_wpS Tryz.func77 rfl fun c₀ cs hu => ?_
  apply wpS_region
  simp [wpOpsS, go_sem, recoverD, hu, Tryz.ntmps77, hc, hz, bodyPostS, results, Tryz.results77]
  cases c₀
  simp_all

theorem In.lt {B : Nat → Prop} {w : World} {S : Sh} : ∀ {M : Mx}, In B w S M → In (· < w.heap.size) w S M := by
  induction S using Sh.ind with
  | h kind n L H m K ih =>
    rintro M ⟨a, b, off, cap, a', b', off', cap', e1, hn, hs, hl, e2, hm, hl', h⟩
    exact ⟨a, b, off, cap, a', b', off', cap', e1, fun x => ⟨(hn x).1, World.block_lt_of_cell? _ _ (hs 0 x).1⟩, hs, hl, e2, fun x => ⟨(hm x).1, World.block_lt_of_cell? _ _ (h 0 x).1.1⟩, hl', fun i hi => ⟨(h i hi).1, ih i hi (h i hi).2⟩⟩

set_option maxHeartbeats 1000000 in
theorem try_any (S : Sh) (M : Mx) (w : World) (t : TypeId) (ea : Addr) (hE : Err w t ea) (hT : In AnyB w S M) (hcnt : cnt S ≤ 1048576) (ok : Bool) (HOK : Hid (okR S = ok)) (bx : Nat) (hk : Kid w bx 0 S M) :
    Calls Tryz.prog 67 #[.pointer (some ⟨bx, 0, none⟩)] w (ChkRes ok t ea w) := by
  have H := checkRex_any S M w t ea hE hT.lt hcnt ok HOK
  obtain ⟨sa, sn, sc, ka, km, kc, es, ek⟩ := hT.slices
  obtain ⟨c1, c2, c3⟩ := hk
  rw [vx, es, ek] at H
  rw [es] at c2
  rw [ek] at c3
  simp only [Nat.zero_add] at c2 c3
  have HC : Hid (Calls Tryz.prog 68 #[.agg #[.int .i64 S.kind, .slice sa sn sc, .slice ka km kc]] w (ChkRes ok t ea w)) := H
  clear H es ek hE hT
  go_enter Tryz.func67, Tryz.ntmps67
  go_wp2_with fail
  refine HC.out.mono ?_
  rintro e w1 ⟨⟨hok, rfl⟩ | ⟨hok, rfl⟩, hb⟩
  · have HO : Hid (ok = true) := hok
    clear hok
    go_wp2_with fail
    go_end0
    exact ⟨.inl ⟨HO.out, rfl⟩, hb⟩
  · exact ⟨rfl, .inr ⟨hok, rfl⟩, hb⟩

set_option maxHeartbeats 1000000 in
theorem comesThrough_any (fv : FuncId) (cap : Array Value) (henter : ∀ args w, (callFunc fv args).run Tryz.prog w = .ok (.enter fv args) w) (w : World) (t : TypeId) (ea : Addr) (ok : Bool)
    (H : ∀ w1, Below w.heap.size w w1 → Calls Tryz.prog fv cap w1 (ChkRes ok t ea w1)) :
    Calls Tryz.prog 66 #[.func (.func fv) #[] cap] w fun e w' => e = .returned (.bool ok) ∧ Below w.heap.size w w' := by
  have hmf : ∀ (fn : Fn) (first cap : Array Value) (w : World), (Instr.makeFunc fn first cap).run Tryz.prog w = .ok (.func fn first cap) w := fun _ _ _ _ => rfl
  have HH : Hid (∀ w1, Below w.heap.size w w1 → Calls Tryz.prog fv cap w1 (ChkRes ok t ea w1)) := H
  clear H
  go_enter_defers Tryz.func66, Tryz.ntmps66
  go_wp2_with fail
  have hb0 : Below w.heap.size w (w.alloc (.cells #[.bool false] 4)) := (Below.refl _ _).alloc (Nat.le_refl _) _
  refine (HH.out _ hb0).mono ?_
  rintro e w1 ⟨⟨hok, rfl⟩ | ⟨hok, rfl⟩, hb⟩
  · subst hok
    have c0 : w1.cell? ⟨w.heap.size, 0, none⟩ = some (.bool false) := (hb.cell (p := ⟨w.heap.size, 0, none⟩) (by simp)).trans (by simp [go_sem])
    have f0 : w1.frozen? ⟨w.heap.size, 0, none⟩ = false := (hb.frozen (p := ⟨w.heap.size, 0, none⟩) (by simp)).trans (by simp [go_sem])
    have hB1 := hb0.trans (hb.mono hb0.size)
    go_wp2_with fail
    refine leaves_cons (f := 77) (args := #[.pointer (some ⟨w.heap.size, 0, none⟩)]) (by simp) (by simp [go_sem]) ?_
    have c1 : (w1.setCell ⟨w.heap.size, 0, none⟩ (.bool true)).cell? ⟨w.heap.size, 0, none⟩ = some (.bool true) := World.cell?_setCell_same' _ _ _ (by rw [c0]; rfl)
    refine (catch_idle ⟨w.heap.size, 0, none⟩ true _ c1 (by rw [World.frozen?_setCell]; exact f0)).mono ?_
    rintro e u' w'' ⟨rfl, rfl, rfl⟩
    have c2 : ((w1.setCell ⟨w.heap.size, 0, none⟩ (.bool true)).setCell ⟨w.heap.size, 0, none⟩ (.bool true)).cell? ⟨w.heap.size, 0, none⟩ = some (.bool true) := World.cell?_setCell_same' _ _ _ (by rw [c1]; rfl)
    refine ⟨.bool true, by simp [results, Tryz.results66, go_sem, c2], rfl, ?_⟩
    exact (hB1.setCell (by simp) _).setCell (by simp) _
  · subst hok
    have c0 : w1.cell? ⟨w.heap.size, 0, none⟩ = some (.bool false) := (hb.cell (p := ⟨w.heap.size, 0, none⟩) (by simp)).trans (by simp [go_sem])
    have f0 : w1.frozen? ⟨w.heap.size, 0, none⟩ = false := (hb.frozen (p := ⟨w.heap.size, 0, none⟩) (by simp)).trans (by simp [go_sem])
    have hB1 := hb0.trans (hb.mono hb0.size)
    refine leaves_cons (f := 77) (args := #[.pointer (some ⟨w.heap.size, 0, none⟩)]) (by simp) (by simp [go_sem]) ?_
    refine (catch_pan ⟨w.heap.size, 0, none⟩ false t _ [] _ c0 f0).mono ?_
    rintro e u' w'' ⟨rfl, rfl, rfl⟩
    have c2 : (w1.setCell ⟨w.heap.size, 0, none⟩ (.bool false)).cell? ⟨w.heap.size, 0, none⟩ = some (.bool false) := World.cell?_setCell_same' _ _ _ (by rw [c0]; rfl)
    refine ⟨.bool false, by simp [results, Tryz.results66, go_sem, c2], rfl, ?_⟩
    exact hB1.setCell (by simp) _

set_option maxHeartbeats 1000000 in
theorem implRexOk_any (S : Sh) (M : Mx) (w : World) (t : TypeId) (ea : Addr) (hE : Err w t ea) (hT : In AnyB w S M) (hcnt : cnt S ≤ 1048576) :
    Calls Tryz.prog 48 #[vx S M] w fun e w' => e = .returned (.bool (okR S)) ∧ Below w.heap.size w w' := by
  have hmf : ∀ (fn : Fn) (first cap : Array Value) (w : World), (Instr.makeFunc fn first cap).run Tryz.prog w = .ok (.func fn first cap) w := fun _ _ _ _ => rfl
  obtain ⟨sa, sn, sc, ka, km, kc, es, ek⟩ := hT.slices
  have hb0 : Below w.heap.size w (w.alloc (.cells #[.int .i64 S.kind, .slice sa sn sc, .slice ka km kc] 50)) := (Below.refl _ _).alloc (Nat.le_refl _) _
  have hk : Kid (w.alloc (.cells #[.int .i64 S.kind, .slice sa sn sc, .slice ka km kc] 50)) w.heap.size 0 S M := by
    refine ⟨by simp [go_sem], ?_, ?_⟩
    · rw [es]; simp [go_sem]
    · rw [ek]; simp [go_sem]
  have HC : Hid (Calls Tryz.prog 66 #[.func (.func 67) #[] #[.pointer (some ⟨w.heap.size, 0, none⟩)]] (w.alloc (.cells #[.int .i64 S.kind, .slice sa sn sc, .slice ka km kc] 50)) fun e w' => e = .returned (.bool (okR S)) ∧ Below (w.alloc (.cells #[.int .i64 S.kind, .slice sa sn sc, .slice ka km kc] 50)).heap.size (w.alloc (.cells #[.int .i64 S.kind, .slice sa sn sc, .slice ka km kc] 50)) w') :=
    comesThrough_any 67 #[.pointer (some ⟨w.heap.size, 0, none⟩)] (enters_of Tryz.func67 (by kernel_rfl) rfl) _ t ea (okR S) (fun w1 hb1 =>
      try_any S M w1 t ea ((hE.below hb0).below hb1) ((hT.below hb0).below hb1) hcnt (okR S) rfl w.heap.size (hk.keep (fun h => hb1.block _ h)))
  rw [vx, es, ek]
  clear es ek hk hT hE
  go_enter Tryz.func48, Tryz.ntmps48
  go_wp2_with fail
  refine HC.out.mono ?_
  rintro e w1 ⟨rfl, hb1⟩
  go_wp2_with fail
  go_ret
  exact ⟨rfl, hb0.trans (hb1.mono hb0.size)⟩

end Go.Proofs.YtplpdikkkbiacaaGreatDoor

