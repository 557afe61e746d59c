/- the walks of impl's RexText and of its law -/
import Derived.Test.YtcpbkkdjaojfiaaGreatDoorVw
namespace Go.Proofs.YtcpbkkdjaojfiaaGreatDoor
open Go.RowKit
set_option linter.unusedVariables false
set_option linter.unusedSimpArgs false

def textB (S : Sh) : ByteArray := ⟨(textR S).toArray⟩

set_option maxHeartbeats 1000000 in
theorem implRexText_any (S : Sh) (M : Mx) (w : World) (t : TypeId) (ea : Addr) (hE : Err w t ea) (hP : Tab w.heap.size w) (hT : In AnyB w S M) (hcnt : cnt S ≤ 1048576) :
    Calls Tryz.prog 15 #[vx S M] w fun e w' => e = .returned (.string (textB S)) ∧ Below w.heap.size w w' := by
  obtain ⟨a, n, c, a', m, c', hv⟩ := hT.value
  have hb0 : Below w.heap.size w (w.alloc (.cells #[.int .i64 S.kind, .slice a n c, .slice a' m c'] 40)) := (Below.refl _ _).alloc (Nat.le_refl _) _
  have HO : Hid (Calls Tryz.prog 26 #[vx S M] (w.alloc (.cells #[.int .i64 S.kind, .slice a n c, .slice a' m c'] 40)) fun e w' => e = .returned (.bool (okR S)) ∧ Below (w.alloc (.cells #[.int .i64 S.kind, .slice a n c, .slice a' m c'] 40)).heap.size (w.alloc (.cells #[.int .i64 S.kind, .slice a n c, .slice a' m c'] 40)) w') := implRexOk_any S M _ t ea (hE.below hb0) (hT.below hb0) hcnt
  have HX : Hid (okR S = true → ∀ w1, Below w.heap.size w w1 → Calls Tryz.prog 27 #[vx S M] w1 fun e w' => e = .returned (.string ⟨(textS S).toArray⟩) ∧ Below w1.heap.size w1 w') := fun ho w1 hb => textOf_any S M w1 8 (hT.below hb) hcnt (okR_form8 ho) (Tab.up (Tab.on hP hb) hb.size)
  rw [hv] at HO HX ⊢
  clear hv hE hT hP
  by_cases hf : okR S = true
  · have HX1 : Hid _ := HX.out hf
    rw [hf] at HO
    have HR : Hid (textB S = ⟨(textS S).toArray⟩) := by rw [Hid, textB, textR, if_pos hf]
    clear hf HX
    go_enter Tryz.func15, Tryz.ntmps15
    go_wp2_with fail
    refine HO.out.mono ?_
    rintro e w1 ⟨rfl, hb1⟩
    have hB1 := hb0.trans (hb1.mono hb0.size)
    have a0 : w1.cell? ⟨w.heap.size, 0, none⟩ = some (.int .i64 S.kind) := (hb1.cell (p := ⟨w.heap.size, 0, none⟩) (by simp)).trans (by simp [go_sem])
    have a1 : w1.cell? ⟨w.heap.size, 1, none⟩ = some (.slice a n c) := (hb1.cell (p := ⟨w.heap.size, 1, none⟩) (by simp)).trans (by simp [go_sem])
    have a2 : w1.cell? ⟨w.heap.size, 2, none⟩ = some (.slice a' m c') := (hb1.cell (p := ⟨w.heap.size, 2, none⟩) (by simp)).trans (by simp [go_sem])
    go_wp2_with fail
    refine (HX1.out _ hB1).mono ?_
    rintro e w2 ⟨rfl, hb2⟩
    go_wp2_with fail
    go_ret
    exact ⟨by rw [HR.out]; rfl, hB1.trans (hb2.mono hB1.size)⟩
  · have hf' : okR S = false := Bool.eq_false_iff.2 hf
    rw [hf'] at HO
    have HR : Hid (textB S = ⟨#[]⟩) := by rw [Hid, textB, textR, if_neg hf]
    clear hf hf' HX
    go_enter Tryz.func15, Tryz.ntmps15
    go_wp2_with fail
    refine HO.out.mono ?_
    rintro e w1 ⟨rfl, hb1⟩
    go_wp2_with fail
    go_ret
    exact ⟨by rw [HR.out]; rfl, hb0.trans (hb1.mono hb0.size)⟩

end Go.Proofs.YtcpbkkdjaojfiaaGreatDoor

