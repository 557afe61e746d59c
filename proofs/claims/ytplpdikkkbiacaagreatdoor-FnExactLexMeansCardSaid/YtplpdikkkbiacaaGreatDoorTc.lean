/- the walk of toRex -/
import Derived.Test.YtplpdikkkbiacaaGreatDoorTb
namespace Go.Proofs.YtplpdikkkbiacaaGreatDoor
open Go.RowKit
set_option linter.unusedVariables false
set_option linter.unusedSimpArgs false

theorem bcell {W w1 : World} (hb : Below W.heap.size W w1) : (∀ b o, b < W.heap.size → w1.cell? ⟨b, o, none⟩ = W.cell? ⟨b, o, none⟩) ∧ (∀ b o, b < W.heap.size → w1.frozen? ⟨b, o, none⟩ = W.frozen? ⟨b, o, none⟩) :=
  ⟨fun b o h => hb.cell (p := ⟨b, o, none⟩) h, fun b o h => hb.frozen (p := ⟨b, o, none⟩) h⟩

set_option maxRecDepth 100000 in
set_option maxHeartbeats 1000000 in
theorem toRex_any (S : Sh) : ∀ (M : Mx) (w : World), In AnyB w S M → cnt S ≤ 1048576 → Calls Tryz.prog 32 #[vx S M] w (ToRes S w) := by
  induction S using Sh.ind with
  | h kind n L H m K ih =>
    intro M w h hcnt
    obtain ⟨sv, kv, M, rfl⟩ := Mx.cases M
    · skip
      obtain ⟨a, b, off, cap, a', b', off', cap', e1, hn, hs, hl, e2, hm, hl', hk⟩ := h
      obtain rfl : sv = _ := e1
      obtain rfl : kv = _ := e2
      simp only [Mx.mk_kid] at hk
      simp only [vx, Sh.mk_kind, Mx.mk_sv, Mx.mk_kv]
      simp only [cnt_mk] at hcnt
      have H1 : Hid (∀ w1, Below w.heap.size w w1 → Calls Tryz.prog 44 #[.slice a n cap] w1 fun e w' => e = .returned (.slice (some ⟨w1.heap.size, 0, none⟩) n n) ∧ w'.rowIs w1.heap.size 76 (n * 2) (flat L H) ∧ Below w1.heap.size w1 w') := fun w1 hb1 =>
        toSpanS_any a b off cap n L H w1 (fun h => (hn h).1) (hs.below hb1) (by omega)
      have H2 : Hid (∀ w1, Below w.heap.size w w1 → Calls Tryz.prog 45 #[.slice a' m cap'] w1 fun e w' => ∃ M', e = .returned (.slice (some ⟨w1.heap.size, 0, none⟩) m m) ∧ w'.rowIs w1.heap.size 50 (m * 3) (flat3 K M') ∧ (∀ i, i < m → In (fun k => w1.heap.size < k ∧ Soft w' k) w' (K i) (M' i)) ∧ Below w1.heap.size w1 w') := fun w1 hb1 =>
        toRexS_of m K M (by omega) (fun i hi w2 h2 => ih i hi (M i) w2 h2 (by have := sumN_at (f := fun i => cnt (K i)) hi; omega)) a' b' off' cap' w1 (fun h => (hm h).1) (fun i hi => ⟨(hk i hi).1.keep (fun hlt => hb1.block _ hlt), (hk i hi).2.below hb1⟩)
      clear ih hk hs hcnt
      go_enter Tryz.func32, Tryz.ntmps32
      go_wp2_with fail
      refine (H1.out _ (by repeat (first | exact Below.refl _ _ | refine Below.alloc ?_ (by simp <;> omega) _ | refine Below.setCell ?_ (by simp <;> omega) _))).mono ?_
      rintro e w1 ⟨rfl, hrow, hb1⟩
      obtain ⟨hc1, hf1⟩ := bcell hb1
      have hz1 : w.heap.size + 3 ≤ w1.heap.size := by have := hb1.size; simp at this; omega
      have a2 : w1.cell? ⟨w.heap.size, 2, none⟩ = some (.slice a' m cap') := by rw [hc1 _ _ (by simp <;> omega)]; simp [go_sem]
      have t0 : w1.cell? ⟨w.heap.size + 1 + 1, 0, none⟩ = some (.int .i64 kind) := by rw [hc1 _ _ (by simp <;> omega)]; simp [go_sem]
      have t1 : w1.cell? ⟨w.heap.size + 1 + 1, 1, none⟩ = some (.slice none 0 0) := by rw [hc1 _ _ (by simp <;> omega)]; simp [go_sem]
      have t2 : w1.cell? ⟨w.heap.size + 1 + 1, 2, none⟩ = some (.slice none 0 0) := by rw [hc1 _ _ (by simp <;> omega)]; simp [go_sem]
      have r0 : w1.cell? ⟨w.heap.size + 1, 0, none⟩ = some (.int .i64 0) := by rw [hc1 _ _ (by simp <;> omega)]; simp [go_sem]
      have r1 : w1.cell? ⟨w.heap.size + 1, 1, none⟩ = some (.slice none 0 0) := by rw [hc1 _ _ (by simp <;> omega)]; simp [go_sem]
      have r2 : w1.cell? ⟨w.heap.size + 1, 2, none⟩ = some (.slice none 0 0) := by rw [hc1 _ _ (by simp <;> omega)]; simp [go_sem]
      have ft : ∀ o, w1.frozen? ⟨w.heap.size + 1 + 1, o, none⟩ = false := fun o => by rw [hf1 _ _ (by simp <;> omega)]; simp [go_sem]
      have fr : ∀ o, w1.frozen? ⟨w.heap.size + 1, o, none⟩ = false := fun o => by rw [hf1 _ _ (by simp <;> omega)]; simp [go_sem]
      clear hc1 hf1
      go_wp2_with fail
      have hB1 : Below w.heap.size w (w1.setCell ⟨w.heap.size + 1 + 1, 1, none⟩ (.slice (some ⟨w.heap.size + 1 + 1 + 1, 0, none⟩) n n)) :=
        Below.setCell (Below.trans (by repeat (first | exact Below.refl _ _ | refine Below.alloc ?_ (by simp <;> omega) _ | refine Below.setCell ?_ (by simp <;> omega) _)) (hb1.mono (by simp; omega))) (by simp; omega) _
      refine (H2.out _ hB1).mono ?_
      rintro e w2 ⟨M', rfl, hrow2, hins, hb2⟩
      obtain ⟨hc2, hf2⟩ := bcell hb2
      have hz2 : w1.heap.size ≤ w2.heap.size := by have := hb2.size; simpa [World.setCell] using this
      have hs2 : (w1.setCell ⟨w.heap.size + 1 + 1, 1, none⟩ (.slice (some ⟨w.heap.size + 1 + 1 + 1, 0, none⟩) n n)).heap.size = w1.heap.size := by simp [World.setCell]
      rw [hs2] at hc2 hf2 hrow2 hins
      have q0 : w2.cell? ⟨w.heap.size + 1 + 1, 0, none⟩ = some (.int .i64 kind) := by rw [hc2 _ _ (by omega)]; simp [go_sem, t0]
      have q1 : w2.cell? ⟨w.heap.size + 1 + 1, 1, none⟩ = some (.slice (some ⟨w.heap.size + 1 + 1 + 1, 0, none⟩) n n) := by rw [hc2 _ _ (by omega)]; exact World.cell?_setCell_same' _ _ _ (by rw [t1]; rfl)
      have q2 : w2.cell? ⟨w.heap.size + 1 + 1, 2, none⟩ = some (.slice none 0 0) := by rw [hc2 _ _ (by omega)]; simp [go_sem, t2]
      have u0 : w2.cell? ⟨w.heap.size + 1, 0, none⟩ = some (.int .i64 0) := by rw [hc2 _ _ (by omega)]; simp [go_sem, r0]
      have u1 : w2.cell? ⟨w.heap.size + 1, 1, none⟩ = some (.slice none 0 0) := by rw [hc2 _ _ (by omega)]; simp [go_sem, r1]
      have u2 : w2.cell? ⟨w.heap.size + 1, 2, none⟩ = some (.slice none 0 0) := by rw [hc2 _ _ (by omega)]; simp [go_sem, r2]
      have gt : ∀ o, w2.frozen? ⟨w.heap.size + 1 + 1, o, none⟩ = false := fun o => by rw [hf2 _ _ (by omega), World.frozen?_setCell]; exact ft o
      have gr : ∀ o, w2.frozen? ⟨w.heap.size + 1, o, none⟩ = false := fun o => by rw [hf2 _ _ (by omega), World.frozen?_setCell]; exact fr o
      clear hc2 hf2 t0 t1 t2 r0 r1 r2 ft fr a2
      rw [hs2]
      clear hs2
      go_wp2_with fail
      refine bodyPost_ret (v := .agg #[.int .i64 kind, .slice (some ⟨w.heap.size + 1 + 1 + 1, 0, none⟩) n n, .slice (some ⟨w1.heap.size, 0, none⟩) m m]) (by simp [results, Tryz.results32, go_sem, u0, u1, u2]) rfl
        ⟨.mk (.slice (some ⟨w.heap.size + 1 + 1 + 1, 0, none⟩) n n) (.slice (some ⟨w1.heap.size, 0, none⟩) m m) M', rfl, ?_, ?_⟩
      · have hrow1 : w2.rowIs (w.heap.size + 1 + 1 + 1) 76 (n * 2) (flat L H) := by
          have h3 : w1.rowIs (w.heap.size + 1 + 1 + 1) 76 (n * 2) (flat L H) := by simpa using hrow
          exact h3.of_block ((hb2.block _ (by rw [World.setCell]; have := h3.lt; simpa using this)).trans (Below.heap_setCell _ _ _ _ (by simp)))
        have hks : ∀ x, w.heap.size + 1 + 1 < x → ((((w2.setCell ⟨w.heap.size + 1 + 1, 2, none⟩ (.slice (some ⟨w1.heap.size, 0, none⟩) m m)).setCell ⟨w.heap.size + 1, 0, none⟩ (.int .i64 kind)).setCell ⟨w.heap.size + 1, 1, none⟩ (.slice (some ⟨w.heap.size + 1 + 1 + 1, 0, none⟩) n n)).setCell ⟨w.heap.size + 1, 2, none⟩ (.slice (some ⟨w1.heap.size, 0, none⟩) m m)).heap[x]? = w2.heap[x]? := fun x hx => by
          rw [Below.heap_setCell _ _ _ _ (by simp; omega), Below.heap_setCell _ _ _ _ (by simp; omega), Below.heap_setCell _ _ _ _ (by simp; omega), Below.heap_setCell _ _ _ _ (by simp; omega)]
        obtain ⟨W3, hW3⟩ : ∃ W3, ((((w2.setCell ⟨w.heap.size + 1 + 1, 2, none⟩ (.slice (some ⟨w1.heap.size, 0, none⟩) m m)).setCell ⟨w.heap.size + 1, 0, none⟩ (.int .i64 kind)).setCell ⟨w.heap.size + 1, 1, none⟩ (.slice (some ⟨w.heap.size + 1 + 1 + 1, 0, none⟩) n n)).setCell ⟨w.heap.size + 1, 2, none⟩ (.slice (some ⟨w1.heap.size, 0, none⟩) m m)) = W3 := ⟨_, rfl⟩
        have hsz : W3.heap.size = w2.heap.size := by rw [← hW3]; simp [World.setCell]
        rw [hW3] at hks ⊢
        have g1 := hrow1.of_block (hks _ (by omega))
        have g2 := hrow2.of_block (hks _ (by omega))
        have hlt1 := hrow1.lt
        have soft : ∀ x, w.heap.size + 1 + 1 < x → Soft w2 x → Soft W3 x := fun x hx hs => hs.of_block (hks x hx)
        exact ⟨_, _, 0, _, _, _, 0, _, rfl, fun _ => ⟨rfl, by omega, Soft.row g1⟩, Sp.of_row g1, by omega, rfl, fun _ => ⟨rfl, by omega, Soft.row g2⟩, by omega, fun i hi => ⟨Kid.of_row g2 hi,
          In.mono (B := fun x => w1.heap.size < x ∧ Soft w2 x) (fun x hx => ⟨by omega, soft x (by omega) hx.2⟩) (In.keep (w := w2) (fun x hx _ => hks x (by omega)) (hins i hi))⟩⟩
      · have h2 := hB1.trans (hb2.mono hB1.size)
        exact (((h2.setCell (by simp; omega) _).setCell (by simp) _).setCell (by simp) _).setCell (by simp) _
end Go.Proofs.YtplpdikkkbiacaaGreatDoor

