/- The walks of canNorm and of what it hands to comesThrough. -/
import Derived.Test.YtiphmmgfmiiilaaDoorNk
import Derived.Test.YtiphmmgfmiiilaaDoorTm
namespace Go.Proofs.YtiphmmgfmiiilaaDoor
open Go.RowKit Go.Shelf
set_option linter.unusedVariables false
set_option linter.unusedSimpArgs false

/-- the Rex that are given: a row of them in memory -/
structure Giv (w : World) (gb : Nat) (g : List (Sh × Mx)) : Prop where
  at_ : ∀ i p, g[i]? = some p → Kid w gb (i * 3) p.1 p.2 ∧ In (Soft w) w p.1 p.2 ∧ cnt p.1 ≤ 1048576
theorem Giv.below {w w' : World} {gb : Nat} {g : List (Sh × Mx)} (h : Giv w gb g) (hb : Below w.heap.size w w') : Giv w' gb g :=
  ⟨fun i p hp => ⟨(h.at_ i p hp).1.keep (fun hlt => hb.block _ hlt), ((h.at_ i p hp).2.1.below hb).mono (fun k hk => hk.below hb), (h.at_ i p hp).2.2⟩⟩
/-- all are as they must be, none deeper than so -/
def givB (g : List (Sh × Mx)) : Bool := g.all fun p => formB 60 p.1

set_option maxRecDepth 100000 in
set_option maxHeartbeats 4000000 in
theorem canNormTry_any (w : World) (t : TypeId) (ea : Addr) (hE : Err w t ea) (gb : Nat) (g : List (Sh × Mx)) (hg : Giv w gb g) (hl : g.length ≤ 10) (bx : Nat) (hbx : w.cell? ⟨bx, 0, none⟩ = some (.slice (some ⟨gb, 0, none⟩) g.length g.length)) :
    Calls Tryd.prog 31 #[.pointer (some ⟨bx, 0, none⟩)] w (ChkRes (givB g) t ea w) := by
  have HG : Hid (Giv w gb g) := hg
  have HE : Hid (Err w t ea) := hE
  clear hg hE
  go_enter Tryd.func31, Tryd.ntmps31
  go_wp2_with fail
  go_loopw [5] (fun ix wr => ∃ j : Nat, j ≤ g.length ∧ ix = .int .i64 j ∧ Hid (∀ i p, i < j → g[i]? = some p → formB 60 p.1 = true) ∧ Hid (Below w.heap.size w wr)) (fun ix _ => g.length - (intOf ix).toNat)
  case atStart => exact ⟨0, Nat.zero_le _, rfl, fun i p hi => absurd hi (Nat.not_lt_zero _), Below.refl _ _⟩
  case round =>
    obtain ⟨j, hj, rfl, HD, HB⟩ := hrel
    by_cases hlt : j < g.length
    · have hltz : (j : Int) < (g.length : Int) := by omega
      obtain ⟨p, hp⟩ : ∃ p, g[j]? = some p := ⟨_, List.getElem?_eq_getElem hlt⟩
      obtain ⟨⟨k0, k1, k2⟩, hin, hcp⟩ := HG.out.at_ j p hp
      obtain ⟨r1, r2, r3, r4, r5, r6, t1, t2⟩ := hin.slices
      rw [t1] at k1
      rw [t2] at k2
      have q0 := (HB.out.cell (p := ⟨gb, j * 3, none⟩) (World.block_lt_of_cell? _ _ k0)).trans k0
      have q1 := (HB.out.cell (p := ⟨gb, j * 3 + 1, none⟩) (World.block_lt_of_cell? _ _ k1)).trans k1
      have q2 := (HB.out.cell (p := ⟨gb, j * 3 + 2, none⟩) (World.block_lt_of_cell? _ _ k2)).trans k2
      obtain ⟨W5, hW5⟩ : ∃ W5, W5 = (wr.alloc (.cells #[.int .i64 p.1.kind, .slice r1 r2 r3, .slice r4 r5 r6] 30)).alloc (.map #[] 0) := ⟨_, rfl⟩
      have hb5 : Below wr.heap.size wr W5 := by rw [hW5]; exact below_two _ _ _
      have hbr5 := HB.out.trans (hb5.mono HB.out.size)
      have HC : Hid (Calls Tryd.prog 32 #[.map (some (wr.heap.size + 1)), .agg #[.int .i64 p.1.kind, .slice r1 r2 r3, .slice r4 r5 r6], .int .i64 0] W5 (CkRes w (wr.heap.size + 1) [] p.1 0 t ea W5)) := by
        have hkm : Km W5 (wr.heap.size + 1) [] := by
          have := Km.made (wr.alloc (.cells #[.int .i64 p.1.kind, .slice r1 r2 r3, .slice r4 r5 r6] 30))
          rw [size_new, ← hW5] at this
          exact this
        have h := check_any w (wr.heap.size + 1) t ea HE.out (by have := HB.out.size; omega) p.1 p.2 0 W5 [] hin hcp (by omega) hbr5 hkm (fun q hq => by cases hq)
        rwa [vx, t1, t2] at h
      have HBR : Hid (∀ w6, W5.grownBy w6 (some (wr.heap.size + 1)) → Below w.heap.size w w6) := fun w6 hg6 => grown_keep hbr5 hg6 (by have := HB.out.size; omega)
      have HP : Hid (g[j]? = some p) := hp
      have hmk : ∀ V : World, (Instr.makeMap 54 none).run Tryd.prog V = .ok (.map (some V.heap.size)) (V.alloc (.map #[] 0)) := fun V => by
        simp [Instr.makeMap, run_underlying Tryd.underlying54]
      clear k0 k1 k2 hin t1 t2 hp hbr5
      go_wp2_with fail
      rw [← hW5]
      refine HC.out.mono ?_
      rintro e w6 ⟨hg6, ⟨hf6, rfl, ks2, hkm2, hks2⟩ | ⟨hf6, rfl⟩⟩
      · have HB6 : Hid (Below w.heap.size w w6) := HBR.out w6 hg6
        have HD6 : Hid (∀ i p, i < j + 1 → g[i]? = some p → formB 60 p.1 = true) := fun i p' hi hp' => by
          by_cases e : i = j
          · subst e
            rw [HP.out] at hp'
            cases hp'
            exact hf6
          · exact HD.out i p' (by omega) hp'
        clear hg6 hf6 hkm2 hks2
        go_wp2_with fail
        go_roundw
        case rel => exact ⟨j + 1, by omega, by go_num, HD6, HB6⟩
        case measure => simp [intOf]; omega
      · have HNO : givB g = false := by
          rw [← Bool.not_eq_true]
          intro e
          have := List.all_eq_true.1 e p (List.mem_of_getElem? HP.out)
          rw [show formB 60 p.1 = false from hf6] at this
          cases this
        exact ⟨rfl, .inr ⟨HNO, rfl⟩, HBR.out w6 hg6⟩
    · have HYES : Hid (givB g = true) := by
        refine List.all_eq_true.2 (fun p hp => ?_)
        obtain ⟨i, hi, rfl⟩ := List.getElem_of_mem hp
        exact HD.out i _ (by omega) (List.getElem?_eq_getElem hi)
      have hltz : ¬ (j : Int) < (g.length : Int) := by omega
      go_wp2_with fail
      go_end0
      exact ⟨.inl ⟨HYES.out, rfl⟩, HB.out⟩

set_option maxHeartbeats 1000000 in
theorem canNorm_any (w : World) (t : TypeId) (ea : Addr) (hE : Err w t ea) (gb : Nat) (g : List (Sh × Mx)) (hg : Giv w gb g) (hl : g.length ≤ 10) :
    Calls Tryd.prog 18 #[.slice (some ⟨gb, 0, none⟩) g.length g.length] w fun e w' => e = .returned (.bool (givB g)) ∧ Below w.heap.size w w' := by
  have hmf : ∀ (fn : Fn) (first cap : Array Value) (w : World), (Instr.makeFunc fn first cap).run Tryd.prog w = .ok (.func fn first cap) w := fun _ _ _ _ => rfl
  obtain ⟨n, hn⟩ : ∃ n, g.length = n := ⟨_, rfl⟩
  have hb0 : Below w.heap.size w (w.alloc (.cells #[.slice (some ⟨gb, 0, none⟩) n n] 28)) := below_new _ _
  have hc0 : (w.alloc (.cells #[.slice (some ⟨gb, 0, none⟩) n n] 28)).cell? ⟨w.heap.size, 0, none⟩ = some (.slice (some ⟨gb, 0, none⟩) n n) := by simp [go_sem]
  have HC : Hid (Calls Tryd.prog 30 #[.func (.func 31) #[] #[.pointer (some ⟨w.heap.size, 0, none⟩)]] (w.alloc (.cells #[.slice (some ⟨gb, 0, none⟩) n n] 28)) fun e w' => e = .returned (.bool (givB g)) ∧ Below (w.alloc (.cells #[.slice (some ⟨gb, 0, none⟩) n n] 28)).heap.size (w.alloc (.cells #[.slice (some ⟨gb, 0, none⟩) n n] 28)) w') :=
    comesThrough_any 31 #[.pointer (some ⟨w.heap.size, 0, none⟩)] (enters_of Tryd.func31 (by kernel_rfl) rfl) _ t ea (givB g) (fun w1 hb1 =>
      canNormTry_any w1 t ea ((hE.below hb0).below hb1) gb g ((hg.below hb0).below hb1) hl w.heap.size (by rw [hn]; exact (hb1.cell (p := ⟨w.heap.size, 0, none⟩) (by simp)).trans hc0))
  rw [hn]
  clear hE hg hn
  go_enter Tryd.func18, Tryd.ntmps18
  go_wp2_with fail
  refine HC.out.mono ?_
  rintro e w1 ⟨rfl, hb1⟩
  go_wp2_with fail
  go_ret
  exact ⟨rfl, hb0.trans (hb1.mono hb0.size)⟩
end Go.Proofs.YtiphmmgfmiiilaaDoor

