/- LexMeans: the project's side: what is meant at a place -/
import Derived.Test.YtplpdikkkbiacaaGreatDoorXs
import Derived.Test.YtplpdikkkbiacaaGreatDoorXj
namespace Go.Proofs.YtplpdikkkbiacaaGreatDoor
open Go.RowKit
set_option linter.unusedVariables false
set_option linter.unusedSimpArgs false

set_option maxRecDepth 100000 in
set_option maxHeartbeats 4000000 in
theorem meantAt_any (a : Option Addr) (b off n cap : Nat) (N : Nat → ByteArray) (K : Nat → Sh) (M : Nat → Mx) (t : ByteArray) (c : Nat) (w : World) (ty : TypeId) (ea : Addr) (hE : Err w ty ea) (hga : 0 < n → a = some ⟨b, off, none⟩) (hR : RulesIn AnyB w b off n N K M) (hn : n ≤ 5)
    (hc : ∀ i, i < n → cnt (K i) ≤ 1048576) (ht : t.size ≤ 12) (hct : c ≤ t.size) :
    Calls Tryz.prog 22 #[.slice a n cap, .string t, .int .i64 c] w fun e w' => (∃ r x : Int, e = .returned (.agg #[.int .i64 r, .int .i64 c, .int .i64 x]) ∧ BestV n K t c r x) ∧ Below w.heap.size w w' := by
  obtain ⟨W0, hW0⟩ : ∃ W0, W0 = w.alloc (.cells #[.int .i64 0, .int .i64 0, .int .i64 0] 46) := ⟨_, rfl⟩
  have hb0 : Below w.heap.size w W0 := by rw [hW0]; exact (Below.refl _ _).alloc (Nat.le_refl _) _
  have HBX : Hid (BoxT W0 w.heap.size ⟨0, 0, 0⟩) := by rw [hW0]; exact BoxT.new w ⟨0, 0, 0⟩
  have HL : Hid (∀ (k : Nat) (V : World), k < n → Below w.heap.size w V → Calls Tryz.prog 37 #[.agg #[.int .i64 (K k).kind, (M k).sv, (M k).kv], .string t, .int .i64 c] V fun e w' => e = .returned (.int .i64 (longR (K k) t c)) ∧ Below V.heap.size V w') := fun k V hk hV => implMatchLong_any (K k) (M k) t c V ty ea (hE.below hV) ((hR k hk).2.below hV) (hc k hk)
  have HC : Hid (∀ (k : Nat) (V : World), k < n → Below w.heap.size w V → V.cell? ⟨b, off + k * 4, none⟩ = some (.string (N k)) ∧ V.cell? ⟨b, off + k * 4 + 1, none⟩ = some (.int .i64 (K k).kind) ∧ V.cell? ⟨b, off + k * 4 + 2, none⟩ = some (M k).sv ∧ V.cell? ⟨b, off + k * 4 + 3, none⟩ = some (M k).kv) := fun k V hk hV => ((hR k hk).1.below hV).cells
  have HB0 : Hid (Below w.heap.size w W0) := hb0
  have hs0 : w.heap.size < W0.heap.size := by rw [hW0]; simp
  have HS : Hid (∀ k, k < n → ∃ (a1 : Option Addr) (n1 c1 : Nat) (a2 : Option Addr) (n2 c2 : Nat), (M k).sv = .slice a1 n1 c1 ∧ (M k).kv = .slice a2 n2 c2) := fun k hk => (hR k hk).2.slices
  clear hR hc hE
  go_enter Tryz.func22, Tryz.ntmps22
  go_wp2_with fail
  rw [← hW0]
  clear hW0 hb0
  refine (noToken_any (c : Int) W0).mono ?_
  rintro e w1 ⟨rfl, hb1⟩
  have HB1 : Hid (Below w.heap.size w w1) := HB0.out.trans (hb1.mono HB0.out.size)
  have HBX1 : Hid (BoxT w1 w.heap.size ⟨0, 0, 0⟩) := HBX.out.below hb1
  have hs1 : w.heap.size < w1.heap.size := by have := hb1.size; omega
  have HN1 : Hid (BoxT (w1.alloc (.cells #[.int .i64 (-1), .int .i64 c, .int .i64 c] 46)) w1.heap.size ⟨-1, c, c⟩) := BoxT.new w1 ⟨-1, c, c⟩
  clear hb1
  go_wp2_with fail
  go_loopw [15] (fun i wr => ∃ (k : Nat) (y x : Int), k ≤ n ∧ i = .int .i64 k ∧ (c : Int) ≤ x ∧ x ≤ t.size ∧ Hid (BestV k K t c y x) ∧ Hid (BoxT wr w1.heap.size ⟨y, c, x⟩) ∧ Hid (Below w1.heap.size w1 wr) ∧ w1.heap.size < wr.heap.size) (fun i _ => n - (intOf i).toNat)
  case atStart => exact ⟨0, -1, c, Nat.zero_le _, rfl, Int.le_refl _, by omega, ⟨rfl, rfl⟩, HN1.out, (Below.refl _ _).alloc (Nat.le_refl _) _, by simp⟩
  case round =>
    obtain ⟨k, y, x, hk, rfl, x0, x1, HV, HBY, HB, hs2⟩ := hrel
    have HWB : Hid (Below w.heap.size w wr) := HB1.out.trans (HB.out.mono HB1.out.size)
    by_cases hlt : k < n
    · obtain rfl := hga (by omega)
      have hltz : (k : Int) < (n : Int) := by omega
      obtain ⟨d0, d1, d2, d3⟩ := HC.out k wr hlt HWB.out
      have lb := longR_bd (K k) t hct
      have HL' := HL.out k
      obtain ⟨a1, n1, q1, a2, n2, q2, es, ek⟩ := HS.out k hlt
      rw [es, ek] at HL'
      rw [es] at d2
      rw [ek] at d3
      clear es ek
      obtain ⟨z, hz⟩ : ∃ z, z = longR (K k) t c := ⟨_, rfl⟩
      have HZ : Hid (z = longR (K k) t c) := hz
      rw [← hz] at lb HL'
      clear hz
      go_wp2_with fail
      refine (HL' _ hlt (HWB.out.alloc HWB.out.size _)).mono ?_
      rintro e w2 ⟨rfl, hb2⟩
      have HB2 : Hid (Below w1.heap.size w1 w2) := (HB.out.alloc HB.out.size _).trans (hb2.mono (by have := HB.out.size; rw [World.size_alloc]; omega))
      have HBZ : Hid (BoxT w2 w1.heap.size ⟨y, c, x⟩) := (HBY.out.below ((Below.refl _ _).alloc (Nat.le_refl _) _)).below hb2
      have hs3 : w1.heap.size < w2.heap.size := by have := hb2.size; rw [World.size_alloc] at this; omega
      obtain ⟨⟨e0, e1, e2⟩, f0, f1, f2⟩ := HBZ.out.cells
      clear HL' d0 d1 d2 d3 hb2
      by_cases hx : x < (c : Int) + z
      · have HN : Hid (BestV (k + 1) K t c k ((c : Int) + z)) := best_hit HV.out HZ.out hx
        go_wp2_with fail
        go_roundw
        case rel => exact ⟨k + 1, k, (c : Int) + z, by omega, by go_num, by omega, by omega, HN.out, HBZ.out.set ⟨k, c, (c : Int) + z⟩, ((HB2.out.setCell (by simp) _).setCell (by simp) _).setCell (by simp) _, by simp; omega⟩
        case measure => simp [intOf]; omega
      · have HN : Hid (BestV (k + 1) K t c y x) := best_pass HV.out HZ.out hx
        go_wp2_with fail
        go_roundw
        case rel => exact ⟨k + 1, y, x, by omega, by go_num, by omega, by omega, HN.out, HBZ.out, HB2.out, hs3⟩
        case measure => simp [intOf]; omega
    · have hltz : ¬ (k : Int) < (n : Int) := by omega
      obtain rfl : k = n := by omega
      obtain ⟨⟨e0, e1, e2⟩, f0, f1, f2⟩ := HBY.out.cells
      obtain ⟨⟨r0, r1, r2⟩, k0, k1, k2⟩ := (HBX1.out.below (HB.out)).cells
      go_wp2_with fail
      refine bodyPost_ret (v := .agg #[.int .i64 y, .int .i64 c, .int .i64 x]) ?_ rfl ⟨⟨y, x, rfl, HV.out⟩, ((HWB.out.setCell (by simp) _).setCell (by simp) _).setCell (by simp) _⟩
      simp [results, Tryz.results22, go_sem, r0, r1, r2]

set_option maxRecDepth 100000 in
set_option maxHeartbeats 4000000 in
theorem meansFind_any (a : Option Addr) (b off n cap : Nat) (N : Nat → ByteArray) (K : Nat → Sh) (M : Nat → Mx) (t : ByteArray) (c lb tb : Nat) (w : World) (ty : TypeId) (ea : Addr) (hE : Err w ty ea) (hga : 0 < n → a = some ⟨b, off, none⟩) (hR : RulesIn AnyB w b off n N K M) (hn : n ≤ 5)
    (hc : ∀ i, i < n → cnt (K i) ≤ 1048576) (ht : t.size ≤ 12) (hct : c ≤ t.size) (h0 : w.cell? ⟨lb, 0, none⟩ = some (.slice a n cap)) (h1 : w.cell? ⟨tb, 0, none⟩ = some (.string t)) :
    Calls Tryz.prog 21 #[.int .i64 c, .pointer (some ⟨lb, 0, none⟩), .pointer (some ⟨tb, 0, none⟩)] w fun e w' => (∃ r x : Int, e = .returned (.agg #[.int .i64 r, .int .i64 c, .int .i64 x]) ∧ BestV n K t c r x) ∧ Below w.heap.size w w' := by
  obtain ⟨W0, hW0⟩ : ∃ W0, W0 = w.alloc (.cells #[.int .i64 0, .int .i64 0, .int .i64 0] 46) := ⟨_, rfl⟩
  have hb0 : Below w.heap.size w W0 := by rw [hW0]; exact (Below.refl _ _).alloc (Nat.le_refl _) _
  have HBX : Hid (BoxT W0 w.heap.size ⟨0, 0, 0⟩) := by rw [hW0]; exact BoxT.new w ⟨0, 0, 0⟩
  have HL := meantAt_any a b off n cap N K M t c W0 ty ea (hE.below hb0) hga (hR.below hb0) hn hc ht hct
  have HB0 : Hid (Below w.heap.size w W0) := hb0
  have hs0 : w.heap.size < W0.heap.size := by rw [hW0]; simp
  have k0 := (hb0.cell (p := ⟨lb, 0, none⟩) (World.block_lt_of_cell? _ _ h0)).trans h0
  have k1 := (hb0.cell (p := ⟨tb, 0, none⟩) (World.block_lt_of_cell? _ _ h1)).trans h1
  rw [hW0] at k0 k1
  clear hR hc hE h0 h1 hga
  go_enter Tryz.func21, Tryz.ntmps21
  go_wp2_with fail
  rw [← hW0]
  clear hW0 hb0 k0 k1
  refine HL.mono ?_
  rintro e w1 ⟨⟨r, x, rfl, hv⟩, hb1⟩
  obtain ⟨⟨d0, d1, d2⟩, f0, f1, f2⟩ := (HBX.out.below hb1).cells
  have HV : Hid (BestV n K t c r x) := hv
  have HB1 : Hid (Below w.heap.size w w1) := HB0.out.trans (hb1.mono HB0.out.size)
  clear hv hb1 HL
  go_wp2_with fail
  refine bodyPost_ret (v := .agg #[.int .i64 r, .int .i64 c, .int .i64 x]) ?_ rfl ⟨⟨r, x, rfl, HV.out⟩, ((HB1.out.setCell (by simp) _).setCell (by simp) _).setCell (by simp) _⟩
  simp [results, Tryz.results21, go_sem, d0, d1, d2]
end Go.Proofs.YtplpdikkkbiacaaGreatDoor

