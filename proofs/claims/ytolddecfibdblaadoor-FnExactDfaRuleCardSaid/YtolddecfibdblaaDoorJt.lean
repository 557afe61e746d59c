/- the walks of DfaRun: the model's side -/
import Derived.Test.YtolddecfibdblaaDoorJr
namespace Go.Proofs.YtolddecfibdblaaDoor
open Go.RowKit
set_option linter.unusedVariables false
set_option linter.unusedSimpArgs false

/-- byte i of a text -/
def byteAt (t : ByteArray) (i : Nat) : Nat := if h : i < t.size then (t[i]'h).toNat else 0
theorem byteAt_lt (t : ByteArray) (i : Nat) : byteAt t i < 256 := by
  unfold byteAt
  split
  · exact UInt8.toNat_lt _
  · omega
theorem byteAt_eq {t : ByteArray} {i : Nat} {x : UInt8} (h : i < t.size) (hx : t[i]'h = x) : byteAt t i = x.toNat := by rw [byteAt, dif_pos h, hx]
/-- the state behind the first i bytes; once below 0 it stays -/
def RunAt (D : Dx) (t : ByteArray) : Nat → Int → Prop
  | 0 => fun r => r = 0
  | i + 1 => fun r => ∃ s, RunAt D t i s ∧ ((s < 0 ∧ r = s) ∨ (0 ≤ s ∧ NextOf D s.toNat (byteAt t i) r))
theorem RunAt.bd {D : Dx} (h : DOk D) {t : ByteArray} {i : Nat} {r : Int} (hr : RunAt D t i r) : -1 ≤ r ∧ r ≤ (D.rn : Int) - 1 := by
  induction i generalizing r with
  | zero => have := h.2.1.1; simp only [RunAt] at hr; omega
  | succ i ih =>
    obtain ⟨s, hs, h1⟩ := hr
    have hb := ih hs
    rcases h1 with ⟨h1, rfl⟩ | ⟨h1, h2⟩
    · omega
    · exact h2.bd h (by omega)
theorem RunAt.unique {D : Dx} (h : DOk D) {t : ByteArray} {i : Nat} {r r' : Int} (h1 : RunAt D t i r) (h2 : RunAt D t i r') : r = r' := by
  induction i generalizing r r' with
  | zero => exact h1.trans h2.symm
  | succ i ih =>
    obtain ⟨s, hs, g1⟩ := h1
    obtain ⟨s', hs', g2⟩ := h2
    obtain rfl := ih hs hs'
    rcases g1 with ⟨a, rfl⟩ | ⟨a, b⟩ <;> rcases g2 with ⟨c, rfl⟩ | ⟨c, d⟩
    · rfl
    · omega
    · omega
    · exact b.unique h d
theorem RunAt.stay {D : Dx} {t : ByteArray} {i j : Nat} {r : Int} (hr : r < 0) (h : RunAt D t i r) (hj : i ≤ j) : RunAt D t j r := by
  induction j with
  | zero => obtain rfl : i = 0 := by omega
            exact h
  | succ j ih =>
    by_cases e : i = j + 1
    · exact e ▸ h
    · exact ⟨r, ih (by omega), .inl ⟨hr, rfl⟩⟩
theorem RunAt.congr {D D' : Dx} (e : DEq D D') (h : DOk D) {t : ByteArray} {i : Nat} {r : Int} (hr : RunAt D t i r) : RunAt D' t i r := by
  induction i generalizing r with
  | zero => exact hr
  | succ i ih =>
    obtain ⟨s, hs, h1⟩ := hr
    have hb := hs.bd h
    refine ⟨s, ih hs, ?_⟩
    rcases h1 with h1 | ⟨h1, h2⟩
    · exact .inl h1
    · exact .inr ⟨h1, h2.congr e (by omega) (h.at (by omega)).1⟩
theorem RunAt.exists {D : Dx} (h : DOk D) (t : ByteArray) (i : Nat) : ∃ r, RunAt D t i r := by
  induction i with
  | zero => exact ⟨0, rfl⟩
  | succ i ih =>
    obtain ⟨s, hs⟩ := ih
    by_cases h0 : s < 0
    · exact ⟨s, s, hs, .inl ⟨h0, rfl⟩⟩
    · obtain ⟨k, hk, hS⟩ := some_part h (byteAt_lt t i)
      exact ⟨D.R.G s.toNat k, s, hs, .inr ⟨by omega, .inl ⟨k, hk, hS, rfl⟩⟩⟩
/-- what DfaRun tells -/
def RunR (D : Dx) (t : ByteArray) (r : Int) : Prop := (DOk D ∧ RunAt D t t.size r) ∨ (¬ DOk D ∧ r = -1)
theorem RunR.unique {D : Dx} {t : ByteArray} {r r' : Int} (h : RunR D t r) (h' : RunR D t r') : r = r' := by
  rcases h with ⟨a, b⟩ | ⟨a, rfl⟩ <;> rcases h' with ⟨c, d⟩ | ⟨c, rfl⟩
  · exact b.unique a d
  · exact absurd a c
  · exact absurd c a
  · rfl
theorem RunR.congr {D D' : Dx} (e : DEq D D') {t : ByteArray} {r : Int} (h : RunR D t r) : RunR D' t r := by
  rcases h with ⟨a, b⟩ | ⟨a, rfl⟩
  · exact .inl ⟨a.congr e, b.congr e a⟩
  · exact .inr ⟨fun h => a (h.congr e.symm), rfl⟩
theorem RunR.exists (D : Dx) (t : ByteArray) : ∃ r, RunR D t r := by
  by_cases h : DOk D
  · obtain ⟨r, hr⟩ := RunAt.exists h t t.size
    exact ⟨r, .inl ⟨h, hr⟩⟩
  · exact ⟨-1, .inr ⟨h, rfl⟩⟩

set_option maxRecDepth 100000 in
set_option maxHeartbeats 4000000 in
theorem specRun_any (D : Dx) (t : ByteArray) (w : World) (h : DIn w D) (hm : DLe D 4194304) (hd : DOk D) (hts : t.size ≤ 4194304) :
    Calls Tryd.prog 26 #[dv D, .string t] w (IsI (fun r => RunAt D t t.size r) w) := by
  obtain ⟨W0, hW0⟩ : ∃ W0, W0 = w.alloc (.cells #[.slice D.pa D.pn D.pc, .slice D.ra D.rn D.rc, .slice D.aa D.an D.ac] 31) := ⟨_, rfl⟩
  have hb0 : Below w.heap.size w W0 := by rw [hW0]; exact (Below.refl _ _).alloc (Nat.le_refl _) _
  have HX : Hid (∀ V, Below W0.heap.size W0 V → V.cell? ⟨w.heap.size, 0, none⟩ = some (.slice D.pa D.pn D.pc) ∧ V.cell? ⟨w.heap.size, 1, none⟩ = some (.slice D.ra D.rn D.rc) ∧ V.cell? ⟨w.heap.size, 2, none⟩ = some (.slice D.aa D.an D.ac)) := fun V hV => by
    refine ⟨((bcell hV).1 _ _ (by rw [hW0]; simp)).trans ?_, ((bcell hV).1 _ _ (by rw [hW0]; simp)).trans ?_, ((bcell hV).1 _ _ (by rw [hW0]; simp)).trans ?_⟩ <;> (rw [hW0]; simp [go_sem])
  have H2 : Hid (∀ (V : World) (q : Nat) (x : Nat), Below w.heap.size w V → q < D.rn → Calls Tryd.prog 46 #[.agg #[.slice D.pa D.pn D.pc, .slice D.ra D.rn D.rc, .slice D.aa D.an D.ac], .int .i64 q, .int .i64 x] V fun e w' => (∃ r : Int, e = .returned (.int .i64 r) ∧ NextOf D q x r) ∧ Below V.heap.size V w') := fun V q x hV hq => specNext_any D q x V (h.below hV) hm hd hq
  have HB0 : Hid (Below w.heap.size w W0) := hb0
  have HD : Hid (DOk D) := hd
  have hrn4 := hm.r
  rw [dv]
  clear h hm hd
  go_enter Tryd.func26, Tryd.ntmps26
  go_wp2_with fail
  rw [← hW0]
  clear hW0 hb0
  go_loopw [5, 6] (fun s i wr => ∃ (k : Nat) (q : Int), k ≤ t.size ∧ i = .int .i64 k ∧ s = .int .i64 q ∧ q < D.rn ∧ Hid (RunAt D t k q) ∧ Below W0.heap.size W0 wr) (fun _ i _ => t.size - (intOf i).toNat)
  case atStart => exact ⟨0, 0, Nat.zero_le _, rfl, rfl, by have := HD.out.2.1.1; omega, rfl, Below.refl _ _⟩
  case round =>
    obtain ⟨k, q, hk, rfl, rfl, hqn, HR, hB⟩ := hrel
    obtain ⟨p0, p1, p2⟩ := HX.out _ hB
    by_cases hlt : k < t.size
    · have hltz : (k : Int) < (t.size : Int) := by omega
      by_cases hq0 : 0 ≤ q
      · obtain ⟨s, rfl⟩ : ∃ s : Nat, q = (s : Int) := ⟨q.toNat, by omega⟩
        have hsn : s < D.rn := by omega
        go_wp2_with fail
        obtain ⟨x, hx⟩ : ∃ x : UInt8, t[k]'hlt = x := ⟨_, rfl⟩
        have hwr : IntKind.i64.wrap (x.toNat : Int) = (x.toNat : Int) := by rw [IntKind.wrap_i64]; have := x.toNat_lt; omega
        have HBA : Hid (byteAt t k = x.toNat) := byteAt_eq hlt hx
        have HDR : Hid (Below wr.heap.size wr wr.drew) := (Below.refl _ _).drew
        have HC : Hid (Calls Tryd.prog 46 #[.agg #[.slice D.pa D.pn D.pc, .slice D.ra D.rn D.rc, .slice D.aa D.an D.ac], .int .i64 s, .int .i64 (x.toNat : Int)] wr.drew fun e w' => (∃ r : Int, e = .returned (.int .i64 r) ∧ NextOf D s x.toNat r) ∧ Below wr.drew.heap.size wr.drew w') :=
          H2.out wr.drew s x.toNat (HB0.out.trans ((hB.trans (HDR.out.mono hB.size)).mono HB0.out.size)) hsn
        go_region_with (go_at_call 46; refine HC.out.mono ?_; rintro e w2 ⟨⟨r, rfl, hr⟩, hb2⟩; have HN : Hid (NextOf D s x.toNat r) := hr; clear hr)
        all_goals
          have hrb := HN.out.bd HD.out hsn
          have hrlt : r < D.rn := by omega
        all_goals go_wp2_with fail
        all_goals go_roundw
        all_goals first
          | exact ⟨k + 1, r, by omega, by go_num, rfl, by omega, ⟨(s : Int), HR.out, .inr ⟨by omega, by rw [HBA.out]; simpa using HN.out⟩⟩, hB.trans ((HDR.out.trans (hb2.mono HDR.out.size)).mono hB.size)⟩
          | (simp [intOf]; omega)
      · have hq1 : ¬ (0 : Int) ≤ q := hq0
        have HE : Hid (RunAt D t t.size q) := HR.out.stay (by omega) hk
        go_wp2_with fail
        go_ret
        exact .mk' HE.out (HB0.out.trans (hB.mono HB0.out.size))
    · have hltz : ¬ (k : Int) < (t.size : Int) := by omega
      have HE : Hid (RunAt D t t.size q) := (show k = t.size by omega) ▸ HR.out
      go_wp2_with fail
      go_ret
      exact .mk' HE.out (HB0.out.trans (hB.mono HB0.out.size))
end Go.Proofs.YtolddecfibdblaaDoor

