/- the walk of LeastLive of the project -/
import Derived.Test.YtbfpnndcbaffoaaDoorKi
namespace Go.Proofs.YtbfpnndcbaffoaaDoor
open Go.RowKit
set_option linter.unusedVariables false
set_option linter.unusedSimpArgs false

/-- what is known when state s is come to, F0 being what was known at the round's begin -/
structure Rnd (D : Dx) (F0 : Nat → Bool) (s : Nat) (F : Nat → Bool) (more : Bool) : Prop where
  sound : ∀ t, t < D.rn → F t = true → Live D t
  up : ∀ t, t < D.rn → F0 t = true → F t = true
  grew : more = true → cntb F0 D.rn < cntb F D.rn
  same : more = false → (∀ t, t < D.rn → F t = F0 t) ∧ Closed D F s
theorem Rnd.start {D : Dx} {F : Nat → Bool} (h : ∀ t, t < D.rn → F t = true → Live D t) : Rnd D F 0 F false := ⟨h, fun _ _ h => h, fun h => (by cases h), fun _ => ⟨fun _ _ => rfl, fun s hs => absurd hs (Nat.not_lt_zero _)⟩⟩
theorem Rnd.skip {D : Dx} {F0 F : Nat → Bool} {s : Nat} {more : Bool} (h : Rnd D F0 s F more) (hc : F s = true ∨ (D.A s = -1 ∧ anyTo D F s D.pn = false)) : Rnd D F0 (s + 1) F more := ⟨h.sound, h.up, h.grew, fun hm => ⟨(h.same hm).1, fun t ht hF => by
  by_cases e : t = s
  · subst e
    rcases hc with hc | hc
    · rw [hc] at hF; cases hF
    · exact hc
  · exact (h.same hm).2 t (by omega) hF⟩⟩
theorem Rnd.set {D : Dx} {F0 F : Nat → Bool} {s : Nat} {more : Bool} (h : Rnd D F0 s F more) (hs : s < D.rn) (hF : F s = false) (hl : Live D s) : Rnd D F0 (s + 1) (setB F s true) true := by
  have hup : ∀ t, t < D.rn → F t = true → setB F s true t = true := fun t _ ht => by
    unfold setB
    by_cases e : t = s
    · rw [if_pos e]
    · rw [if_neg e]; exact ht
  have h0 : F0 s = false := by
    cases g : F0 s
    · rfl
    · rw [h.up s hs g] at hF; cases hF
  refine ⟨fun t ht hT => ?_, fun t ht hT => hup t ht (h.up t ht hT), fun _ => ?_, fun hm => (by cases hm)⟩
  · unfold setB at hT
    by_cases e : t = s
    · subst e; exact hl
    · rw [if_neg e] at hT; exact h.sound t ht hT
  · exact (cntb_lt (fun x hx hX => hup x hx (h.up x hx hX))).2 ⟨s, hs, h0, by unfold setB; rw [if_pos rfl]⟩
/-- what is known at a round's begin -/
def AtR (D : Dx) (F : Nat → Bool) (more : Bool) : Prop := (∀ t, t < D.rn → F t = true → Live D t) ∧ (more = false → Closed D F D.rn)
theorem Rnd.done {D : Dx} {F0 F : Nat → Bool} {more : Bool} (h : Rnd D F0 D.rn F more) : AtR D F more := ⟨h.sound, fun hm => (h.same hm).2⟩
theorem AtR.lives {D : Dx} (hd : DOk D) {F : Nat → Bool} (h : AtR D F false) : LivesF D D.rn F := ⟨rfl, fun s hs => ⟨h.1 s hs, fun hl => (h.2 rfl).all hd hs hl⟩⟩
def meas (D : Dx) (F : Nat → Bool) (more : Bool) : Nat := 2 * (D.rn - cntb F D.rn) + (if more then 1 else 0)
theorem Rnd.less {D : Dx} {F0 F : Nat → Bool} {more : Bool} (h : Rnd D F0 D.rn F more) : meas D F more < meas D F0 true := by
  have := cntb_le F D.rn
  unfold meas
  cases more
  · rw [cntb_congr (fun x hx => (h.same rfl).1 x hx)]
    simp
  · have := h.grew rfl
    simp
    omega

set_option maxRecDepth 100000 in
set_option maxHeartbeats 4000000 in
theorem implLeastLive_any (D : Dx) (w : World) (ht : TabZ w) (hw0 : 0 < w.heap.size) (h : DIn w D) (hm : DLe D 4194304) :
    Calls Tryd.prog 9 #[dv D] w (NewB (LiveR D) w) := by
  obtain ⟨W0, hW0⟩ : ∃ W0, W0 = w.alloc (.cells #[.slice D.pa D.pn D.pc, .slice D.ra D.rn D.rc, .slice D.aa D.an D.ac] 32) := ⟨_, rfl⟩
  have hb0 : Below w.heap.size w W0 := by rw [hW0]; exact (Below.refl _ _).alloc (Nat.le_refl _) _
  have HX : Hid (∀ V, Below W0.heap.size W0 V → V.cell? ⟨w.heap.size, 0, none⟩ = some (.slice D.pa D.pn D.pc) ∧ V.cell? ⟨w.heap.size, 1, none⟩ = some (.slice D.ra D.rn D.rc) ∧ V.cell? ⟨w.heap.size, 2, none⟩ = some (.slice D.aa D.an D.ac)) := fun V hV => by
    refine ⟨((bcell hV).1 _ _ (by rw [hW0]; simp)).trans ?_, ((bcell hV).1 _ _ (by rw [hW0]; simp)).trans ?_, ((bcell hV).1 _ _ (by rw [hW0]; simp)).trans ?_⟩ <;> (rw [hW0]; simp [go_sem])
  have H1 : Hid (Calls Tryd.prog 30 #[.agg #[.slice D.pa D.pn D.pc, .slice D.ra D.rn D.rc, .slice D.aa D.an D.ac]] W0 (IsB (DOk D) W0)) := implDfaOk_any D W0 (ht.below hb0) (by have := hb0.size; omega) (h.below hb0) hm
  have HI : Hid (∀ V, Below w.heap.size w V → DIn V D) := fun V hV => h.below hV
  have HB0 : Hid (Below w.heap.size w W0) := hb0
  have HM : Hid (DLe D 4194304) := hm
  have hrg := h.rg
  have hag := h.ag
  have hpn4 : D.pn ≤ 4194304 := hm.p
  have hws : w.heap.size < W0.heap.size := by rw [hW0]; simp
  rw [dv]
  clear h hm ht hw0
  go_enter Tryd.func9, Tryd.ntmps9
  go_wp2_with fail
  rw [← hW0]
  clear hW0 hb0
  refine H1.out.mono ?_
  rintro e w1 ⟨ok, rfl, hok, hb1⟩
  have HOK : Hid (ok = true ↔ DOk D) := hok
  obtain ⟨p0, p1, p2⟩ := HX.out _ hb1
  have HW1 : Hid (Below W0.heap.size W0 w1) := hb1
  have HB1 : Hid (Below w.heap.size w w1) := HB0.out.trans (hb1.mono HB0.out.size)
  have hw1 : w.heap.size < w1.heap.size := by have := hb1.size; omega
  clear hok hb1 hws
  cases ok
  · go_wp2_with fail
    go_ret
    exact .mk' (b := 0) (F := fun _ => false) (fun hn => absurd hn (Nat.lt_irrefl 0)) (.inr ⟨(fun h => by have := HOK.out.2 h; cases this), rfl⟩) HB1.out
  have HD : Hid (DOk D) := HOK.out.1 rfl
  have hrn1 : 1 ≤ D.rn := HD.out.2.1.1
  have hrn2 : D.rn ≤ 40 := HD.out.2.1.2.1
  have HAN : Hid (D.an = D.rn) := HD.out.2.2.1
  have hra : D.ra = some ⟨D.rb, D.roff, none⟩ := hrg (by omega)
  have haa : D.aa = some ⟨D.ab, D.aoff, none⟩ := hag (by have := HAN.out; omega)
  rw [hra, haa] at HX
  rw [hra] at p1
  rw [haa] at p2
  rw [hra, haa]
  clear hra haa hrg hag
  have hmk := makeB D.rn (by omega)
  have HRW : Hid ((w1.alloc (.cells (madeCells #[.bool false] D.rn) 4)).rowIs w1.heap.size 4 D.rn (fun j => .bool ((fun _ => false) j))) := made_B w1 D.rn
  obtain ⟨W1, hW1⟩ : ∃ W1, W1 = (w1.alloc (.cells (madeCells #[.bool false] D.rn) 4)).alloc (.cells #[.slice (some ⟨w1.heap.size, 0, none⟩) D.rn D.rn] 28) := ⟨_, rfl⟩
  have HBW : Hid (Below w1.heap.size w1 W1) := by rw [Hid, hW1]; exact ((Below.refl _ _).alloc (Nat.le_refl _) _).alloc (by simp) _
  have HR1 : Hid (W1.rowIs w1.heap.size 4 D.rn (fun j => .bool ((fun _ => false) j))) := by rw [Hid, hW1]; exact row_below HRW.out ((Below.refl _ _).alloc (Nat.le_refl _) _)
  have HC1 : Hid (W1.cell? ⟨w1.heap.size + 1, 0, none⟩ = some (.slice (some ⟨w1.heap.size, 0, none⟩) D.rn D.rn)) := by rw [Hid, hW1]; simp [go_sem]
  go_wp2_with fail
  rw [← hW1]
  clear hW1 hmk p0 p1 p2
  go_loopg [5] (meas D (fun _ => false) true) (fun gk mv wr => ∃ (F : Nat → Bool) (more : Bool), gk = meas D F more ∧ mv = .bool more ∧ Hid (wr.rowIs w1.heap.size 4 D.rn (fun j => .bool (F j))) ∧ Hid (wr.cell? ⟨w1.heap.size + 1, 0, none⟩ = some (.slice (some ⟨w1.heap.size, 0, none⟩) D.rn D.rn)) ∧ Hid (AtR D F more) ∧ Hid (Below w1.heap.size w1 wr))
  case atStart => exact ⟨fun _ => false, true, rfl, rfl, HR1.out, HC1.out, ⟨fun t _ h => (by cases h), fun h => (by cases h)⟩, HBW.out⟩
  case round =>
    obtain ⟨F0, more, rfl, rfl, HR, HC, HA, HB⟩ := hrel
    cases more
    · have HL : Hid (LivesF D D.rn F0) := HA.out.lives HD.out
      have c1 := HC.out
      go_wp2_with fail
      go_ret
      exact .mk' (fun _ => ⟨rfl, by omega, HR.out⟩) (.inl ⟨HD.out, HL.out⟩) (HB1.out.trans (HB.out.mono HB1.out.size))
    · obtain ⟨p0, p1, p2⟩ := HX.out wr (HW1.out.trans (HB.out.mono HW1.out.size))
      go_wp2_with fail
      go_loopw [5, 20] (fun mv sv ws => ∃ (s : Nat) (F : Nat → Bool) (more : Bool), sv = .int .i64 s ∧ mv = .bool more ∧ s ≤ D.rn ∧ Hid (ws.rowIs w1.heap.size 4 D.rn (fun j => .bool (F j))) ∧ Hid (ws.cell? ⟨w1.heap.size + 1, 0, none⟩ = some (.slice (some ⟨w1.heap.size, 0, none⟩) D.rn D.rn)) ∧ Hid (Rnd D F0 s F more) ∧ Hid (Below w1.heap.size w1 ws)) (fun _ sv _ => D.rn - (intOf sv).toNat)
      case atStart => exact ⟨0, F0, false, rfl, rfl, by omega, HR.out, HC.out, Rnd.start HA.out.1, HB.out⟩
      case round =>
        rename World => ws
        clear p0 p1 p2
        obtain ⟨s, F, more, rfl, rfl, hs, HR2, HC2, HN, HB2⟩ := hrel
        obtain ⟨p0, p1, p2⟩ := HX.out ws (HW1.out.trans (HB2.out.mono HW1.out.size))
        by_cases hsl : s < D.rn
        · have hsz : (s : Int) < (D.rn : Int) := by omega
          have hsa : (s : Int) < (D.an : Int) := by have := HAN.out; omega
          have hdi := HI.out ws (HB1.out.trans (HB2.out.mono HB1.out.size))
          have a1 := hdi.a s (by have := HAN.out; omega)
          obtain ⟨r1, r2, r3⟩ := hdi.r s hsl
          have hl : D.R.n s = D.pn := (HD.out.at hsl).1
          have c1 := HC2.out
          have e1 := HR2.out.cell hsl
          have f1 := HR2.out.frozen s
          have HCT : Hid (Calls Tryd.prog 32 #[.slice (D.R.a s) (D.R.n s) (D.R.cap s), .func (.func 31) #[] #[.pointer (some ⟨w1.heap.size + 1, 0, none⟩)]] ws fun e w' => e = .returned (.bool (anyTo D F s D.pn)) ∧ w' = ws) := by
            have hpn := hl
            have hwn : ∀ i, i < D.R.n s → -1 ≤ D.R.G s i ∧ D.R.G s i < D.rn := fun i hi => by
              have := (HD.out.at hsl).2.1 i (by omega)
              omega
            have := containsLive_any (D.R.a s) (D.R.b s) (D.R.off s) (D.R.cap s) (D.R.n s) (D.R.G s) (w1.heap.size + 1) w1.heap.size D.rn F ws r2 r3 (by have := HD.out.1; have h4 := HM.out.ri s hsl; omega) HC2.out HR2.out hwn (by omega)
            rw [show (List.range (D.R.n s)).any (fun i => isTo F (D.R.G s i)) = anyTo D F s D.pn by rw [hl]; rfl] at this
            exact this
          have HSET : Hid (F s = false → Live D s → (ws.setCell ⟨w1.heap.size, s, none⟩ (.bool true)).rowIs w1.heap.size 4 D.rn (fun i => .bool (setB F s true i)) ∧ (ws.setCell ⟨w1.heap.size, s, none⟩ (.bool true)).cell? ⟨w1.heap.size + 1, 0, none⟩ = some (.slice (some ⟨w1.heap.size, 0, none⟩) D.rn D.rn) ∧ Rnd D F0 (s + 1) (setB F s true) true ∧ Below w1.heap.size w1 (ws.setCell ⟨w1.heap.size, s, none⟩ (.bool true))) := fun hF hL =>
            ⟨row_setB HR2.out s true, (World.cell?_setCell_far _ _ _ _ (by simp)).trans HC2.out, HN.out.set hsl hF hL, HB2.out.setCell (by simp) _⟩
          clear r2 r3 hl hdi
          cases hF : F s
          · rw [hF] at e1
            have HF : Hid (F s = false) := hF
            clear hF
            by_cases ha : D.A s = -1
            · have haz : (D.A s != -1) = false := by simp [ha]
              have HAE : Hid (D.A s = -1) := ha
              clear ha
              go_wp2_with fail
              refine HCT.out.mono ?_
              rintro e w2 ⟨rfl, hw⟩
              subst w2
              cases hAT : anyTo D F s D.pn
              · have HNX : Hid (Rnd D F0 (s + 1) F more) := HN.out.skip (.inr ⟨HAE.out, hAT⟩)
                clear hAT
                go_wp2_with fail
                go_roundw
                case rel => exact ⟨s + 1, F, more, by go_num, rfl, by omega, HR2.out, HC2.out, HNX.out, HB2.out⟩
                case measure => simp [intOf]; omega
              · have HLV : Hid (Live D s) := by
                  obtain ⟨k, hk, h0, h1⟩ := anyTo_iff.1 hAT
                  exact Live.step hk h0 (HN.out.sound _ (to_lt HD.out hsl hk h0) h1)
                have HS := HSET.out HF.out HLV.out
                have HSS : Hid ((ws.setCell ⟨w1.heap.size, s, none⟩ (.bool true)).rowIs w1.heap.size 4 D.rn (fun i => .bool (setB F s true i)) ∧ (ws.setCell ⟨w1.heap.size, s, none⟩ (.bool true)).cell? ⟨w1.heap.size + 1, 0, none⟩ = some (.slice (some ⟨w1.heap.size, 0, none⟩) D.rn D.rn) ∧ Rnd D F0 (s + 1) (setB F s true) true ∧ Below w1.heap.size w1 (ws.setCell ⟨w1.heap.size, s, none⟩ (.bool true))) := HS
                clear hAT HS
                go_wp2_with fail
                go_roundw
                case rel => exact ⟨s + 1, _, true, by go_num, rfl, by omega, HSS.out.1, HSS.out.2.1, HSS.out.2.2.1, HSS.out.2.2.2⟩
                case measure => simp [intOf]; omega
            · have haz : (D.A s != -1) = true := by simp [ha]
              have HLV : Hid (Live D s) := Live.acc (by have := HD.out.2.2.2 s (by have := HAN.out; omega); omega)
              have HS := HSET.out HF.out HLV.out
              have HSS : Hid ((ws.setCell ⟨w1.heap.size, s, none⟩ (.bool true)).rowIs w1.heap.size 4 D.rn (fun i => .bool (setB F s true i)) ∧ (ws.setCell ⟨w1.heap.size, s, none⟩ (.bool true)).cell? ⟨w1.heap.size + 1, 0, none⟩ = some (.slice (some ⟨w1.heap.size, 0, none⟩) D.rn D.rn) ∧ Rnd D F0 (s + 1) (setB F s true) true ∧ Below w1.heap.size w1 (ws.setCell ⟨w1.heap.size, s, none⟩ (.bool true))) := HS
              clear ha HS
              go_wp2_with fail
              go_roundw
              case rel => exact ⟨s + 1, _, true, by go_num, rfl, by omega, HSS.out.1, HSS.out.2.1, HSS.out.2.2.1, HSS.out.2.2.2⟩
              case measure => simp [intOf]; omega
          · rw [hF] at e1
            have HNX : Hid (Rnd D F0 (s + 1) F more) := HN.out.skip (.inl hF)
            clear hF
            go_wp2_with fail
            go_roundw
            case rel => exact ⟨s + 1, F, more, by go_num, rfl, by omega, HR2.out, HC2.out, HNX.out, HB2.out⟩
            case measure => simp [intOf]; omega
        · have hsz : ¬ (s : Int) < (D.rn : Int) := by omega
          have HN2 : Hid (Rnd D F0 D.rn F more) := (show s = D.rn by omega) ▸ HN.out
          go_wp2_with fail
          go_roundg (meas D F more)
          case measure => exact HN2.out.less
          case rel => exact ⟨F, more, rfl, rfl, HR2.out, HC2.out, HN2.out.done, HB2.out⟩
end Go.Proofs.YtbfpnndcbaffoaaDoor

