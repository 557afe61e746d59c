/- the walk of LeastTwo of the project -/
import Derived.Test.YtbfpnndcbaffoaaDoorKd
import Derived.Test.YtbfpnndcbaffoaaDoorKe1
namespace Go.Proofs.YtbfpnndcbaffoaaDoor
open Go.RowKit Go.Shelf
set_option linter.unusedVariables false
set_option linter.unusedSimpArgs false

/-- what is known of the box of an entry -/
def BoxE (W : World) (b : Nat) (u : ByteArray) (x y : Int) : Prop := W.cell? ⟨b, 0, none⟩ = some (.string u) ∧ W.cell? ⟨b, 1, none⟩ = some (.int .i64 x) ∧ W.cell? ⟨b, 2, none⟩ = some (.int .i64 y)
theorem BoxE.blk {W W' : World} {b : Nat} {u : ByteArray} {x y : Int} (h : BoxE W b u x y) (e : W'.heap[b]? = W.heap[b]?) : BoxE W' b u x y :=
  ⟨(World.cell?_of_block (w := W) e).trans h.1, (World.cell?_of_block (w := W) e).trans h.2.1, (World.cell?_of_block (w := W) e).trans h.2.2⟩
theorem BoxE.lt {W : World} {b : Nat} {u : ByteArray} {x y : Int} (h : BoxE W b u x y) : b < W.heap.size := World.block_lt_of_cell? _ _ h.1
theorem BoxE.below {W W' : World} {b : Nat} {u : ByteArray} {x y : Int} (h : BoxE W b u x y) (hb : Below W.heap.size W W') : BoxE W' b u x y := h.blk (hb.block b h.lt)
theorem push3 {w6 V w7 : World} {base : Nat} {L : List Ent} {m g c g' c' ab mb nn : Nat} {F : Int → Int → Bool} {u U : ByteArray} {x y x' y' : Int} (h : Mt3 w6 base L m g c) (hq : Mq w6 mb nn F) (hb : BoxE w6 ab u x y) (hne : g ≠ ab) (hs : base ≤ w6.heap.size) (hV : Below w6.heap.size w6 V)
    (hown : w7.ownsRow base 69 3 (.slice (some ⟨g', 0, none⟩) (m + 1) c') (m + 1) (L.flatMap encE ++ [.string U, .int .i64 x', .int .i64 y'])) (hgr : V.grownBy w7 (Value.slice (some ⟨g, 0, none⟩) m c).ownBlock)
    (hat : (Value.slice (some ⟨g', 0, none⟩) (m + 1) c').ownBlock = (Value.slice (some ⟨g, 0, none⟩) m c).ownBlock ∨ (Value.slice (some ⟨g', 0, none⟩) (m + 1) c').ownBlock = some V.heap.size) :
    Mt3 w7 base (L ++ [(x', y', U)]) (m + 1) g' c' ∧ Mq w7 mb nn F ∧ BoxE w7 ab u x y ∧ g' ≠ ab ∧ Below base w6 w7 := by
  have hz := hV.size
  have hlm := hq.lt.1
  have hla := hb.lt
  have hgm := h.ne_map hq
  have h2 := hq.below hV
  have h3 := hb.below hV
  simp only [Value.ownBlock] at hgr hat
  refine ⟨⟨by simp [h.1], by rw [List.flatMap_append]; simpa [encE] using hown⟩, h2.blk (hgr.block mb (by omega) (fun e => hgm (Option.some.inj e).symm)), h3.blk (hgr.block ab (by omega) (fun e => hne (Option.some.inj e).symm)), ?_, (hV.mono hs).grown hgr (by omega) (fun j e => by cases e; exact h.lt.1)⟩
  rcases hat with e | e
  · have := Option.some.inj e; omega
  · have := Option.some.inj e; omega
theorem any_snoc {L : List Ent} {x y a b : Int} {u : ByteArray} : (L ++ [(x, y, u)]).any (fun q => q.1 == a && q.2.1 == b) = (L.any (fun q => q.1 == a && q.2.1 == b) || (x == a && y == b)) := by simp

set_option maxRecDepth 100000 in
set_option maxHeartbeats 4000000 in
theorem implLeastTwo_any (D : Dx) (s t : Int) (w : World) (ht : TabZ w) (hw0 : 0 < w.heap.size) (h : DIn w D) (hm : DLe D 4194304) :
    Calls Tryd.prog 21 #[dv D, .int .i64 s, .int .i64 t] w (TwoRes (TwoR D s t) w) := by
  obtain ⟨W0, hW0⟩ : ∃ W0, W0 = w.alloc (.cells #[.slice D.pa D.pn D.pc, .slice D.ra D.rn D.rc, .slice D.aa D.an D.ac] 32) := ⟨_, rfl⟩
  have hb0 : Below w.heap.size w W0 := by rw [hW0]; exact (Below.refl _ _).alloc (Nat.le_refl _) _
  have HX : Hid (∀ V, Below W0.heap.size W0 V → V.cell? ⟨w.heap.size, 0, none⟩ = some (.slice D.pa D.pn D.pc) ∧ V.cell? ⟨w.heap.size, 1, none⟩ = some (.slice D.ra D.rn D.rc) ∧ V.cell? ⟨w.heap.size, 2, none⟩ = some (.slice D.aa D.an D.ac)) := fun V hV => by
    refine ⟨((bcell hV).1 _ _ (by rw [hW0]; simp)).trans ?_, ((bcell hV).1 _ _ (by rw [hW0]; simp)).trans ?_, ((bcell hV).1 _ _ (by rw [hW0]; simp)).trans ?_⟩ <;> (rw [hW0]; simp [go_sem])
  have H1 : Hid (Calls Tryd.prog 30 #[.agg #[.slice D.pa D.pn D.pc, .slice D.ra D.rn D.rc, .slice D.aa D.an D.ac]] W0 (IsB (DOk D) W0)) := implDfaOk_any D W0 (ht.below hb0) (by have := hb0.size; omega) (h.below hb0) hm
  have H2 : Hid (∀ (V : World) (x y : Int), Below w.heap.size w V → DOk D → -1 ≤ x ∧ x < D.rn → -1 ≤ y ∧ y < D.rn → Calls Tryd.prog 46 #[.agg #[.int .i64 x, .int .i64 y], .agg #[.slice D.pa D.pn D.pc, .slice D.ra D.rn D.rc, .slice D.aa D.an D.ac]] V fun e w' => e = .returned (.bool (accI D x != accI D y)) ∧ Below V.heap.size V w') := fun V x y hV hd hx hy => differs_any D x y V (h.below hV) hd hx hy
  have H3 : Hid (∀ (V : World) (x y : Int) (k : Nat), Below w.heap.size w V → DOk D → -1 ≤ x ∧ x < D.rn → -1 ≤ y ∧ y < D.rn → k < D.pn → Calls Tryd.prog 47 #[.agg #[.int .i64 x, .int .i64 y], .agg #[.slice D.pa D.pn D.pc, .slice D.ra D.rn D.rc, .slice D.aa D.an D.ac], .int .i64 k] V fun e w' => e = .returned (.agg #[.int .i64 (nxI D x k), .int .i64 (nxI D y k)]) ∧ Below V.heap.size V w') := fun V x y k hV hd hx hy hk => behind_any D x y k V (h.below hV) hd hx hy hk
  have HI : Hid (∀ V, Below w.heap.size w V → DIn V D) := fun V hV => h.below hV
  have HTB : Hid (∀ V, Below w.heap.size w V → TabZ V) := fun V hV => ht.below hV
  have HM : Hid (DLe D 4194304) := hm
  have HB0 : Hid (Below w.heap.size w W0) := hb0
  have hrn4 := hm.r
  have hws : w.heap.size < W0.heap.size := by rw [hW0]; simp
  rw [dv]
  clear h hm ht hw0
  go_enter Tryd.func21, Tryd.ntmps21
  go_wp2_with fail
  rw [← hW0]
  clear hW0 hb0
  refine H1.out.mono ?_
  rintro e w1 ⟨ok, rfl, hok, hb1⟩
  have HOK : Hid (ok = true ↔ DOk D) := hok
  obtain ⟨p0, p1, p2⟩ := HX.out _ hb1
  have HW1 : Hid (Below W0.heap.size W0 w1) := hb1
  have HB1 : Hid (Below w.heap.size w w1) := HB0.out.trans (hb1.mono HB0.out.size)
  have hgw : w.heap.size < w1.heap.size := by have := hb1.size; omega
  clear hok hws hb1
  cases ok
  · go_wp2_with fail
    refine bodyPost_ret (v := .tuple #[.bool false, .string ⟨#[]⟩]) (by simp [results, Tryd.results21, go_sem]) rfl ?_
    exact .mk' (.inr ⟨(fun h => by have := HOK.out.2 h.1; cases this), rfl, rfl⟩) HB1.out
  have HD : Hid (DOk D) := HOK.out.1 rfl
  have HPN : Hid (0 < D.pn) := by
    obtain ⟨k, hk, _⟩ := some_part HD.out (x := 0) (by omega)
    show 0 < D.pn
    omega
  have hpa : D.pa = some ⟨D.pb, D.poff, none⟩ := (HI.out _ HB1.out).pg HPN.out
  rw [hpa] at HX H2 H3 p0 ⊢
  clear hpa
  by_cases h1 : s < 0
  · go_wp2_with fail
    refine bodyPost_ret (v := .tuple #[.bool false, .string ⟨#[]⟩]) (by simp [results, Tryd.results21, go_sem]) rfl ?_
    exact .mk' (.inr ⟨(fun h => by have := h.2.1; omega), rfl, rfl⟩) HB1.out
  by_cases h3 : t < 0
  · go_wp2_with fail
    refine bodyPost_ret (v := .tuple #[.bool false, .string ⟨#[]⟩]) (by simp [results, Tryd.results21, go_sem]) rfl ?_
    exact .mk' (.inr ⟨(fun h => by have := h.2.2.2.1; omega), rfl, rfl⟩) HB1.out
  by_cases h2 : (D.rn : Int) ≤ s
  · go_wp2_with fail
    refine bodyPost_ret (v := .tuple #[.bool false, .string ⟨#[]⟩]) (by simp [results, Tryd.results21, go_sem]) rfl ?_
    exact .mk' (.inr ⟨(fun h => by have := h.2.2.1; omega), rfl, rfl⟩) HB1.out
  by_cases h4 : (D.rn : Int) ≤ t
  · go_wp2_with fail
    refine bodyPost_ret (v := .tuple #[.bool false, .string ⟨#[]⟩]) (by simp [results, Tryd.results21, go_sem]) rfl ?_
    exact .mk' (.inr ⟨(fun h => by have := h.2.2.2.2; omega), rfl, rfl⟩) HB1.out
  have HST : Hid (InR D s t) := by unfold Hid InR; omega
  have d1 : decide (s < 0) = false := by simp; omega
  have d2 : decide ((D.rn : Int) ≤ s) = false := by simp; omega
  have d3 : decide (t < 0) = false := by simp; omega
  have d4 : decide ((D.rn : Int) ≤ t) = false := by simp; omega
  have hrn40 : D.rn ≤ 40 := HD.out.2.1.2.1
  have hsr : -1 ≤ s ∧ s ≤ 1000000 := by omega
  have htr : -1 ≤ t ∧ t ≤ 1000000 := by omega
  clear h1 h2 h3 h4
  obtain ⟨WA, hWA⟩ : ∃ WA, WA = (w1.alloc (.cells #[.int .i64 s, .int .i64 t] 67)).alloc (.cells #[.string ⟨#[]⟩, .int .i64 s, .int .i64 t] 69) := ⟨_, rfl⟩
  have hsA : WA.heap.size = w1.heap.size + 1 + 1 := by rw [hWA]; simp
  obtain ⟨W1, hup, HQ1, hgr1⟩ := (Mq.made WA).put (by omega) hsr htr
  have HE0 : Hid (Mt3 W1 w1.heap.size (lev D s t 0) 1 (w1.heap.size + 1) 1) := by
    have e1 := World.ownsRow_lit (base := w1.heap.size) (e := 69) (size := 3) (w1.alloc (.cells #[.int .i64 s, .int .i64 t] 67)) #[.string ⟨#[]⟩, .int .i64 s, .int .i64 t] 1 (by simp) (by unfold maxLen; omega) rfl
    rw [← hWA] at e1
    have e2 := e1.alloc (.map #[] 0)
    refine ⟨rfl, ?_⟩
    refine own_blk (W := WA.alloc (.map #[] 0)) (by simpa [lev, encE] using e2) (hgr1.block _ (by simp [hsA]) (by simp [hsA]))
  have HQ : Hid (Mq W1 WA.heap.size 1 (fun x y => (lev D s t 0).any (fun q => q.1 == x && q.2.1 == y))) := HQ1.congr (fun x y => by simp [lev])
  have HBW : Hid (Below w1.heap.size w1 W1) := by
    have hA : Below w1.heap.size w1 (WA.alloc (.map #[] 0)) := by rw [hWA]; exact (((Below.refl _ _).alloc (Nat.le_refl _) _).alloc (by simp) _).alloc (by simp; omega) _
    exact hA.grown hgr1 (by simp [hsA]; omega) (fun j e => by cases e; omega)
  have hmm : ∀ V : World, (Instr.makeMap 72 none).run Tryd.prog V = .ok (.map (some V.heap.size)) (V.alloc (.map #[] 0)) := fun V => by simp [Instr.makeMap]
  rw [hsA] at hup
  rw [hWA] at hup
  have HMB : Hid (WA.heap.size = w1.heap.size + 1 + 1) := hsA
  clear HQ1 hgr1 hWA hsA hsr htr
  go_wp2_with fail
  go_loopw [9, 11] (fun vm i wr => ∃ (n m g c : Nat), i = .int .i64 n ∧ vm = .slice (some ⟨g, 0, none⟩) m c ∧ n ≤ m ∧ m ≤ 1681 ∧ Hid (Mt3 wr w1.heap.size (lev D s t n) m g c) ∧ Hid (Mq wr (w1.heap.size + 1 + 1) m (fun a b => (lev D s t n).any (fun q => q.1 == a && q.2.1 == b))) ∧ Hid (TwoAt D s t n) ∧ Hid (Below w1.heap.size w1 wr)) (fun _ i _ => 1681 - (intOf i).toNat)
  case atStart => exact ⟨0, 1, _, _, rfl, rfl, by omega, by omega, HE0.out, HMB.out ▸ HQ.out, fun j hj => absurd hj (Nat.not_lt_zero _), HBW.out⟩
  case round =>
    obtain ⟨n, m, g, c, rfl, rfl, hnm, hm, HE, HQ2, HT, HB⟩ := hrel
    by_cases hlt : n < m
    · have hltz : (n : Int) < (m : Int) := by omega
      have hnl : n < (lev D s t n).length := by rw [HE.out.1]; exact hlt
      obtain ⟨⟨x, y, u⟩, he⟩ : ∃ e : Ent, (lev D s t n)[n]? = some e := ⟨_, List.getElem?_eq_getElem hnl⟩
      obtain ⟨c1, c2, c3⟩ := HE.out.at he
      have HG : Hid ((lev D s t n)[n]? = some (x, y, u)) := he
      obtain ⟨hx, hy, hu⟩ := (lev_ok HD.out HST.out n).bd _ (List.mem_of_getElem? he)
      simp only at c1 c2 c3 hx hy hu
      obtain ⟨wa, hwa⟩ : ∃ wa, wa = wr.alloc (.cells #[.string u, .int .i64 x, .int .i64 y] 69) := ⟨_, rfl⟩
      have hba : Below wr.heap.size wr wa := by rw [hwa]; exact (Below.refl _ _).alloc (Nat.le_refl _) _
      have HBX0 : Hid (BoxE wa wr.heap.size u x y) := by rw [hwa]; exact ⟨by simp [go_sem], by simp [go_sem], by simp [go_sem]⟩
      have HBA : Hid (Below wr.heap.size wr wa) := hba
      obtain ⟨p0, p1, p2⟩ := HX.out wa (HW1.out.trans ((HB.out.trans (hba.mono HB.out.size)).mono HW1.out.size))
      have HDF : Hid (Calls Tryd.prog 46 #[.agg #[.int .i64 x, .int .i64 y], .agg #[.slice (some ⟨D.pb, D.poff, none⟩) D.pn D.pc, .slice D.ra D.rn D.rc, .slice D.aa D.an D.ac]] wa fun e w' => e = .returned (.bool (accI D x != accI D y)) ∧ Below wa.heap.size wa w') := H2.out wa x y (HB1.out.trans ((HB.out.trans (hba.mono HB.out.size)).mono HB1.out.size)) HD.out hx hy
      rw [hwa] at p0 p1 p2
      clear hnl he hba
      go_wp2_with fail
      rw [← hwa]
      rw [← hwa] at p0 p1 p2
      clear hwa
      refine HDF.out.mono ?_
      rintro e w2 ⟨rfl, hb2⟩
      have HB2 : Hid (Below wr.heap.size wr w2) := HBA.out.trans (hb2.mono HBA.out.size)
      have hsz2 : wr.heap.size < w2.heap.size := by have := HBX0.out.lt; have := hb2.size; omega
      have HBX : Hid (BoxE w2 wr.heap.size u x y) := HBX0.out.below hb2
      clear p0 p1 p2 c1 c2 c3 hb2 HDF
      obtain ⟨p0, p1, p2⟩ := HX.out w2 (HW1.out.trans ((HB.out.trans (HB2.out.mono HB.out.size)).mono HW1.out.size))
      obtain ⟨b0, b1, b2⟩ := HBX.out
      have hpn4 : D.pn ≤ 4194304 := HM.out.p
      by_cases ha : accI D x = accI D y
      · have hab : (accI D x != accI D y) = false := by simp [ha]
        have HAE : Hid (accI D x = accI D y) := ha
        rw [hab]
        clear ha hab
        go_wp2_with fail
        have hgab : g ≠ wr.heap.size := by have := HE.out.lt.2; omega
        go_loopw [9, 73] (fun vm i wk => ∃ (k m2 g c : Nat), i = .int .i64 k ∧ vm = .slice (some ⟨g, 0, none⟩) m2 c ∧ k ≤ D.pn ∧ n < m2 ∧ m2 ≤ 1681 ∧ g ≠ wr.heap.size ∧ Hid (Mt3 wk w1.heap.size (rowE D (x, y, u) (lev D s t n) k) m2 g c) ∧ Hid (Mq wk (w1.heap.size + 1 + 1) m2 (fun a b => (rowE D (x, y, u) (lev D s t n) k).any (fun q => q.1 == a && q.2.1 == b))) ∧ Hid (BoxE wk wr.heap.size u x y) ∧ Hid (Below w1.heap.size w1 wk)) (fun _ i _ => D.pn - (intOf i).toNat)
        case atStart => exact ⟨0, m, g, c, rfl, rfl, by omega, hlt, hm, hgab, HE.out.below HB2.out, HQ2.out.below HB2.out, HBX.out, HB.out.trans (HB2.out.mono HB.out.size)⟩
        case round =>
          rename World => wk
          clear p0 p1 p2 b0 b1 b2 hgab
          obtain ⟨k, m2, g, c, rfl, rfl, hk, hn2, hm2, hgab, HE2, HQ3, HBX2, HBK⟩ := hrel
          obtain ⟨p0, p1, p2⟩ := HX.out wk (HW1.out.trans (HBK.out.mono HW1.out.size))
          obtain ⟨b0, b1, b2⟩ := HBX2.out
          by_cases hkl : k < D.pn
          · have hkz : (k : Int) < (D.pn : Int) := by omega
            have hdi := HI.out wk (HB1.out.trans (HBK.out.mono HB1.out.size))
            obtain ⟨f1, f2, f3⟩ := hdi.p k hkl
            obtain ⟨B, hB⟩ : ∃ B : Nat, bk D k = B := ⟨_, rfl⟩
            obtain ⟨x', hx'⟩ : ∃ x', nxI D x k = x' := ⟨_, rfl⟩
            obtain ⟨y', hy'⟩ : ∃ y', nxI D y k = y' := ⟨_, rfl⟩
            have HEK : Hid (entK D (x, y, u) k = (x', y', u ++ ⟨#[UInt8.ofNat B]⟩)) := by rw [Hid, entK, hx', hy', hB]
            have HB256 : Hid (B < 256) := hB ▸ bk_lt D k
            have hxr := nxI_bd HD.out hx hkl
            have hyr := nxI_bd HD.out hy hkl
            rw [hx'] at hxr
            rw [hy'] at hyr
            have HSF : Hid (∀ V, Below w.heap.size w V → Calls Tryd.prog 48 #[.slice (D.P.a k) (D.P.n k) (D.P.cap k)] V fun e w' => e = .returned (.int .i64 B) ∧ Below V.heap.size V w') := fun V hV => by
              obtain ⟨_, q2, q3⟩ := (HI.out V hV).p k hkl
              refine (implSetFirst_any _ _ _ _ _ _ _ V (HTB.out V hV) q2 q3 (HM.out.pi k hkl)).mono fun e w' ⟨r, e1, e2, e3⟩ => ⟨?_, e3⟩
              have e4 := bk_eq e2 (FirstB.pos e2 (HD.out.1.1 k hkl).ne)
              rw [e1, e4, hB]
            have HBH : Hid (Calls Tryd.prog 47 #[.agg #[.int .i64 x, .int .i64 y], .agg #[.slice (some ⟨D.pb, D.poff, none⟩) D.pn D.pc, .slice D.ra D.rn D.rc, .slice D.aa D.an D.ac], .int .i64 k] wk fun e w' => e = .returned (.agg #[.int .i64 x', .int .i64 y']) ∧ Below wk.heap.size wk w') := by
              rw [Hid, ← hx', ← hy']; exact H3.out wk x y k (HB1.out.trans (HBK.out.mono HB1.out.size)) HD.out hx hy hkl
            clear hB hx' hy' f2 f3 hdi
            go_wp2_with fail
            refine HBH.out.mono ?_
            rintro e w3 ⟨rfl, hb3⟩
            have HBK3 : Hid (Below w1.heap.size w1 w3) := HBK.out.trans (hb3.mono HBK.out.size)
            have HE3 : Hid (Mt3 w3 w1.heap.size (rowE D (x, y, u) (lev D s t n) k) m2 g c) := HE2.out.below hb3
            have HQ4 : Hid (Mq w3 (w1.heap.size + 1 + 1) m2 (fun a b => (rowE D (x, y, u) (lev D s t n) k).any (fun q => q.1 == a && q.2.1 == b))) := HQ3.out.below hb3
            have HBX3 : Hid (BoxE w3 wr.heap.size u x y) := HBX2.out.below hb3
            have hx6 : -1 ≤ x' ∧ x' ≤ 1000000 := by omega
            have hy6 : -1 ≤ y' ∧ y' ≤ 1000000 := by omega
            obtain ⟨A, hA⟩ : ∃ A : Obj, A = .cells #[.int .i64 x', .int .i64 y'] 67 := ⟨_, rfl⟩
            obtain ⟨Z, hZ⟩ : ∃ Z : Obj, Z = .cells #[] 71 := ⟨_, rfl⟩
            have hbA : Below w3.heap.size w3 (w3.alloc A) := (Below.refl _ _).alloc (Nat.le_refl _) _
            have hbZ : Below w3.heap.size w3 ((w3.alloc A).alloc Z) := hbA.alloc (by simp) _
            have hlk := (HQ4.out.below hbA).look hx6 hy6
            have HBZ : Hid (Below w3.heap.size w3 ((w3.alloc A).alloc Z)) := hbZ
            have hs3 : w1.heap.size ≤ w3.heap.size := HBK3.out.size
            clear p0 p1 p2 b0 b1 b2 f1 hb3
            cases hF : (rowE D (x, y, u) (lev D s t n) k).any (fun q => q.1 == x' && q.2.1 == y')
            · have HR : Hid (rowE D (x, y, u) (lev D s t n) (k + 1) = rowE D (x, y, u) (lev D s t n) k ++ [(x', y', u ++ ⟨#[UInt8.ofNat B]⟩)]) := by
                have hnh : ¬ hasP (rowE D (x, y, u) (lev D s t n) k) x' y' := fun g => by
                  have h1 := any_hasP.2 g
                  rw [hF] at h1
                  cases h1
                rw [Hid, rowE, addK_not (by rw [HEK.out]; exact hnh), HEK.out]
              have hm3 : m2 + 1 ≤ 1681 := by
                have h1 := ((lev_ok HD.out HST.out n).mono (Nat.le_succ n)).row HD.out (e := (x, y, u)) ⟨hx, hy, hu⟩ (k := k + 1) (by omega)
                have h2 := h1.len HD.out.2.1.2.1
                rw [HR.out, List.length_append, HE3.out.1] at h2
                simpa using h2
              obtain ⟨w5, hup, hq5, hg5⟩ := (HQ4.out.below hbZ).put (by omega) hx6 hy6
              have HB5 : Hid (Below w1.heap.size w3 w5) := (hbZ.mono hs3).grown hg5 (by simp; omega) (fun j e => by cases e; omega)
              have hs5 : w3.heap.size + 1 + 1 ≤ w5.heap.size := by have := hg5.size; simpa using this
              have hk5 : ∀ b, b < w3.heap.size + 1 + 1 → b ≠ w1.heap.size + 1 + 1 → w5.heap[b]? = ((w3.alloc A).alloc Z).heap[b]? := fun b h1 h2 => hg5.block b (by simpa using h1) (fun e => h2 (Option.some.inj e))
              have HE5 : Hid (Mt3 w5 w1.heap.size (rowE D (x, y, u) (lev D s t n) k) m2 g c) := (HE3.out.below hbZ).blk (hk5 g (by have := HE3.out.lt.2; omega) (HE3.out.ne_map HQ4.out))
              have hmw : w1.heap.size + 1 + 1 < wr.heap.size := HQ2.out.lt.1
              have HBX5 : Hid (BoxE w5 wr.heap.size u x y) := (HBX3.out.below hbZ).blk (hk5 _ (by have := HBX3.out.lt; omega) (by omega))
              have HQ5 : Hid (Mq w5 (w1.heap.size + 1 + 1) (m2 + 1) (fun a b => (rowE D (x, y, u) (lev D s t n) (k + 1)).any (fun q => q.1 == a && q.2.1 == b))) := hq5.congr (fun a b => by rw [HR.out, any_snoc])
              have hA5 : w5.cell? ⟨w3.heap.size, 0, none⟩ = some (.int .i64 x') ∧ w5.cell? ⟨w3.heap.size, 1, none⟩ = some (.int .i64 y') := by
                have e := hk5 w3.heap.size (by omega) (by have := HBX3.out.lt; omega)
                refine ⟨(World.cell?_of_block (w := (w3.alloc A).alloc Z) e).trans ?_, (World.cell?_of_block (w := (w3.alloc A).alloc Z) e).trans ?_⟩ <;> (rw [hA]; simp [go_sem])
              have HA5 : Hid (w5.cell? ⟨w3.heap.size, 0, none⟩ = some (.int .i64 x') ∧ w5.cell? ⟨w3.heap.size, 1, none⟩ = some (.int .i64 y')) := hA5
              rw [hA, hZ] at hup
              rw [hA] at hlk
              rw [hF] at hlk
              clear hA hZ hbA hbZ hq5 hg5 hk5 hA5 hF
              go_wp2_with fail
              refine (HSF.out w5 (HB1.out.trans ((HBK3.out.trans HB5.out).mono HB1.out.size))).mono ?_
              rintro e w6 ⟨rfl, hb6⟩
              have HBK6 : Hid (Below w1.heap.size w1 w6) := (HBK3.out.trans HB5.out).trans (hb6.mono (by omega))
              have HE6 : Hid (Mt3 w6 w1.heap.size (rowE D (x, y, u) (lev D s t n) k) m2 g c) := HE5.out.below hb6
              have HBX6 : Hid (BoxE w6 wr.heap.size u x y) := HBX5.out.below hb6
              have HQ6 : Hid (Mq w6 (w1.heap.size + 1 + 1) (m2 + 1) (fun a b => (rowE D (x, y, u) (lev D s t n) (k + 1)).any (fun q => q.1 == a && q.2.1 == b))) := HQ5.out.below hb6
              obtain ⟨b0, b1, b2⟩ := HBX6.out
              have a0 : w6.cell? ⟨w3.heap.size, 0, none⟩ = some (.int .i64 x') := (hb6.cell (p := ⟨_, _, none⟩) (by show w3.heap.size < _; omega)).trans HA5.out.1
              have a1 : w6.cell? ⟨w3.heap.size, 1, none⟩ = some (.int .i64 y') := (hb6.cell (p := ⟨_, _, none⟩) (by show w3.heap.size < _; omega)).trans HA5.out.2
              have hs6 : w5.heap.size ≤ w6.heap.size := hb6.size
              have hb6a : Below w6.heap.size w6 (w6.alloc (.cells #[.int .u8 (B : Int)] 5)) := (Below.refl _ _).alloc (Nat.le_refl _) _
              have a2 := (hb6a.cell (p := ⟨w3.heap.size, 0, none⟩) (by show w3.heap.size < _; omega)).trans a0
              have a3 := (hb6a.cell (p := ⟨w3.heap.size, 1, none⟩) (by show w3.heap.size < _; omega)).trans a1
              have hbs6 : w1.heap.size ≤ w6.heap.size := by omega
              have hwr : IntKind.u8.wrap (B : Int) = (B : Int) := by rw [IntKind.wrap_u8]; have := HB256.out; omega
              have hus : ¬ 9223372036854775807 < u.size + 1 := by omega
              have hconv := conv_one B HB256.out (w6.alloc (.cells #[.int .u8 (B : Int)] 5)) w6.heap.size (by simp [go_sem])
              obtain ⟨i0, hi, hz0, hz1, hz2⟩ := info_parts Tryd.infoMade
              have HN3 : Hid (∀ (U : ByteArray), ∀ j v, ([.string U, .int .i64 x', .int .i64 y'] : List Value)[j]? = some v → ((w6.alloc (.cells #[.int .u8 (B : Int)] 5)).alloc (.cells #[.string U, .int .i64 x', .int .i64 y'] 69)).cell? ((⟨w6.heap.size + 1, 0, none⟩ : Addr).add j) = some v) := fun U j v hj => by
                have := cell_three_new (w6.alloc (.cells #[.int .u8 (B : Int)] 5)) (.string U) (.int .i64 x') (.int .i64 y') 69 j v hj
                simpa using this
              clear hb6 hup hlk
              go_wp2_with (at_builtin; refine wpList_append_own_at _ rfl _ _ 70 rfl w1.heap.size 69 i0 _ 3 32 Tryd.underlying70 hi hz0 hz1 hz2 (by simp [Value.cells]) (by decide) _ _ _ rfl ((HE6.out.2.alloc _).alloc _) ⟨w6.heap.size + 1, 0, none⟩ 1 1 [.string (u ++ ⟨#[UInt8.ofNat B]⟩), .int .i64 x', .int .i64 y'] rfl rfl (HN3.out _) (by simp [Value.oneCell']) (by unfold maxLen; omega) (by omega) (by rw [World.size_alloc, World.size_alloc]; omega) ?_; intro v' w7 hown7 hgr7 _ hat7; obtain ⟨g', c', rfl⟩ := ownsRow_succ hown7)
              have HFIN : Hid (Mt3 w7 w1.heap.size (rowE D (x, y, u) (lev D s t n) (k + 1)) (m2 + 1) g' c' ∧ Mq w7 (w1.heap.size + 1 + 1) (m2 + 1) (fun a b => (rowE D (x, y, u) (lev D s t n) (k + 1)).any (fun q => q.1 == a && q.2.1 == b)) ∧ BoxE w7 wr.heap.size u x y ∧ g' ≠ wr.heap.size ∧ Below w1.heap.size w6 w7) := by
                have := push3 (u := u) (x := x) (y := y) HE6.out HQ6.out HBX6.out hgab hbs6 (((Below.refl _ _).alloc (Nat.le_refl _) _).alloc (by simp) _) hown7 hgr7 hat7
                rw [HR.out] at this ⊢
                exact this
              clear hown7 hgr7 hat7
              go_roundw
              case rel => exact ⟨k + 1, m2 + 1, g', c', by go_num, rfl, by omega, by omega, hm3, HFIN.out.2.2.2.1, HFIN.out.1, HFIN.out.2.1, HFIN.out.2.2.1, HBK6.out.trans HFIN.out.2.2.2.2⟩
              case measure => simp [intOf]; omega
            · have HR : Hid (rowE D (x, y, u) (lev D s t n) (k + 1) = rowE D (x, y, u) (lev D s t n) k) := by
                rw [Hid, rowE]
                exact addK_has (by rw [HEK.out]; exact any_hasP.1 hF)
              rw [hA] at hlk
              rw [hF] at hlk
              rw [hA, hZ] at HBZ
              clear hA hZ hbA hbZ hF
              go_wp2_with fail
              go_roundw
              case rel => exact ⟨k + 1, m2, g, c, by go_num, rfl, by omega, hn2, hm2, hgab, by rw [HR.out]; exact HE3.out.below HBZ.out, by rw [HR.out]; exact HQ4.out.below HBZ.out, HBX3.out.below HBZ.out, HBK3.out.trans (HBZ.out.mono HBK3.out.size)⟩
              case measure => simp [intOf]; omega
          · have hkz : ¬ (k : Int) < (D.pn : Int) := by omega
            have HL : Hid (lev D s t (n + 1) = rowE D (x, y, u) (lev D s t n) k) := by
              rw [Hid, lev, List.getD_eq_getElem?_getD, HG.out]
              rw [show k = D.pn by omega]
              rfl
            have HT2 : Hid (TwoAt D s t (n + 1)) := fun j hj => by
              by_cases ej : j = n
              · subst ej; exact ⟨_, HG.out, HAE.out⟩
              · exact HT.out j (by omega)
            go_wp2_with fail
            go_roundw
            case rel => exact ⟨n + 1, m2, g, c, by go_num, rfl, by omega, hm2, by rw [HL.out]; exact HE2.out, by rw [HL.out]; exact HQ3.out, HT2.out, HBK.out⟩
            case measure => simp [intOf]; omega
      · have hab : (accI D x != accI D y) = true := by simp [ha]
        have HAE : Hid (¬ accI D x = accI D y) := ha
        rw [hab]
        clear ha hab
        go_wp2_with fail
        go_quiet (fail)
        go_wp2_with fail
        refine bodyPost_ret (v := .tuple #[.bool false, .string u]) (by simp [results, Tryd.results21, go_sem]) rfl ?_
        exact .mk' (.inl ⟨HD.out, HST.out, n, HT.out, .inl ⟨(x, y, u), HG.out, HAE.out, rfl, rfl⟩⟩) (HB1.out.trans (below_drewN (HB.out.trans (HB2.out.mono HB.out.size)) _ |>.mono HB1.out.size))
    · have hltz : ¬ (n : Int) < (m : Int) := by omega
      go_wp2_with fail
      refine bodyPost_ret (v := .tuple #[.bool true, .string ⟨#[]⟩]) (by simp [results, Tryd.results21, go_sem]) rfl ?_
      exact .mk' (.inl ⟨HD.out, HST.out, n, HT.out, .inr ⟨List.getElem?_eq_none (by rw [HE.out.1]; omega), rfl, rfl⟩⟩) (HB1.out.trans (HB.out.mono HB1.out.size))
end Go.Proofs.YtbfpnndcbaffoaaDoor

