/- the walk of byteRowOf -/
import Derived.Test.YtolddecfibdblaaDoorJm
import Derived.Deep.WholeRow
import Derived.Deep.MidRow
namespace Go.Proofs.YtolddecfibdblaaDoor
open Go.RowKit
set_option linter.unusedVariables false
set_option linter.unusedSimpArgs false

/-- as many zeros as there are bytes -/
def z256 : Array Value := Array.replicate 256 (.int .i64 0)
theorem z256_size : z256.size = 256 := by simp [z256]
theorem zeroRow : ∀ w, (zeroValue 54).run Tryd.prog w = .ok (.agg z256) w :=
  (zero_of_info (P := Tryd.prog) (t := 54) (v := .agg z256) (n := 256) (by kernel_rfl)).1
theorem sizeRow : (Tryd.prog.info? 54).map (·.size) = some 256 :=
  (zero_of_info (P := Tryd.prog) (t := 54) (v := .agg z256) (n := 256) (by kernel_rfl)).2
theorem z256_row (w : World) : (w.alloc (.cells z256 54)).rowIs w.heap.size 54 256 (fun _ => .int .i64 0) := by
  have h := World.rowIs_alloc w z256 54 (fun _ => .int .i64 0) (fun i hi => by
    rw [z256_size] at hi
    simp [z256, hi])
  rw [z256_size] at h
  exact h

theorem results_cell_ld {P : Program} {fn : Func} {p : Tmp} {ty : TypeId} (h : fn.results = #[.cell p ty]) (tmps : Array Value) (w : World) (ad : Addr) {v : Value}
    (hp : tmps.getD p undef = .pointer (some ad)) (hl : (loadVar ty ad).run P w = .ok v w) : (results fn tmps).run P w = .ok v w := by
  have hp' : tmps[p]?.getD undef = .pointer (some ad) := by simpa using hp
  simp [results, h, hp', asAddr, hl]
/-- F says of each byte of the first k parts what G says of the part -/
def RowFit (N : Nest) (G F : Nat → Int) (k : Nat) : Prop := ∀ i, i < k → ∀ x, x < 256 → Sb N i x = true → F x = G i
/-- and of the next part's first q spans, and of the bytes of the span behind these below c -/
def RowFit' (N : Nest) (G F : Nat → Int) (k q : Nat) (c : Int) : Prop := RowFit N G F k ∧ ∀ x : Nat, x < 256 → (hs q (N.L k) (N.H k) x = true ∨ (N.L k q ≤ (x : Int) ∧ (x : Int) < c)) → F x = G k

theorem below_setCells {B : Nat} {w0 : World} (b : Nat) (hb : B ≤ b) : ∀ (vs : List Value) (o : Nat) (w : World), Below B w0 w → Below B w0 (w.setCells b o vs)
  | [], _, _, h => h
  | v :: r, o, w, h => by
    rw [World.setCells]
    exact below_setCells b hb r (o + 1) _ (h.setCell hb v)
/-- what byteRowOf tells -/
def RowRes (n : Nat) (N : Nest) (G : Nat → Int) (w : World) (e : Ending) (w' : World) : Prop := ∃ (c : Array Value) (F : Nat → Int), e = .returned (.agg c) ∧ (c.size = 256 ∧ ∀ i, i < 256 → c[i]? = some (.int .i64 (F i))) ∧ RowFit N G F n ∧ Below w.heap.size w w'
/-- F with G k at c -/
def fup (F : Nat → Int) (c : Nat) (v : Int) (x : Nat) : Int := if x = c then v else F x
theorem fit_start {N : Nest} {G F : Nat → Int} {k : Nat} (h : RowFit N G F k) : RowFit' N G F k 0 (N.L k 0) :=
  ⟨h, fun x hx g => by
    rcases g with g | g
    · simp [hs, hasB] at g
    · omega⟩
theorem fit_step {N : Nest} {G F : Nat → Int} {k q c : Nat} (hd : ∀ j, j < k → Dis (Sb N k) (Sb N j)) (hq : q < N.n k) (h1 : N.L k q ≤ (c : Int)) (h2 : (c : Int) ≤ N.H k q) (hc : c < 256) (h : RowFit' N G F k q c) : RowFit' N G (fup F c (G k)) k q ((c : Int) + 1) := by
  have hin : Sb N k c = true := by rw [Sb, hs, hasB_iff]; exact ⟨q, hq, h1, h2⟩
  refine ⟨fun i hi x hx hs => ?_, fun x hx g => ?_⟩
  · unfold fup
    by_cases e : x = c
    · subst e; exact absurd ⟨hin, hs⟩ (hd i hi x hx)
    · rw [if_neg e]; exact h.1 i hi x hx hs
  · unfold fup
    by_cases e : x = c
    · rw [if_pos e]
    · rw [if_neg e]
      refine h.2 x hx ?_
      rcases g with g | g
      · exact .inl g
      · exact .inr ⟨g.1, by omega⟩
theorem fit_next {N : Nest} {G F : Nat → Int} {k q : Nat} {c : Int} (hc : N.H k q < c) (h : RowFit' N G F k q c) : RowFit' N G F k (q + 1) (N.L k (q + 1)) := by
  refine ⟨h.1, fun x hx g => h.2 x hx ?_⟩
  rcases g with g | g
  · rw [hs, hasB_iff] at g
    obtain ⟨i, h1, h2, h3⟩ := g
    by_cases e : i = q
    · subst e; exact .inr ⟨h2, by omega⟩
    · exact .inl (by rw [hs, hasB_iff]; exact ⟨i, by omega, h2, h3⟩)
  · omega
theorem fit_end {N : Nest} {G F : Nat → Int} {k : Nat} {c : Int} (h : RowFit' N G F k (N.n k) c) : RowFit N G F (k + 1) := by
  intro i hi x hx hs
  by_cases e : i = k
  · subst e; exact h.2 x hx (.inl hs)
  · exact h.1 i (by omega) x hx hs

set_option maxRecDepth 100000 in
set_option maxHeartbeats 4000000 in
theorem byteRow_any (a : Option Addr) (b off cap n : Nat) (N : Nest) (a' : Option Addr) (b' off' cap' : Nat) (G : Nat → Int) (w : World) (hga : 0 < n → a = some ⟨b, off, none⟩) (hc : SS w b off n N) (hga' : 0 < n → a' = some ⟨b', off', none⟩) (hc' : Ip w b' off' n G)
    (hn : n ≤ 4194304) (hni : ∀ i, i < n → N.n i ≤ 4194304) (hP : PartsGood n N) :
    Calls Tryd.prog 51 #[.slice a n cap, .slice a' n cap'] w (RowRes n N G w) := by
  have hz := zeroRow
  go_enter Tryd.func51, Tryd.ntmps51
  go_wp2_with fail
  clear hz
  go_loopw [13] (fun i wr => ∃ (k : Nat) (F : Nat → Int), k ≤ n ∧ i = .int .i64 k ∧ wr.rowIs (w.heap.size + 1) 54 256 (fun j => .int .i64 (F j)) ∧ wr.rowIs w.heap.size 54 256 (fun _ => .int .i64 0) ∧ Hid (RowFit N G F k) ∧ Below w.heap.size w wr) (fun i _ => n - (intOf i).toNat)
  case atStart =>
    refine ⟨0, fun _ => 0, Nat.zero_le _, rfl, ?_, (z256_row w).alloc _, fun i hi => absurd hi (Nat.not_lt_zero _), ((Below.refl _ _).alloc (Nat.le_refl _) _).alloc (by simp) _⟩
    have h := z256_row (w.alloc (.cells z256 54))
    rw [World.size_alloc] at h
    exact h
  case round =>
    obtain ⟨k, F, hk, rfl, hrow, hres, HF, hB⟩ := hrel
    by_cases hlt : k < n
    · have haa := hga (by omega)
      have haa' := hga' (by omega)
      subst haa
      subst haa'
      have hltz : (k : Int) < (n : Int) := by omega
      obtain ⟨c1, g1, s1⟩ := (hc.below hB) k hlt
      have hok : ∀ q, q < N.n k → OkAt (N.L k) (N.H k) q := okB_iff.1 (hP.1 k hlt).ok
      have HOK : Hid (∀ q, q < N.n k → OkAt (N.L k) (N.H k) q) := hok
      have HDIS : Hid (∀ j, j < k → Dis (Sb N k) (Sb N j)) := (hP.1 k hlt).dis
      have hn4 := hni k hlt
      clear hok
      go_wp2_with fail
      go_loopw [20] (fun i wi => ∃ (q : Nat) (F1 : Nat → Int), q ≤ N.n k ∧ i = .int .i64 q ∧ wi.rowIs (w.heap.size + 1) 54 256 (fun j => .int .i64 (F1 j)) ∧ wi.rowIs w.heap.size 54 256 (fun _ => .int .i64 0) ∧ Hid (RowFit' N G F1 k q (N.L k q)) ∧ Hid (Below w.heap.size w wi)) (fun i _ => N.n k - (intOf i).toNat)
      case atStart => exact ⟨0, F, Nat.zero_le _, rfl, hrow, hres, fit_start HF.out, hB⟩
      case round =>
        obtain ⟨q, F1, hq, rfl, hrow, hres, HF1, hB1⟩ := hrel
        by_cases hqt : q < N.n k
        · have hak : N.a k = some ⟨N.b k, N.off k, none⟩ := g1 (by omega)
          have hqz : (q : Int) < (N.n k : Int) := by omega
          have hBB := hB1.out
          obtain ⟨c2, c3⟩ := ((hc.below hBB) k hlt).2.2 q hqt
          obtain ⟨o1, o2, o3, _⟩ := HOK.out q hqt
          obtain ⟨lo, hlo⟩ : ∃ lo : Nat, N.L k q = lo := ⟨(N.L k q).toNat, by omega⟩
          obtain ⟨hi, hhi⟩ : ∃ hi : Nat, N.H k q = hi := ⟨(N.H k q).toNat, by omega⟩
          rw [hlo] at c2
          rw [hhi] at c3
          have hpl : w.heap.size + 1 < wr.heap.size := hrow.lt
          rw [hak]
          obtain ⟨pb, hpb⟩ : ∃ pb, wr.heap.size = pb := ⟨_, rfl⟩
          have hbel0 := hBB.alloc hBB.size (.cells #[.int .i64 lo, .int .i64 hi] 87)
          go_wp2_with fail
          have HLH : Hid (N.L k q = lo ∧ N.H k q = hi) := ⟨hlo, hhi⟩
          have hhi255 : hi ≤ 255 := by omega
          have HQ : Hid (q < N.n k) := hqt
          go_loopw [10] (fun t wj => ∃ (c : Nat) (F2 : Nat → Int), t = .int .i64 c ∧ Hid (lo ≤ c ∧ (c ≤ hi + 1 ∨ c = lo)) ∧ wj.rowIs (w.heap.size + 1) 54 256 (fun j => .int .i64 (F2 j)) ∧ wj.rowIs w.heap.size 54 256 (fun _ => .int .i64 0) ∧ Hid (RowFit' N G F2 k q c) ∧
              wj.cell? ⟨pb, 0, none⟩ = some (.int .i64 lo) ∧ wj.cell? ⟨pb, 1, none⟩ = some (.int .i64 hi) ∧ Hid (Below w.heap.size w wj)) (fun t _ => 257 - (intOf t).toNat)
          case atStart =>
            refine ⟨lo, F1, rfl, ⟨Nat.le_refl _, .inr rfl⟩, hrow.alloc _, hres.alloc _, ?_, ?_, ?_, hbel0⟩
            · rw [← HLH.out.1]; exact HF1.out
            · rw [← hpb]; exact (cell_new2 wr _ _ _).1
            · rw [← hpb]; exact (cell_new2 wr _ _ _).2
          case round =>
            obtain ⟨c, F2, rfl, HC, irow, ires, HF2, p0, p1, iB⟩ := hrel
            by_cases htest : c ≤ hi
            · have htz : (c : Int) ≤ (hi : Int) := by omega
              have hc256 : c < 256 := by omega
              have i1 := irow.cell (i := c) hc256
              have i2 := irow.frozen c
              have iBB := iB.out
              have d1 := (hc'.below iBB) k hlt
              have HIR : Hid (wr.rowIs (w.heap.size + 1) 54 256 (fun j => .int .i64 (F2 j))) := irow
              have HIS : Hid (wr.rowIs w.heap.size 54 256 (fun _ => .int .i64 0)) := ires
              have HIB : Hid (Below w.heap.size w wr) := iBB
              clear irow ires iB iBB
              have HFS : Hid (RowFit' N G (fup F2 c (G k)) k q ((c : Int) + 1)) := fit_step HDIS.out HQ.out (by have := HLH.out; have := HC.out; omega) (by have := HLH.out; omega) hc256 HF2.out
              have hne : pb ≠ w.heap.size + 1 := by omega
              go_wp2_with fail
              go_roundw
              case rel =>
                refine ⟨c + 1, fup F2 c (G k), by go_num, ⟨by have := HC.out; omega, by have := HC.out; omega⟩, (HIR.out.set c _).congr (fun j _ => ?_), HIS.out.setOther (by simp) _, HFS.out, ?_, ?_, HIB.out.setCell (by simp) _⟩
                · unfold fup
                  by_cases e : j = c
                  · rw [if_pos e, if_pos e]
                  · rw [if_neg e, if_neg e]
                · exact (World.cell?_setCell_other _ _ _ _ (fun e => by have := congrArg Addr.block e; simp at this; omega)).trans p0
                · exact (World.cell?_setCell_other _ _ _ _ (fun e => by have := congrArg Addr.block e; simp at this; omega)).trans p1
              case measure => simp [intOf]; omega
            · have htz : ¬ (c : Int) ≤ (hi : Int) := by omega
              go_wp2_with fail
              go_roundw
              case rel => exact ⟨q + 1, F2, by omega, by go_num, irow, ires, fit_next (by have := HLH.out; omega) HF2.out, iB⟩
              case measure => simp [intOf]; omega
        · have hqz : ¬ (q : Int) < (N.n k : Int) := by omega
          have heq : q = N.n k := by omega
          have HFE : Hid (RowFit N G F1 (k + 1)) := by subst heq; exact fit_end HF1.out
          go_wp2_with fail
          go_roundw
          case rel => exact ⟨k + 1, F1, by omega, by go_num, hrow, hres, HFE.out, hB1.out⟩
          case measure => simp [intOf]; omega
    · have hltz : ¬ (k : Int) < (n : Int) := by omega
      have hek : k = n := by omega
      have HFN : Hid (RowFit N G F n) := hek ▸ HF.out
      obtain ⟨cs, hh, hsz, hget⟩ := hrow
      have hsr : (Tryd.prog.info? 54).map (·.size) = some cs.size := by rw [hsz]; exact sizeRow
      have hone : cs.all (·.oneCell') = true := by
        rw [Array.all_eq_true]
        intro i hi
        have := hget i (by omega)
        rw [Array.getElem?_eq_getElem hi] at this
        rw [Option.some.inj this]
        rfl
      have hrange : wr.rangeAt (w.heap.size + 1) 0 cs.toList := fun j v hv => by
        rw [Nat.zero_add, cell_of_row wr (w.heap.size + 1) j cs _ _ hh]
        simpa using hv
      have hthere : wr.there w.heap.size 0 cs.size := fun j hj => by
        rw [hsz] at hj
        exact ⟨by rw [Nat.zero_add, hres.cell hj]; rfl, hres.frozen _⟩
      have hrange2 := World.rangeAt_setCells_same wr w.heap.size 0 cs.toList (by simpa using hthere)
      have hld := run_loadVar_mid (P := Tryd.prog) (wr.setCells w.heap.size 0 cs.toList) w.heap.size 0 54 cs.toList _ hrange2 Tryd.underlying54 rfl (by simpa using hsr)
      have hstc := run_storeCells_cells (P := Tryd.prog) w.heap.size 0 cs.toList 0 wr (fun j hj => by simpa using (hthere j (by simpa using hj)).1) (fun j hj => by simpa using (hthere j (by simpa using hj)).2)
        (fun v hv => (Array.all_eq_true_iff_forall_mem.1 hone) v (by simpa using hv))
      simp only [Nat.add_zero] at hstc
      have hbl : Below w.heap.size w (wr.setCells w.heap.size 0 cs.toList) := below_setCells _ (Nat.le_refl _) _ _ _ hB
      have HBL : Hid (Below w.heap.size w (wr.setCells w.heap.size 0 cs.toList)) := hbl
      have HH : Hid (cs.size = 256 ∧ ∀ i, i < 256 → cs[i]? = some (.int .i64 (F i))) := ⟨hsz, hget⟩
      have HA : Hid (wr.rangeAt (w.heap.size + 1) 0 cs.toList ∧ wr.there w.heap.size 0 cs.size ∧ (Tryd.prog.info? 54).map (·.size) = some cs.size ∧ cs.all (·.oneCell') = true) := ⟨hrange, hthere, hsr, hone⟩
      have HLD : Hid ((loadVar 54 ⟨w.heap.size, 0, none⟩).run Tryd.prog (wr.setCells w.heap.size 0 cs.toList) = .ok (.agg cs) (wr.setCells w.heap.size 0 cs.toList)) := by simpa [Hid] using hld
      clear hh hget hres hone hsr HF hrange hthere hrange2 hld hbl
      go_wp2_with fail
      refine wp_load_mid 54 (.tmp 5) rfl (w.heap.size + 1) 0 (by simp [go_sem]) cs.toList _ HA.out.1 Tryd.underlying54 rfl (by simpa using HA.out.2.2.1) ?_
      go_wp2_with fail
      refine bodyPost_ret (v := .agg cs) ?_ rfl ⟨cs, F, rfl, HH.out, HFN.out, HBL.out⟩
      have hl := HLD.out
      exact results_cell_ld (p := 4) Tryd.results51 _ _ ⟨w.heap.size, 0, none⟩ (by simp) hl
end Go.Proofs.YtolddecfibdblaaDoor

