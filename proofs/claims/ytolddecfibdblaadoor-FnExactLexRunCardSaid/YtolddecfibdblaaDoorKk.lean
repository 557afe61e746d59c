/- machines that were copied, in memory that may be written; the walks of the marks -/
import Derived.Test.YtolddecfibdblaaDoorJn
import Derived.Test.YtolddecfibdblaaDoorKh
namespace Go.Proofs.YtolddecfibdblaaDoor
open Go.RowKit
set_option linter.unusedVariables false
set_option linter.unusedSimpArgs false

/-- nothing turned but blocks of which Y -/
structure Fr (Y : Nat → Prop) (w w' : World) : Prop where
  os : w'.os = w.os
  tape : w'.tape = w.tape
  output : w'.output = w.output
  size : w'.heap.size = w.heap.size
  block : ∀ k, ¬ Y k → w'.heap[k]? = w.heap[k]?
theorem Fr.refl (Y : Nat → Prop) (w : World) : Fr Y w w := ⟨rfl, rfl, rfl, rfl, fun _ _ => rfl⟩
theorem Fr.trans {Y : Nat → Prop} {w w1 w2 : World} (h : Fr Y w w1) (g : Fr Y w1 w2) : Fr Y w w2 := ⟨g.os.trans h.os, g.tape.trans h.tape, g.output.trans h.output, g.size.trans h.size, fun k hk => (g.block k hk).trans (h.block k hk)⟩
theorem Fr.mono {Y Z : Nat → Prop} {w w' : World} (h : Fr Y w w') (hy : ∀ k, Y k → Z k) : Fr Z w w' := ⟨h.os, h.tape, h.output, h.size, fun k hk => h.block k (fun e => hk (hy k e))⟩
theorem Fr.set {Y : Nat → Prop} {w w1 : World} (h : Fr Y w w1) (b o : Nat) (v : Value) (hb : Y b) : Fr Y w (w1.setCell ⟨b, o, none⟩ v) :=
  h.trans ⟨rfl, rfl, rfl, by simp, fun k hk => Below.heap_setCell _ _ _ _ (fun e => hk (by rw [e]; exact hb))⟩
theorem Fr.below {Y : Nat → Prop} {w w' : World} {lo : Nat} (h : Fr Y w w') (hy : ∀ k, Y k → lo ≤ k) : Below lo w w' := ⟨h.os, h.tape, h.output, Nat.le_of_eq h.size.symm, fun k hk => h.block k (fun e => by have := hy k e; omega)⟩
theorem Fr.cell {Y : Nat → Prop} {w w' : World} (h : Fr Y w w') {a : Addr} (ha : ¬ Y a.block) : w'.cell? a = w.cell? a := World.cell?_of_block (h.block _ ha)

/-- some row lies there -/
def Has (w : World) (b t n : Nat) : Prop := ∃ f, w.rowIs b t n f
theorem Has.of_block {w w' : World} {b t n : Nat} (h : Has w b t n) (e : w'.heap[b]? = w.heap[b]?) : Has w' b t n := by
  obtain ⟨f, hf⟩ := h
  exact ⟨f, hf.of_block e⟩
theorem Has.set {w : World} {b t n : Nat} (h : Has w b t n) (k : Nat) (v : Value) : Has (w.setCell ⟨b, k, none⟩ v) b t n := by
  obtain ⟨f, hf⟩ := h
  exact ⟨_, hf.set k v⟩
theorem Has.cell {w : World} {b t n : Nat} (h : Has w b t n) {k : Nat} (hk : k < n) : ∃ v, w.cell? ⟨b, k, none⟩ = some v := by
  obtain ⟨f, hf⟩ := h
  exact ⟨_, hf.cell hk⟩
theorem Has.frozen {w : World} {b t n : Nat} (h : Has w b t n) (k : Nat) : w.frozen? ⟨b, k, none⟩ = false := by
  obtain ⟨f, hf⟩ := h
  exact hf.frozen k
theorem Has.lt {w : World} {b t n : Nat} (h : Has w b t n) : b < w.heap.size := by
  obtain ⟨f, hf⟩ := h
  exact hf.lt
theorem Has.ne {w : World} {b t n b' t' n' : Nat} (h : Has w b t n) (h' : Has w b' t' n') (e : t ≠ t') : b ≠ b' := by
  obtain ⟨f, c, h1, _⟩ := h
  obtain ⟨f', c', h2, _⟩ := h'
  intro g
  rw [g, h2] at h1
  simp only [Option.some.injEq, Obj.cells.injEq] at h1
  exact e h1.2.1.symm

set_option maxHeartbeats 1000000 in
theorem markI_any (g n cap : Nat) (k0 : Int) (w : World) (h : Has w g 3 n) (hk0 : 0 ≤ k0) (hk1 : k0 ≤ 100000000) (hn : n ≤ 4194304) :
    Calls Tryd.prog 43 #[.slice (some ⟨g, 0, none⟩) n cap, .int .i64 k0] w fun e w' => e = .returned (.int .i64 (k0 + n)) ∧ w'.rowIs g 3 n (fun j => .int .i64 (k0 + j)) ∧ Fr (fun k => k = g) w w' := by
  obtain ⟨f0, hf0⟩ := h
  go_enter Tryd.func43, Tryd.ntmps43
  go_wp2
  go_loopw [1, 5] (fun t i wr => ∃ k : Nat, k ≤ n ∧ i = .int .i64 k ∧ t = .int .i64 (k0 + k) ∧ Hid (wr.rowIs g 3 n (fun j => if j < k then .int .i64 (k0 + j) else f0 j)) ∧ Hid (Fr (fun k => k = g) w wr)) (fun _ i _ => n - (intOf i).toNat)
  case atStart => exact ⟨0, Nat.zero_le _, rfl, by simp, hf0.congr (fun j _ => by simp), Fr.refl _ _⟩
  case round =>
    obtain ⟨k, hk, rfl, rfl, HH, HF⟩ := hrel
    by_cases hlt : k < n
    · have hltz : (k : Int) < (n : Int) := by omega
      have e1 := HH.out.cell hlt
      have f1 := HH.out.frozen k
      have HN : Hid ((wr.setCell ⟨g, k, none⟩ (.int .i64 (k0 + (k : Int)))).rowIs g 3 n (fun j => if j < k + 1 then .int .i64 (k0 + j) else f0 j)) := (HH.out.set k (.int .i64 (k0 + (k : Int)))).congr (fun j _ => by
        by_cases e : j = k
        · subst e; simp
        · by_cases e2 : j < k
          · rw [if_neg e, if_pos e2, if_pos (by omega)]
          · rw [if_neg e, if_neg e2, if_neg (by omega)])
      go_wp2
      go_roundw
      case rel => exact ⟨k + 1, by omega, by go_num, by go_num, HN.out, HF.out.set g k _ rfl⟩
      case measure => simp [intOf]; omega
    · have hltz : ¬ (k : Int) < (n : Int) := by omega
      go_wp2
      go_ret
      obtain rfl : k = n := by omega
      exact ⟨rfl, HH.out.congr (fun j hj => by rw [if_pos hj]), HF.out⟩
set_option maxHeartbeats 1000000 in
theorem markP_any (g n cap : Nat) (k0 : Int) (w : World) (h : Has w g 87 (n * 2)) (hk0 : 0 ≤ k0) (hk1 : k0 ≤ 100000000) (hn : n ≤ 4194304) :
    Calls Tryd.prog 55 #[.slice (some ⟨g, 0, none⟩) n cap, .int .i64 k0] w fun e w' => e = .returned (.int .i64 (k0 + 2 * n)) ∧ Has w' g 87 (n * 2) ∧ Fr (fun k => k = g) w w' := by
  have HH0 : Hid (Has w g 87 (n * 2)) := h
  clear h
  go_enter Tryd.func55, Tryd.ntmps55
  go_wp2
  go_loopw [1, 5] (fun t i wr => ∃ k : Nat, k ≤ n ∧ i = .int .i64 k ∧ t = .int .i64 (k0 + 2 * k) ∧ Hid (Has wr g 87 (n * 2)) ∧ Hid (Fr (fun k => k = g) w wr)) (fun _ i _ => n - (intOf i).toNat)
  case atStart => exact ⟨0, Nat.zero_le _, rfl, by simp, HH0.out, Fr.refl _ _⟩
  case round =>
    obtain ⟨k, hk, rfl, rfl, HH, HF⟩ := hrel
    by_cases hlt : k < n
    · have hltz : (k : Int) < (n : Int) := by omega
      obtain ⟨v0, c0⟩ := HH.out.cell (k := k * 2) (by omega)
      have f0 := HH.out.frozen (k * 2)
      have h1 := HH.out.set (k * 2) (.int .i64 (k0 + 2 * (k : Int)))
      obtain ⟨v1, c1⟩ := h1.cell (k := k * 2 + 1) (by omega)
      have f1 := h1.frozen (k * 2 + 1)
      have HN : Hid (Has ((wr.setCell ⟨g, k * 2, none⟩ (.int .i64 (k0 + 2 * (k : Int)))).setCell ⟨g, k * 2 + 1, none⟩ (.int .i64 (k0 + 2 * (k : Int) + 1))) g 87 (n * 2)) := h1.set _ _
      clear h1
      go_wp2
      go_roundw
      case rel => exact ⟨k + 1, by omega, by go_num, by go_num, HN.out, (HF.out.set g _ _ rfl).set g _ _ rfl⟩
      case measure => simp [intOf]; omega
    · have hltz : ¬ (k : Int) < (n : Int) := by omega
      go_wp2
      go_ret
      obtain rfl : k = n := by omega
      exact ⟨rfl, HH.out, HF.out⟩

/-- lists of one's own -/
def Lists (w : World) (B t e z n : Nat) (m : Nat → Nat) (G : Nat → Nat) : Prop := w.rowIs B t n (fun i => .slice (some ⟨G i, 0, none⟩) (m i) (m i)) ∧ ∀ i, i < n → Has w (G i) e (m i * z)
set_option maxHeartbeats 1000000 in
theorem markPS_any (B n cap : Nat) (m G : Nat → Nat) (k0 : Int) (w : World) (h : Lists w B 72 87 2 n m G) (hap : ∀ i j, i < n → j < n → i ≠ j → G i ≠ G j) (hk0 : 0 ≤ k0) (hk1 : k0 ≤ 1000) (hn : n ≤ 4194304) (ht : tot m n ≤ 4194304) :
    Calls Tryd.prog 41 #[.slice (some ⟨B, 0, none⟩) n cap, .int .i64 k0] w fun e w' => e = .returned (.int .i64 (k0 + 2 * (tot m n : Int))) ∧ Fr (fun x => ∃ i, i < n ∧ x = G i) w w' := by
  have HT : Hid (∀ k, k ≤ n → tot m k ≤ 4194304) := fun k hk => Nat.le_trans (tot_le m hk) ht
  have HM : Hid (∀ k, k < n → m k ≤ 4194304) := fun k hk => Nat.le_trans (tot_at m hk) ht
  have HL : Hid (Lists w B 72 87 2 n m G) := h
  have HAP : Hid (∀ i j, i < n → j < n → i ≠ j → G i ≠ G j) := hap
  have hbl : Hid (∀ i, i < n → B ≠ G i) := fun i hi => Has.ne ⟨_, h.1⟩ (h.2 i hi) (by decide)
  clear h hap ht
  go_enter Tryd.func41, Tryd.ntmps41
  go_wp2
  go_loopw [1, 5] (fun t i wr => ∃ k : Nat, k ≤ n ∧ i = .int .i64 k ∧ t = .int .i64 (k0 + 2 * (tot m k : Int)) ∧ Hid (∀ i, k ≤ i → i < n → Has wr (G i) 87 (m i * 2)) ∧ Hid (Fr (fun x => ∃ i, i < n ∧ x = G i) w wr)) (fun _ i _ => n - (intOf i).toNat)
  case atStart => exact ⟨0, Nat.zero_le _, rfl, by simp [tot], fun i _ hi => HL.out.2 i hi, Fr.refl _ _⟩
  case round =>
    obtain ⟨k, hk, rfl, rfl, HH, HF⟩ := hrel
    have htk := HT.out k hk
    by_cases hlt : k < n
    · have hltz : (k : Int) < (n : Int) := by omega
      have c1 : wr.cell? ⟨B, k, none⟩ = some (.slice (some ⟨G k, 0, none⟩) (m k) (m k)) := (HF.out.cell (a := ⟨B, k, none⟩) (fun ⟨i, hi, e⟩ => hbl.out i hi e)).trans (HL.out.1.cell hlt)
      have hmk := HM.out k hlt
      have HC : Hid (Calls Tryd.prog 55 #[.slice (some ⟨G k, 0, none⟩) (m k) (m k), .int .i64 (k0 + 2 * (tot m k : Int))] wr fun e w' => e = .returned (.int .i64 (k0 + 2 * (tot m k : Int) + 2 * (m k : Int))) ∧ Has w' (G k) 87 (m k * 2) ∧ Fr (fun x => x = G k) wr w') := markP_any (G k) (m k) (m k) _ wr (HH.out k (Nat.le_refl _) hlt) (by omega) (by omega) hmk
      go_wp2_with fail
      refine HC.out.mono ?_
      rintro e w1 ⟨rfl, hh, hf⟩
      have HN : Hid (∀ i, k + 1 ≤ i → i < n → Has w1 (G i) 87 (m i * 2)) := fun i h1 h2 => (HH.out i (by omega) h2).of_block (hf.block (G i) (fun e => HAP.out i k h2 hlt (by omega) e))
      have HFN : Hid (Fr (fun x => ∃ i, i < n ∧ x = G i) w w1) := HF.out.trans (hf.mono (fun x hx => ⟨k, hlt, hx⟩))
      clear hh hf c1
      go_wp2
      go_roundw
      case rel => exact ⟨k + 1, by omega, by go_num, by simp only [tot]; congr 1; omega, HN.out, HFN.out⟩
      case measure => simp [intOf]; omega
    · have hltz : ¬ (k : Int) < (n : Int) := by omega
      go_wp2
      go_ret
      obtain rfl : k = n := by omega
      exact ⟨rfl, HF.out⟩
set_option maxHeartbeats 1000000 in
theorem markIS_any (B n cap : Nat) (m G : Nat → Nat) (k0 : Int) (w : World) (h : Lists w B 24 3 1 n m G) (hap : ∀ i j, i < n → j < n → i ≠ j → G i ≠ G j) (hk0 : 0 ≤ k0) (hk1 : k0 ≤ 10000000) (hn : n ≤ 4194304) (ht : tot m n ≤ 4194304) :
    Calls Tryd.prog 42 #[.slice (some ⟨B, 0, none⟩) n cap, .int .i64 k0] w fun e w' => e = .returned (.int .i64 (k0 + (tot m n : Int))) ∧ Fr (fun x => ∃ i, i < n ∧ x = G i) w w' := by
  have HT : Hid (∀ k, k ≤ n → tot m k ≤ 4194304) := fun k hk => Nat.le_trans (tot_le m hk) ht
  have HM : Hid (∀ k, k < n → m k ≤ 4194304) := fun k hk => Nat.le_trans (tot_at m hk) ht
  have HL : Hid (Lists w B 24 3 1 n m G) := h
  have HAP : Hid (∀ i j, i < n → j < n → i ≠ j → G i ≠ G j) := hap
  have hbl : Hid (∀ i, i < n → B ≠ G i) := fun i hi => Has.ne ⟨_, h.1⟩ (h.2 i hi) (by decide)
  clear h hap ht
  go_enter Tryd.func42, Tryd.ntmps42
  go_wp2
  go_loopw [1, 5] (fun t i wr => ∃ k : Nat, k ≤ n ∧ i = .int .i64 k ∧ t = .int .i64 (k0 + (tot m k : Int)) ∧ Hid (∀ i, k ≤ i → i < n → Has wr (G i) 3 (m i * 1)) ∧ Hid (Fr (fun x => ∃ i, i < n ∧ x = G i) w wr)) (fun _ i _ => n - (intOf i).toNat)
  case atStart => exact ⟨0, Nat.zero_le _, rfl, by simp [tot], fun i _ hi => HL.out.2 i hi, Fr.refl _ _⟩
  case round =>
    obtain ⟨k, hk, rfl, rfl, HH, HF⟩ := hrel
    have htk := HT.out k hk
    by_cases hlt : k < n
    · have hltz : (k : Int) < (n : Int) := by omega
      have c1 : wr.cell? ⟨B, k, none⟩ = some (.slice (some ⟨G k, 0, none⟩) (m k) (m k)) := (HF.out.cell (a := ⟨B, k, none⟩) (fun ⟨i, hi, e⟩ => hbl.out i hi e)).trans (HL.out.1.cell hlt)
      have hmk := HM.out k hlt
      have HC : Hid (Calls Tryd.prog 43 #[.slice (some ⟨G k, 0, none⟩) (m k) (m k), .int .i64 (k0 + (tot m k : Int))] wr fun e w' => e = .returned (.int .i64 (k0 + (tot m k : Int) + (m k : Int))) ∧ w'.rowIs (G k) 3 (m k) (fun j => .int .i64 (k0 + (tot m k : Int) + j)) ∧ Fr (fun x => x = G k) wr w') := markI_any (G k) (m k) (m k) _ wr (by have := HH.out k (Nat.le_refl _) hlt; rwa [Nat.mul_one] at this) (by omega) (by omega) hmk
      go_wp2_with fail
      refine HC.out.mono ?_
      rintro e w1 ⟨rfl, hh, hf⟩
      have HN : Hid (∀ i, k + 1 ≤ i → i < n → Has w1 (G i) 3 (m i * 1)) := fun i h1 h2 => (HH.out i (by omega) h2).of_block (hf.block (G i) (fun e => HAP.out i k h2 hlt (by omega) e))
      have HFN : Hid (Fr (fun x => ∃ i, i < n ∧ x = G i) w w1) := HF.out.trans (hf.mono (fun x hx => ⟨k, hlt, hx⟩))
      clear hh hf c1
      go_wp2
      go_roundw
      case rel => exact ⟨k + 1, by omega, by go_num, by simp only [tot]; congr 1; omega, HN.out, HFN.out⟩
      case measure => simp [intOf]; omega
    · have hltz : ¬ (k : Int) < (n : Int) := by omega
      go_wp2
      go_ret
      obtain rfl : k = n := by omega
      exact ⟨rfl, HF.out⟩

/-- a machine all of whose lists are new and apart, from lo on -/
structure OwnD (lo : Nat) (w : World) (D : Dx) : Prop where
  pa : D.pa = some ⟨D.pb, 0, none⟩
  p : Lists w D.pb 72 87 2 D.pn D.P.n D.P.b
  pl : lo ≤ D.pb ∧ ∀ i, i < D.pn → lo ≤ D.P.b i
  pp : ∀ i j, i < D.pn → j < D.pn → i ≠ j → D.P.b i ≠ D.P.b j
  ra : D.ra = some ⟨D.rb, 0, none⟩
  r : Lists w D.rb 24 3 1 D.rn D.R.n D.R.b
  rl : lo ≤ D.rb ∧ ∀ i, i < D.rn → lo ≤ D.R.b i
  rr : ∀ i j, i < D.rn → j < D.rn → i ≠ j → D.R.b i ≠ D.R.b j
  aa : D.aa = some ⟨D.ab, 0, none⟩
  a : Has w D.ab 3 D.an
  al : lo ≤ D.ab
  ar : ∀ i, i < D.rn → D.ab ≠ D.R.b i
theorem OwnD.below {lo : Nat} {w w' : World} {D : Dx} (h : OwnD lo w D) (hb : Below w.heap.size w w') : OwnD lo w' D := by
  have e : ∀ {b t n : Nat}, Has w b t n → Has w' b t n := fun h => h.of_block (hb.block _ h.lt)
  exact ⟨h.pa, ⟨row_below h.p.1 hb, fun i hi => e (h.p.2 i hi)⟩, h.pl, h.pp, h.ra, ⟨row_below h.r.1 hb, fun i hi => e (h.r.2 i hi)⟩, h.rl, h.rr, h.aa, e h.a, h.al, h.ar⟩
/-- what comes of copying a machine -/
def ToDO (D : Dx) (w : World) (e : Ending) (w' : World) : Prop := ∃ D', e = .returned (dv D') ∧ DIn w' D' ∧ DEq D D' ∧ OwnD w.heap.size w' D' ∧ Below w.heap.size w w'
theorem ToDO.mk' {D : Dx} {w w4 : World} {B1 B2 B3 : Nat} {G1 G2 : Nat → Nat} (b1 : w.heap.size ≤ B1) (b2 : w.heap.size ≤ B2) (b3 : w.heap.size ≤ B3) (ho : ∀ i, i < D.rn → G2 i < B3) (h1 : Copy w4 B1 D.pn D.P G1) (h2 : CopyI w4 B2 D.rn D.R G2) (h3 : w4.rowIs B3 3 D.an (fun j => .int .i64 (D.A j)))
    (hb : Below w.heap.size w w4) :
    ToDO D w (.returned (.agg #[.slice (some ⟨B1, 0, none⟩) D.pn D.pn, .slice (some ⟨B2, 0, none⟩) D.rn D.rn, .slice (some ⟨B3, 0, none⟩) D.an D.an])) w4 :=
  ⟨{ pa := some ⟨B1, 0, none⟩, pb := B1, poff := 0, pc := D.pn, pn := D.pn, P := cpN D.P G1, ra := some ⟨B2, 0, none⟩, rb := B2, roff := 0, rc := D.rn, rn := D.rn, R := cpI D.R G2, aa := some ⟨B3, 0, none⟩, ab := B3, aoff := 0, ac := D.an, an := D.an, A := D.A },
    rfl, ⟨fun _ => rfl, h1.ss, fun _ => rfl, h2.is, fun _ => rfl, Ip.of_row h3⟩, ⟨⟨rfl, fun _ _ => ⟨rfl, fun _ _ => ⟨rfl, rfl⟩⟩⟩, ⟨rfl, fun _ _ => ⟨rfl, fun _ _ => rfl⟩⟩, ⟨rfl, fun _ _ => rfl⟩⟩,
    ⟨rfl, ⟨h1.1, fun i hi => ⟨_, (h1.2 i hi).2.1⟩⟩, ⟨b1, fun i hi => by have := (h1.2 i hi).1; show _ ≤ G1 i; omega⟩,
      fun i j hi hj e => by rcases Nat.lt_or_gt_of_ne e with g | g; exact Nat.ne_of_lt ((h1.2 j hj).2.2 i g); exact Nat.ne_of_gt ((h1.2 i hi).2.2 j g),
      rfl, ⟨h2.1, fun i hi => ⟨_, by have := (h2.2 i hi).2.1; show w4.rowIs (G2 i) 3 (D.R.n i * 1) _; rw [Nat.mul_one]; exact this⟩⟩, ⟨b2, fun i hi => by have := (h2.2 i hi).1; show _ ≤ G2 i; omega⟩,
      fun i j hi hj e => by rcases Nat.lt_or_gt_of_ne e with g | g; exact Nat.ne_of_lt ((h2.2 j hj).2.2 i g); exact Nat.ne_of_gt ((h2.2 i hi).2.2 j g),
      rfl, ⟨_, h3⟩, b3, fun i hi => Nat.ne_of_gt (ho i hi)⟩, hb⟩

set_option maxHeartbeats 1000000 in
theorem toDfaO_any (D : Dx) (w : World) (h : DIn w D) (hm : DLe D 1048576) :
    Calls Tryd.prog 9 #[dv D] w (ToDO D w) := by
  have H1 : Hid (∀ w1, Below w.heap.size w w1 → Calls Tryd.prog 27 #[.slice D.pa D.pn D.pc] w1 (ToSSRes D.pn D.P w1)) := fun w1 hb => toSS_any _ _ _ _ _ _ _ h.pg (h.p.below hb) hm.p hm.pi
  have H2 : Hid (∀ w1, Below w.heap.size w w1 → Calls Tryd.prog 28 #[.slice D.ra D.rn D.rc] w1 (ToISRes D.rn D.R w1)) := fun w1 hb => toIS_any _ _ _ _ _ _ _ h.rg (h.r.below hb) hm.r hm.ri
  have H3 : Hid (∀ w1, Below w.heap.size w w1 → Calls Tryd.prog 29 #[.slice D.aa D.an D.ac] w1 fun e w' => e = .returned (.slice (some ⟨w1.heap.size, 0, none⟩) D.an D.an) ∧ w'.rowIs w1.heap.size 3 D.an (fun j => .int .i64 (D.A j)) ∧ Below w1.heap.size w1 w') := fun w1 hb => toI_any _ _ _ _ _ _ _ h.ag (h.a.below hb) hm.a
  rw [dv]
  clear h hm
  go_enter Tryd.func9, Tryd.ntmps9
  go_wp2_with fail
  refine (H1.out _ (by repeat (first | exact Below.refl _ _ | refine Below.alloc ?_ (by simp <;> omega) _ | refine Below.setCell ?_ (by simp <;> omega) _))).mono ?_
  rintro e w1 ⟨rfl, ⟨G1, hg1⟩, hb1⟩
  have HG1 : Hid (Copy w1 (w.heap.size + 1 + 1 + 1) D.pn D.P G1) := by simpa [Hid] using hg1
  obtain ⟨hc1, hf1⟩ := bcell hb1
  have hz1 : w.heap.size + 3 ≤ w1.heap.size := by have := hb1.size; simp at this; omega
  have p1 : w1.cell? ⟨w.heap.size, 1, none⟩ = some (.slice D.ra D.rn D.rc) := by rw [hc1 _ _ (by simp <;> omega)]; simp [go_sem]
  have p2 : w1.cell? ⟨w.heap.size, 2, none⟩ = some (.slice D.aa D.an D.ac) := by rw [hc1 _ _ (by simp <;> omega)]; simp [go_sem]
  have t0 : ∀ o, o < 3 → w1.cell? ⟨w.heap.size + 1 + 1, o, none⟩ = some (.slice none 0 0) := fun o ho => by
    rw [hc1 _ _ (by simp <;> omega)]
    match o, ho with
    | 0, _ => simp [go_sem]
    | 1, _ => simp [go_sem]
    | 2, _ => simp [go_sem]
  have r0 : ∀ o, o < 3 → w1.cell? ⟨w.heap.size + 1, o, none⟩ = some (.slice none 0 0) := fun o ho => by
    rw [hc1 _ _ (by simp <;> omega)]
    match o, ho with
    | 0, _ => simp [go_sem]
    | 1, _ => simp [go_sem]
    | 2, _ => simp [go_sem]
  have ft : ∀ o, w1.frozen? ⟨w.heap.size + 1 + 1, o, none⟩ = false := fun o => by rw [hf1 _ _ (by simp <;> omega)]; simp [go_sem]
  have fr : ∀ o, w1.frozen? ⟨w.heap.size + 1, o, none⟩ = false := fun o => by rw [hf1 _ _ (by simp <;> omega)]; simp [go_sem]
  have t00 := t0 0 (by omega)
  have t01 := t0 1 (by omega)
  have t02 := t0 2 (by omega)
  have r00 := r0 0 (by omega)
  have r01 := r0 1 (by omega)
  have r02 := r0 2 (by omega)
  have HB1 : Hid (Below w.heap.size w w1) := Below.trans (by repeat (first | exact Below.refl _ _ | refine Below.alloc ?_ (by simp <;> omega) _ | refine Below.setCell ?_ (by simp <;> omega) _)) (hb1.mono (by simp; omega))
  clear hc1 hf1 hg1 t0 r0 hb1
  go_wp2_with fail
  refine (H2.out _ (HB1.out.setCell (by simp; omega) _)).mono ?_
  rintro e w2 ⟨rfl, ⟨G2, hg2⟩, hb2⟩
  obtain ⟨hc2, hf2⟩ := bcell hb2
  have hz2 : w1.heap.size ≤ w2.heap.size := by have := hb2.size; simpa using this
  have s2 : w2.cell? ⟨w.heap.size, 2, none⟩ = some (.slice D.aa D.an D.ac) := by rw [hc2 _ _ (by simp <;> omega)]; simp [go_sem, p2]
  have u0 : w2.cell? ⟨w.heap.size + 1 + 1, 0, none⟩ = some (.slice (some ⟨w.heap.size + 1 + 1 + 1, 0, none⟩) D.pn D.pn) := by rw [hc2 _ _ (by simp <;> omega)]; simp [go_sem, t00, ft]
  have u1 : w2.cell? ⟨w.heap.size + 1 + 1, 1, none⟩ = some (.slice none 0 0) := by rw [hc2 _ _ (by simp <;> omega)]; simp [go_sem, t01]
  have u2 : w2.cell? ⟨w.heap.size + 1 + 1, 2, none⟩ = some (.slice none 0 0) := by rw [hc2 _ _ (by simp <;> omega)]; simp [go_sem, t02]
  have v0 : w2.cell? ⟨w.heap.size + 1, 0, none⟩ = some (.slice none 0 0) := by rw [hc2 _ _ (by simp <;> omega)]; simp [go_sem, r00]
  have v1 : w2.cell? ⟨w.heap.size + 1, 1, none⟩ = some (.slice none 0 0) := by rw [hc2 _ _ (by simp <;> omega)]; simp [go_sem, r01]
  have v2 : w2.cell? ⟨w.heap.size + 1, 2, none⟩ = some (.slice none 0 0) := by rw [hc2 _ _ (by simp <;> omega)]; simp [go_sem, r02]
  have gt : ∀ o, w2.frozen? ⟨w.heap.size + 1 + 1, o, none⟩ = false := fun o => by rw [hf2 _ _ (by simp <;> omega)]; simp [go_sem, ft]
  have gr : ∀ o, w2.frozen? ⟨w.heap.size + 1, o, none⟩ = false := fun o => by rw [hf2 _ _ (by simp <;> omega)]; simp [go_sem, fr]
  have HB2 : Hid (Below w.heap.size w w2) := Below.trans (HB1.out.setCell (by simp; omega) _) (hb2.mono (by simp; omega))
  have HG2 : Hid (Copy w2 (w.heap.size + 1 + 1 + 1) D.pn D.P G1) := HG1.out.keep fun x hx hx' => by
    rw [hb2.block x (by simpa using hx')]
    exact Below.heap_setCell _ _ _ _ (by simp; omega)
  have HI2 : Hid (CopyI w2 w1.heap.size D.rn D.R G2) := by simpa [Hid] using hg2
  have HORD : Hid (∀ i, i < D.rn → G2 i < w2.heap.size) := fun i hi => (HI2.out.2 i hi).2.1.lt
  clear hc2 hf2 hg2 hb2 t00 t01 t02 r00 r01 r02 ft fr p1 p2 HG1 HB1
  go_wp2_with fail
  refine (H3.out _ (HB2.out.setCell (by simp; omega) _)).mono ?_
  rintro e w3 ⟨rfl, hg3, hb3⟩
  obtain ⟨hc3, hf3⟩ := bcell hb3
  have hz3 : w2.heap.size ≤ w3.heap.size := by have := hb3.size; simpa using this
  have u30 : w3.cell? ⟨w.heap.size + 1 + 1, 0, none⟩ = some (.slice (some ⟨w.heap.size + 1 + 1 + 1, 0, none⟩) D.pn D.pn) := by rw [hc3 _ _ (by simp <;> omega)]; simp [go_sem, u0]
  have u31 : w3.cell? ⟨w.heap.size + 1 + 1, 1, none⟩ = some (.slice (some ⟨w1.heap.size, 0, none⟩) D.rn D.rn) := by rw [hc3 _ _ (by simp <;> omega)]; simp [go_sem, u1, gt]
  have u32 : w3.cell? ⟨w.heap.size + 1 + 1, 2, none⟩ = some (.slice none 0 0) := by rw [hc3 _ _ (by simp <;> omega)]; simp [go_sem, u2]
  have v30 : w3.cell? ⟨w.heap.size + 1, 0, none⟩ = some (.slice none 0 0) := by rw [hc3 _ _ (by simp <;> omega)]; simp [go_sem, v0]
  have v31 : w3.cell? ⟨w.heap.size + 1, 1, none⟩ = some (.slice none 0 0) := by rw [hc3 _ _ (by simp <;> omega)]; simp [go_sem, v1]
  have v32 : w3.cell? ⟨w.heap.size + 1, 2, none⟩ = some (.slice none 0 0) := by rw [hc3 _ _ (by simp <;> omega)]; simp [go_sem, v2]
  have gt3 : ∀ o, w3.frozen? ⟨w.heap.size + 1 + 1, o, none⟩ = false := fun o => by rw [hf3 _ _ (by simp <;> omega)]; simp [go_sem, gt]
  have gr3 : ∀ o, w3.frozen? ⟨w.heap.size + 1, o, none⟩ = false := fun o => by rw [hf3 _ _ (by simp <;> omega)]; simp [go_sem, gr]
  have HB3 : Hid (Below w.heap.size w w3) := Below.trans (HB2.out.setCell (by simp; omega) _) (hb3.mono (by simp; omega))
  have HG3 : Hid (Copy w3 (w.heap.size + 1 + 1 + 1) D.pn D.P G1) := HG2.out.keep fun x hx hx' => by
    rw [hb3.block x (by simpa using hx')]
    exact Below.heap_setCell _ _ _ _ (by simp; omega)
  have HI3 : Hid (CopyI w3 w1.heap.size D.rn D.R G2) := HI2.out.keep fun x hx hx' => by
    rw [hb3.block x (by simpa using hx')]
    exact Below.heap_setCell _ _ _ _ (by simp; omega)
  have HJ3 : Hid (w3.rowIs w2.heap.size 3 D.an (fun j => .int .i64 (D.A j))) := by simpa [Hid] using hg3
  clear hc3 hf3 hg3 hb3 u0 u1 u2 v0 v1 v2 gt gr s2 HG2 HI2 HB2
  go_wp2_with fail
  obtain ⟨W, hW⟩ : ∃ W, ((((w3.setCell ⟨w.heap.size + 1 + 1, 2, none⟩ (.slice (some ⟨w2.heap.size, 0, none⟩) D.an D.an)).setCell ⟨w.heap.size + 1, 0, none⟩ (.slice (some ⟨w.heap.size + 1 + 1 + 1, 0, none⟩) D.pn D.pn)).setCell ⟨w.heap.size + 1, 1, none⟩ (.slice (some ⟨w1.heap.size, 0, none⟩) D.rn D.rn)).setCell ⟨w.heap.size + 1, 2, none⟩ (.slice (some ⟨w2.heap.size, 0, none⟩) D.an D.an)) = W := ⟨_, rfl⟩
  have hks : ∀ x, w.heap.size + 1 + 1 < x → W.heap[x]? = w3.heap[x]? := fun x hx => by
    rw [← hW]
    rw [Below.heap_setCell _ _ _ _ (by simp; omega), Below.heap_setCell _ _ _ _ (by simp; omega), Below.heap_setCell _ _ _ _ (by simp; omega), Below.heap_setCell _ _ _ _ (by simp; omega)]
  refine bodyPost_ret (v := .agg #[.slice (some ⟨w.heap.size + 1 + 1 + 1, 0, none⟩) D.pn D.pn, .slice (some ⟨w1.heap.size, 0, none⟩) D.rn D.rn, .slice (some ⟨w2.heap.size, 0, none⟩) D.an D.an]) (by simp [results, Tryd.results9, go_sem, v30, v31, v32, gr3]) rfl ?_
  rw [hW]
  refine ToDO.mk' (by omega) (by omega) (by omega) HORD.out (HG3.out.keep fun x hx _ => hks x (by omega)) (HI3.out.keep fun x hx _ => hks x (by omega)) (HJ3.out.of_block (hks _ (by omega))) ?_
  rw [← hW]
  exact (((HB3.out.setCell (by simp; omega) _).setCell (by simp) _).setCell (by simp) _).setCell (by simp) _
end Go.Proofs.YtolddecfibdblaaDoor

