/- machines that were copied, in memory that may be written; the walks of the marks -/
import Derived.Test.YtjpmdbaalhieoaaDoorJf
import Derived.Test.YtjpmdbaalhieoaaDoorKh
namespace Go.Proofs.YtjpmdbaalhieoaaDoor
open Go.RowKit
set_option linter.unusedVariables false
set_option linter.unusedSimpArgs false

/-- nothing turned but blocks of which Y -/
structure Fr (Y : Nat → Prop) (w w' : World) : Prop where
  os : w'.os = w.os
  tape : w'.tape = w.tape
  output : w'.output = w.output
  size : w'.heap.size = w.heap.size
  block : ∀ k, ¬ Y k → w'.heap[k]? = w.heap[k]?
theorem Fr.refl (Y : Nat → Prop) (w : World) : Fr Y w w := ⟨rfl, rfl, rfl, rfl, fun _ _ => rfl⟩
theorem Fr.trans {Y : Nat → Prop} {w w1 w2 : World} (h : Fr Y w w1) (g : Fr Y w1 w2) : Fr Y w w2 := ⟨g.os.trans h.os, g.tape.trans h.tape, g.output.trans h.output, g.size.trans h.size, fun k hk => (g.block k hk).trans (h.block k hk)⟩
theorem Fr.mono {Y Z : Nat → Prop} {w w' : World} (h : Fr Y w w') (hy : ∀ k, Y k → Z k) : Fr Z w w' := ⟨h.os, h.tape, h.output, h.size, fun k hk => h.block k (fun e => hk (hy k e))⟩
theorem Fr.set {Y : Nat → Prop} {w w1 : World} (h : Fr Y w w1) (b o : Nat) (v : Value) (hb : Y b) : Fr Y w (w1.setCell ⟨b, o, none⟩ v) :=
  h.trans ⟨rfl, rfl, rfl, by simp, fun k hk => Below.heap_setCell _ _ _ _ (fun e => hk (by rw [e]; exact hb))⟩
theorem Fr.below {Y : Nat → Prop} {w w' : World} {lo : Nat} (h : Fr Y w w') (hy : ∀ k, Y k → lo ≤ k) : Below lo w w' := ⟨h.os, h.tape, h.output, Nat.le_of_eq h.size.symm, fun k hk => h.block k (fun e => by have := hy k e; omega)⟩
theorem Fr.cell {Y : Nat → Prop} {w w' : World} (h : Fr Y w w') {a : Addr} (ha : ¬ Y a.block) : w'.cell? a = w.cell? a := World.cell?_of_block (h.block _ ha)

/-- some row lies there -/
def Has (w : World) (b t n : Nat) : Prop := ∃ f, w.rowIs b t n f
theorem Has.of_block {w w' : World} {b t n : Nat} (h : Has w b t n) (e : w'.heap[b]? = w.heap[b]?) : Has w' b t n := by
  obtain ⟨f, hf⟩ := h
  exact ⟨f, hf.of_block e⟩
theorem Has.set {w : World} {b t n : Nat} (h : Has w b t n) (k : Nat) (v : Value) : Has (w.setCell ⟨b, k, none⟩ v) b t n := by
  obtain ⟨f, hf⟩ := h
  exact ⟨_, hf.set k v⟩
theorem Has.cell {w : World} {b t n : Nat} (h : Has w b t n) {k : Nat} (hk : k < n) : ∃ v, w.cell? ⟨b, k, none⟩ = some v := by
  obtain ⟨f, hf⟩ := h
  exact ⟨_, hf.cell hk⟩
theorem Has.frozen {w : World} {b t n : Nat} (h : Has w b t n) (k : Nat) : w.frozen? ⟨b, k, none⟩ = false := by
  obtain ⟨f, hf⟩ := h
  exact hf.frozen k
theorem Has.lt {w : World} {b t n : Nat} (h : Has w b t n) : b < w.heap.size := by
  obtain ⟨f, hf⟩ := h
  exact hf.lt
theorem Has.ne {w : World} {b t n b' t' n' : Nat} (h : Has w b t n) (h' : Has w b' t' n') (e : t ≠ t') : b ≠ b' := by
  obtain ⟨f, c, h1, _⟩ := h
  obtain ⟨f', c', h2, _⟩ := h'
  intro g
  rw [g, h2] at h1
  simp only [Option.some.injEq, Obj.cells.injEq] at h1
  exact e h1.2.1.symm

set_option maxHeartbeats 1000000 in
theorem markP_any (g n cap : Nat) (k0 : Int) (w : World) (h : Has w g 33 (n * 2)) (hk0 : 0 ≤ k0) (hk1 : k0 ≤ 100000000) (hn : n ≤ 4194304) :
    Calls Tryd.prog 26 #[.slice (some ⟨g, 0, none⟩) n cap, .int .i64 k0] w fun e w' => e = .returned (.int .i64 (k0 + 2 * n)) ∧ Has w' g 33 (n * 2) ∧ Fr (fun k => k = g) w w' := by
  have HH0 : Hid (Has w g 33 (n * 2)) := h
  clear h
  go_enter Tryd.func26, Tryd.ntmps26
  go_wp2
  go_loopw [1, 5] (fun t i wr => ∃ k : Nat, k ≤ n ∧ i = .int .i64 k ∧ t = .int .i64 (k0 + 2 * k) ∧ Hid (Has wr g 33 (n * 2)) ∧ Hid (Fr (fun k => k = g) w wr)) (fun _ i _ => n - (intOf i).toNat)
  case atStart => exact ⟨0, Nat.zero_le _, rfl, by simp, HH0.out, Fr.refl _ _⟩
  case round =>
    obtain ⟨k, hk, rfl, rfl, HH, HF⟩ := hrel
    by_cases hlt : k < n
    · have hltz : (k : Int) < (n : Int) := by omega
      obtain ⟨v0, c0⟩ := HH.out.cell (k := k * 2) (by omega)
      have f0 := HH.out.frozen (k * 2)
      have h1 := HH.out.set (k * 2) (.int .i64 (k0 + 2 * (k : Int)))
      obtain ⟨v1, c1⟩ := h1.cell (k := k * 2 + 1) (by omega)
      have f1 := h1.frozen (k * 2 + 1)
      have HN : Hid (Has ((wr.setCell ⟨g, k * 2, none⟩ (.int .i64 (k0 + 2 * (k : Int)))).setCell ⟨g, k * 2 + 1, none⟩ (.int .i64 (k0 + 2 * (k : Int) + 1))) g 33 (n * 2)) := h1.set _ _
      clear h1
      go_wp2
      go_roundw
      case rel => exact ⟨k + 1, by omega, by go_num, by go_num, HN.out, (HF.out.set g _ _ rfl).set g _ _ rfl⟩
      case measure => simp [intOf]; omega
    · have hltz : ¬ (k : Int) < (n : Int) := by omega
      go_wp2
      go_ret
      obtain rfl : k = n := by omega
      exact ⟨rfl, HH.out, HF.out⟩

/-- lists of one's own -/
def Lists (w : World) (B t e z n : Nat) (m : Nat → Nat) (G : Nat → Nat) : Prop := w.rowIs B t n (fun i => .slice (some ⟨G i, 0, none⟩) (m i) (m i)) ∧ ∀ i, i < n → Has w (G i) e (m i * z)
set_option maxHeartbeats 1000000 in
theorem markPS_any (B n cap : Nat) (m G : Nat → Nat) (k0 : Int) (w : World) (h : Lists w B 34 33 2 n m G) (hap : ∀ i j, i < n → j < n → i ≠ j → G i ≠ G j) (hk0 : 0 ≤ k0) (hk1 : k0 ≤ 1000) (hn : n ≤ 4194304) (ht : tot m n ≤ 4194304) :
    Calls Tryd.prog 9 #[.slice (some ⟨B, 0, none⟩) n cap, .int .i64 k0] w fun e w' => e = .returned (.int .i64 (k0 + 2 * (tot m n : Int))) ∧ Fr (fun x => ∃ i, i < n ∧ x = G i) w w' := by
  have HT : Hid (∀ k, k ≤ n → tot m k ≤ 4194304) := fun k hk => Nat.le_trans (tot_le m hk) ht
  have HM : Hid (∀ k, k < n → m k ≤ 4194304) := fun k hk => Nat.le_trans (tot_at m hk) ht
  have HL : Hid (Lists w B 34 33 2 n m G) := h
  have HAP : Hid (∀ i j, i < n → j < n → i ≠ j → G i ≠ G j) := hap
  have hbl : Hid (∀ i, i < n → B ≠ G i) := fun i hi => Has.ne ⟨_, h.1⟩ (h.2 i hi) (by decide)
  clear h hap ht
  go_enter Tryd.func9, Tryd.ntmps9
  go_wp2
  go_loopw [1, 5] (fun t i wr => ∃ k : Nat, k ≤ n ∧ i = .int .i64 k ∧ t = .int .i64 (k0 + 2 * (tot m k : Int)) ∧ Hid (∀ i, k ≤ i → i < n → Has wr (G i) 33 (m i * 2)) ∧ Hid (Fr (fun x => ∃ i, i < n ∧ x = G i) w wr)) (fun _ i _ => n - (intOf i).toNat)
  case atStart => exact ⟨0, Nat.zero_le _, rfl, by simp [tot], fun i _ hi => HL.out.2 i hi, Fr.refl _ _⟩
  case round =>
    obtain ⟨k, hk, rfl, rfl, HH, HF⟩ := hrel
    have htk := HT.out k hk
    by_cases hlt : k < n
    · have hltz : (k : Int) < (n : Int) := by omega
      have c1 : wr.cell? ⟨B, k, none⟩ = some (.slice (some ⟨G k, 0, none⟩) (m k) (m k)) := (HF.out.cell (a := ⟨B, k, none⟩) (fun ⟨i, hi, e⟩ => hbl.out i hi e)).trans (HL.out.1.cell hlt)
      have hmk := HM.out k hlt
      have HC : Hid (Calls Tryd.prog 26 #[.slice (some ⟨G k, 0, none⟩) (m k) (m k), .int .i64 (k0 + 2 * (tot m k : Int))] wr fun e w' => e = .returned (.int .i64 (k0 + 2 * (tot m k : Int) + 2 * (m k : Int))) ∧ Has w' (G k) 33 (m k * 2) ∧ Fr (fun x => x = G k) wr w') := markP_any (G k) (m k) (m k) _ wr (HH.out k (Nat.le_refl _) hlt) (by omega) (by omega) hmk
      go_wp2_with fail
      refine HC.out.mono ?_
      rintro e w1 ⟨rfl, hh, hf⟩
      have HN : Hid (∀ i, k + 1 ≤ i → i < n → Has w1 (G i) 33 (m i * 2)) := fun i h1 h2 => (HH.out i (by omega) h2).of_block (hf.block (G i) (fun e => HAP.out i k h2 hlt (by omega) e))
      have HFN : Hid (Fr (fun x => ∃ i, i < n ∧ x = G i) w w1) := HF.out.trans (hf.mono (fun x hx => ⟨k, hlt, hx⟩))
      clear hh hf c1
      go_wp2
      go_roundw
      case rel => exact ⟨k + 1, by omega, by go_num, by simp only [tot]; congr 1; omega, HN.out, HFN.out⟩
      case measure => simp [intOf]; omega
    · have hltz : ¬ (k : Int) < (n : Int) := by omega
      go_wp2
      go_ret
      obtain rfl : k = n := by omega
      exact ⟨rfl, HF.out⟩
end Go.Proofs.YtjpmdbaalhieoaaDoor

