/- the best of the rules at a place, purely; the model's l9Best -/
import Derived.Test.YtplpdikkkbiacaaGreatDoorTc
import Derived.Test.YtplpdikkkbiacaaGreatDoorXg
import Derived.Test.YtplpdikkkbiacaaGreatDoorXb
import Derived.Test.YtplpdikkkbiacaaGreatDoorMs
namespace Go.Proofs.YtplpdikkkbiacaaGreatDoor
open Go.RowKit
set_option linter.unusedVariables false
set_option linter.unusedSimpArgs false

/-- a rule as a value -/
def rv (s : ByteArray) (S : Sh) (M : Mx) : Value := .agg #[.string s, .int .i64 S.kind, M.sv, M.kv]

/-- the rule's name and its Rex lie there -/
def RuleAt (w : World) (b o : Nat) (s : ByteArray) (S : Sh) (M : Mx) : Prop := w.cell? ⟨b, o, none⟩ = some (.string s) ∧ Kid w b (o + 1) S M

/-- the rules lie there -/
def RulesIn (B : Nat → Prop) (w : World) (b off n : Nat) (N : Nat → ByteArray) (K : Nat → Sh) (M : Nat → Mx) : Prop :=
  ∀ i, i < n → RuleAt w b (off + i * 4) (N i) (K i) (M i) ∧ In B w (K i) (M i)

theorem RuleAt.keep {w w' : World} {b o : Nat} {s : ByteArray} {S : Sh} {M : Mx} (h : RuleAt w b o s S M) (e : b < w.heap.size → w'.heap[b]? = w.heap[b]?) : RuleAt w' b o s S M :=
  ⟨(World.cell?_of_block (w := w) (a := ⟨b, _, none⟩) (e (World.block_lt_of_cell? _ _ h.1))).trans h.1, h.2.keep e⟩
theorem RuleAt.below {w w' : World} {b o : Nat} {s : ByteArray} {S : Sh} {M : Mx} (h : RuleAt w b o s S M) (hb : Below w.heap.size w w') : RuleAt w' b o s S M := h.keep (fun e => hb.block _ e)
theorem RulesIn.below {B : Nat → Prop} {w w' : World} {b off n : Nat} {N : Nat → ByteArray} {K : Nat → Sh} {M : Nat → Mx} (h : RulesIn B w b off n N K M) (hb : Below w.heap.size w w') : RulesIn B w' b off n N K M :=
  fun i hi => ⟨(h i hi).1.below hb, (h i hi).2.below hb⟩
theorem RulesIn.any {B : Nat → Prop} {w : World} {b off n : Nat} {N : Nat → ByteArray} {K : Nat → Sh} {M : Nat → Mx} (h : RulesIn B w b off n N K M) : RulesIn AnyB w b off n N K M :=
  fun i hi => ⟨(h i hi).1, (h i hi).2.mono (fun _ _ => trivial)⟩

/-- the four cells of a rule, as they are met -/
theorem RuleAt.cells {w : World} {b o : Nat} {s : ByteArray} {S : Sh} {M : Mx} (h : RuleAt w b o s S M) :
    w.cell? ⟨b, o, none⟩ = some (.string s) ∧ w.cell? ⟨b, o + 1, none⟩ = some (.int .i64 S.kind) ∧ w.cell? ⟨b, o + 2, none⟩ = some M.sv ∧ w.cell? ⟨b, o + 3, none⟩ = some M.kv :=
  ⟨h.1, h.2.1, h.2.2.1, h.2.2.2⟩

/-- how much a rule holds -/
def cntU (s : ByteArray) (S : Sh) : Nat := s.size + cnt S

end Go.Proofs.YtplpdikkkbiacaaGreatDoor
namespace Go.Proofs.YtplpdikkkbiacaaGreatDoor
open Go.RowKit
set_option linter.unusedVariables false
set_option linter.unusedSimpArgs false

/-- the best of the first k rules at a: which, and where it ends -/
def bestP (K : Nat → Sh) (t : ByteArray) (a : Nat) : Nat → Int × Int
  | 0 => (-1, a)
  | k + 1 => if (bestP K t a k).2 < a + longR (K k) t a then (k, a + longR (K k) t a) else bestP K t a k
theorem longR_bd (S : Sh) (t : ByteArray) {a : Nat} (ha : a ≤ t.size) : -1 ≤ longR S t a ∧ longR S t a + a ≤ t.size := by
  unfold longR
  split
  · have := topI_lo (pieceB S (tx t) (a : Int).toNat) (t.size - (a : Int).toNat + 1)
    rw [Int.toNat_natCast] at this ⊢
    omega
  · omega
theorem bestP_bd (K : Nat → Sh) (t : ByteArray) {a : Nat} (ha : a ≤ t.size) : ∀ k, (-1 ≤ (bestP K t a k).1 ∧ (bestP K t a k).1 < k) ∧ ((a : Int) ≤ (bestP K t a k).2 ∧ (bestP K t a k).2 ≤ t.size) ∧ ((bestP K t a k).1 = -1 → (bestP K t a k).2 = a) ∧ (0 ≤ (bestP K t a k).1 → (a : Int) < (bestP K t a k).2)
  | 0 => ⟨⟨Int.le_refl (-1), by show (-1 : Int) < 0; omega⟩, ⟨Int.le_refl _, by show (a : Int) ≤ _; omega⟩, fun _ => rfl, fun h => absurd (show (0 : Int) ≤ -1 from h) (by omega)⟩
  | k + 1 => by
    have h := bestP_bd K t ha k
    have l := longR_bd (K k) t ha
    by_cases c : (bestP K t a k).2 < a + longR (K k) t a
    · simp only [bestP, if_pos c]; omega
    · simp only [bestP, if_neg c]; omega
/-- what is best at a place -/
def BestV (n : Nat) (K : Nat → Sh) (t : ByteArray) (a : Nat) (r x : Int) : Prop := r = (bestP K t a n).1 ∧ x = (bestP K t a n).2
theorem BestV.unique {n : Nat} {K : Nat → Sh} {t : ByteArray} {a : Nat} {r x r' x' : Int} (h : BestV n K t a r x) (h' : BestV n K t a r' x') : r = r' ∧ x = x' := ⟨h.1.trans h'.1.symm, h.2.trans h'.2.symm⟩
theorem bestV_finds {n : Nat} (hn : n ≤ 5) (K : Nat → Sh) (t : ByteArray) : Finds (BestV n K t) t.size := fun a ha r x hv => by
  have h := bestP_bd K t ha n
  rw [← hv.1, ← hv.2] at h
  omega
theorem best_hit {K : Nat → Sh} {t : ByteArray} {a k : Nat} {r x z : Int} (h : BestV k K t a r x) (hz : z = longR (K k) t a) (hx : x < a + z) : BestV (k + 1) K t a k (a + z) := by
  subst hz
  obtain ⟨h1, h2⟩ := h
  rw [h2] at hx
  exact ⟨by rw [bestP, if_pos hx], by rw [bestP, if_pos hx]⟩
theorem best_pass {K : Nat → Sh} {t : ByteArray} {a k : Nat} {r x z : Int} (h : BestV k K t a r x) (hz : z = longR (K k) t a) (hx : ¬ x < a + z) : BestV (k + 1) K t a r x := by
  subst hz
  obtain ⟨h1, h2⟩ := h
  rw [h2] at hx
  exact ⟨by rw [bestP, if_neg hx]; exact h1, by rw [bestP, if_neg hx]; exact h2⟩

set_option maxRecDepth 100000 in
set_option maxHeartbeats 2000000 in
theorem specBest_any (a : Option Addr) (b off n cap : Nat) (N : Nat → ByteArray) (K : Nat → Sh) (M : Nat → Mx) (t : ByteArray) (c : Nat) (w : World) (hga : 0 < n → a = some ⟨b, off, none⟩) (hR : RulesIn AnyB w b off n N K M) (hn : n ≤ 5)
    (hc : ∀ i, i < n → cnt (K i) ≤ 1048576) (ht : t.size ≤ 12) (hct : c ≤ t.size) :
    Calls Tryz.prog 16 #[.slice a n cap, .string t, .int .i64 c] w (IsTwo (BestV n K t c) w) := by
  have HL : Hid (∀ (k : Nat) (V : World), k < n → Below w.heap.size w V → Calls Tryz.prog 31 #[vx (K k) (M k), .string t, .int .i64 c] V fun e w' => e = .returned (.int .i64 (longR (K k) t c)) ∧ Below V.heap.size V w') := fun k V hk hV => specMatchLong_any (K k) (M k) t c V ((hR k hk).2.below hV) (hc k hk)
  have HC : Hid (∀ (k : Nat) (V : World), k < n → Below w.heap.size w V → V.cell? ⟨b, off + k * 4 + 1, none⟩ = some (.int .i64 (K k).kind) ∧ V.cell? ⟨b, off + k * 4 + 2, none⟩ = some (M k).sv ∧ V.cell? ⟨b, off + k * 4 + 3, none⟩ = some (M k).kv) := fun k V hk hV => ((hR k hk).1.below hV).cells.2
  clear hR hc
  go_enter Tryz.func16, Tryz.ntmps16
  go_wp2_with fail
  go_loopw [8, 9, 10] (fun r e i wr => ∃ (k : Nat) (y x : Int), k ≤ n ∧ i = .int .i64 k ∧ r = .int .i64 y ∧ e = .int .i64 x ∧ (c : Int) ≤ x ∧ x ≤ t.size ∧ Hid (BestV k K t c y x) ∧ Below w.heap.size w wr) (fun _ _ i _ => n - (intOf i).toNat)
  case atStart => exact ⟨0, -1, c, Nat.zero_le _, rfl, rfl, rfl, Int.le_refl _, by omega, ⟨rfl, rfl⟩, Below.refl _ _⟩
  case round =>
    obtain ⟨k, y, x, hk, rfl, rfl, rfl, x0, x1, HV, hB⟩ := hrel
    by_cases hlt : k < n
    · obtain rfl := hga (by omega)
      have hltz : (k : Int) < (n : Int) := by omega
      obtain ⟨d1, d2, d3⟩ := HC.out k wr hlt hB
      have HL' := HL.out k wr hlt hB
      have lb := longR_bd (K k) t hct
      obtain ⟨z, hz⟩ : ∃ z, z = longR (K k) t c := ⟨_, rfl⟩
      have HZ : Hid (z = longR (K k) t c) := hz
      rw [← hz] at lb HL'
      clear hz
      rw [vx] at HL'
      go_wp2_with fail
      refine HL'.mono ?_
      rintro e w1 ⟨rfl, hb1⟩
      have hB1 := hB.trans (hb1.mono hB.size)
      clear HL' d1 d2 d3
      by_cases hx : x < (c : Int) + z
      · have hz0 : (0 : Int) < z := by omega
        have HN : Hid (BestV (k + 1) K t c k ((c : Int) + z)) := best_hit HV.out HZ.out hx
        go_wp2_with fail
        go_roundw
        case rel => exact ⟨k + 1, k, (c : Int) + z, by omega, by go_num, rfl, rfl, by omega, by omega, HN.out, hB1⟩
        case measure => simp [intOf]; omega
      · have HN : Hid (BestV (k + 1) K t c y x) := best_pass HV.out HZ.out hx
        by_cases hz0 : (0 : Int) < z
        · go_wp2_with fail
          go_roundw
          case rel => exact ⟨k + 1, y, x, by omega, by go_num, rfl, rfl, by omega, by omega, HN.out, hB1⟩
          case measure => simp [intOf]; omega
        · go_wp2_with fail
          go_roundw
          case rel => exact ⟨k + 1, y, x, by omega, by go_num, rfl, rfl, by omega, by omega, HN.out, hB1⟩
          case measure => simp [intOf]; omega
    · have hltz : ¬ (k : Int) < (n : Int) := by omega
      obtain rfl : k = n := by omega
      go_wp2_with fail
      refine bodyPost_ret (v := .tuple #[.int .i64 y, .int .i64 x]) (by simp [results, Tryz.results16, go_sem]) rfl ?_
      exact .mk' HV.out hB
end Go.Proofs.YtplpdikkkbiacaaGreatDoor

