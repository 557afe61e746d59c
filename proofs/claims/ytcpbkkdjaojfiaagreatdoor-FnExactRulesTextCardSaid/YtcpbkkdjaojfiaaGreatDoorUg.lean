/- the walk of checkRules -/
import Derived.Test.YtcpbkkdjaojfiaaGreatDoorUf
import Derived.Test.YtcpbkkdjaojfiaaGreatDoorTm
namespace Go.Proofs.YtcpbkkdjaojfiaaGreatDoor
open Go.RowKit
set_option linter.unusedVariables false
set_option linter.unusedSimpArgs false

/-- the names of the first k rules -/
def namesF (N : Nat → ByteArray) : Nat → ByteArray → Bool
  | 0, _ => false
  | k + 1, t => decide (t = N k) || namesF N k t
theorem namesF_iff (N : Nat → ByteArray) (t : ByteArray) : ∀ k, namesF N k t = true ↔ ∃ j, j < k ∧ N j = t
  | 0 => by simp [namesF]
  | k + 1 => by
    simp only [namesF, Bool.or_eq_true, decide_eq_true_eq, namesF_iff N t k]
    constructor
    · rintro (rfl | ⟨j, hj, e⟩)
      · exact ⟨k, by omega, rfl⟩
      · exact ⟨j, by omega, e⟩
    · rintro ⟨j, hj, e⟩
      by_cases h : j = k
      · subst h; exact .inl e.symm
      · exact .inr ⟨j, by omega, e⟩

/-- what tells of rules: no error where they are right, else what says that they are none -/
def ErrRes (n : Nat) (N : Nat → ByteArray) (K : Nat → Sh) (w : World) (e : Ending) (w' : World) : Prop :=
  ((RulesGood n N K ∧ e = .returned .nilIface) ∨ (¬ RulesGood n N K ∧ ∃ (p : Int) (t : ByteArray), e = .returned (.iface 73 (.agg #[.int .i64 p, .string t])))) ∧ Below w.heap.size w w'
theorem ErrRes.no {n : Nat} {N : Nat → ByteArray} {K : Nat → Sh} {w w' : World} {p : Int} {t : ByteArray} (h : ¬ RulesGood n N K) (hb : Below w.heap.size w w') : ErrRes n N K w (.returned (.iface 73 (.agg #[.int .i64 p, .string t]))) w' := ⟨.inr ⟨h, _, _, rfl⟩, hb⟩
theorem ErrRes.yes {n : Nat} {N : Nat → ByteArray} {K : Nat → Sh} {w w' : World} (h : RulesGood n N K) (hb : Below w.heap.size w w') : ErrRes n N K w (.returned .nilIface) w' := ⟨.inl ⟨h, rfl⟩, hb⟩

set_option maxRecDepth 100000 in
set_option maxHeartbeats 2000000 in
theorem checkRules_any (a : Option Addr) (b off n cap : Nat) (N : Nat → ByteArray) (K : Nat → Sh) (M : Nat → Mx) (w : World) (t : TypeId) (ea : Addr) (hE : Err w t ea) (hga : 0 < n → a = some ⟨b, off, none⟩) (hR : RulesIn AnyB w b off n N K M) (hn : n ≤ 1048576)
    (hN : ∀ i, i < n → (N i).size ≤ 1048576) (hc : ∀ i, i < n → cnt (K i) ≤ 1048576) :
    Calls Tryz.prog 24 #[.slice a n cap] w (ErrRes n N K w) := by
  by_cases h1 : n = 0
  · subst h1
    go_enter Tryz.func24, Tryz.ntmps24
    go_wp2_with fail
    go_ret
    exact .no (fun h => absurd h.1 (by omega)) (Below.refl _ _)
  · have h1z : ¬ (n : Int) = 0 := by omega
    by_cases h5 : n ≤ 5
    · have h5z : ¬ (5 : Int) < (n : Int) := by omega
      have hmm := @run_makeMap Tryz.prog
      go_enter Tryz.func24, Tryz.ntmps24
      go_wp2_with fail
      clear hmm
      go_loopw [20] (fun i wr => ∃ k : Nat, k ≤ n ∧ i = .int .i64 k ∧ Hid (∀ j, j < k → RuleGood N K j) ∧ Hid (Nm wr w.heap.size k (namesF N k)) ∧ Below w.heap.size w wr) (fun i _ => n - (intOf i).toNat)
      case atStart => exact ⟨0, Nat.zero_le _, rfl, fun j hj => absurd hj (Nat.not_lt_zero _), Nm.made w, (Below.refl _ _).alloc (Nat.le_refl _) _⟩
      case round =>
        obtain ⟨k, hk', rfl, HG, HM, hB⟩ := hrel
        by_cases hlt : k < n
        · obtain rfl := hga (by omega)
          have hltz : (k : Int) < (n : Int) := by omega
          obtain ⟨hat, hin⟩ := hR k hlt
          obtain ⟨d0, d1, d2, d3⟩ := (hat.below hB).cells
          obtain ⟨sa, sn, sc, ka, km, kc, es, ek⟩ := hin.slices
          rw [es] at d2
          rw [ek] at d3
          have hlm := HM.out.lt
          have hb0 : Below wr.heap.size wr (wr.alloc (.cells #[.string (N k), .int .i64 (K k).kind, .slice sa sn sc, .slice ka km kc] 42)) := (Below.refl _ _).alloc (Nat.le_refl _) _
          have HA : Hid (∀ w1, Below wr.heap.size wr w1 → Calls Tryz.prog 38 #[.map (some w.heap.size), .string (N k), .int .i64 k] w1 (AddNm (N k) w.heap.size k (namesF N k) w1)) := fun w1 hb => addName_any (N k) w.heap.size k (namesF N k) k w1 (hN k hlt) (by omega) (by omega) (HM.out.kept hb)
          have HO : Hid (∀ w1, Below w.heap.size w w1 → Calls Tryz.prog 26 #[.agg #[.int .i64 (K k).kind, .slice sa sn sc, .slice ka km kc]] w1 fun e w' => e = .returned (.bool (okR (K k))) ∧ Below w1.heap.size w1 w') := fun w1 hb => by
            have := implRexOk_any (K k) (M k) w1 t ea (hE.below hb) (hin.below hb) (hc k hlt)
            rwa [vx, es, ek] at this
          clear es ek
          go_wp2_with fail
          refine (HA.out _ hb0).mono ?_
          rintro e w1 (⟨hw, hF, rfl, hm1, hg1⟩ | ⟨hno, ⟨p, s, rfl⟩, rfl⟩)
          · have hkeep : w1.heap[wr.heap.size]? = (wr.alloc (.cells #[.string (N k), .int .i64 (K k).kind, .slice sa sn sc, .slice ka km kc] 42)).heap[wr.heap.size]? := hg1.block _ (by simp) (by simp; omega)
            have x1 : w1.cell? ⟨wr.heap.size, 1, none⟩ = some (.int .i64 (K k).kind) := (World.cell?_of_block hkeep).trans (by simp [go_sem])
            have x2 : w1.cell? ⟨wr.heap.size, 2, none⟩ = some (.slice sa sn sc) := (World.cell?_of_block hkeep).trans (by simp [go_sem])
            have x3 : w1.cell? ⟨wr.heap.size, 3, none⟩ = some (.slice ka km kc) := (World.cell?_of_block hkeep).trans (by simp [go_sem])
            have hB1 : Below w.heap.size w w1 := (hB.trans (hb0.mono hB.size)).grown hg1 ((hB.trans (hb0.mono hB.size)).size) (fun j hj => by cases hj; exact Nat.le_refl _)
            have HM1 : Hid (Nm w1 w.heap.size (k + 1) (namesF N (k + 1))) := hm1
            clear hm1 hg1 hkeep
            by_cases hok : okR (K k) = true
            · rw [hok] at HO
              have HG1 : Hid (∀ j, j < k + 1 → RuleGood N K j) := fun j hj => by
                by_cases e : j = k
                · subst e
                  exact ⟨hw, hok, fun q hq e => by
                    have := (namesF_iff N (N j) j).2 ⟨q, hq, e⟩
                    rw [hF] at this; cases this⟩
                · exact HG.out j (by omega)
              go_wp2_with fail
              refine (HO.out _ hB1).mono ?_
              rintro e w2 ⟨rfl, hb2⟩
              go_wp2_with fail
              go_roundw
              case rel => exact ⟨k + 1, by omega, by go_num, HG1, HM1.out.kept hb2, hB1.trans (hb2.mono hB1.size)⟩
              case measure => simp [intOf]; omega
            · have hok' : okR (K k) = false := by simpa using hok
              rw [hok'] at HO
              go_wp2_with fail
              refine (HO.out _ hB1).mono ?_
              rintro e w2 ⟨rfl, hb2⟩
              go_wp2_with fail
              go_ret
              exact .no (fun h => hok (h.2.2 k hlt).2.1) (hB1.trans (hb2.mono hB1.size))
          · have HNG : Hid (¬ RulesGood n N K) := fun h => by
              obtain ⟨g1, g2, g3⟩ := h.2.2 k hlt
              refine hno ⟨g1, ?_⟩
              rw [← Bool.not_eq_true]
              intro e
              obtain ⟨j, hj, e⟩ := (namesF_iff N (N k) k).1 e
              exact g3 j hj e
            go_wp2_with fail
            go_ret
            exact .no HNG.out (hB.trans (hb0.mono hB.size))
        · go_wp2_with fail
          go_ret
          obtain rfl : k = n := by omega
          exact .yes ⟨by omega, h5, HG.out⟩ hB
    · have h5z : (5 : Int) < (n : Int) := by omega
      go_enter Tryz.func24, Tryz.ntmps24
      go_wp2_with fail
      go_ret
      exact .no (fun h => h5 h.2.1) (Below.refl _ _)
end Go.Proofs.YtcpbkkdjaojfiaaGreatDoor

