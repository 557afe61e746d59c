/- the walks of RulesFirst, both sides -/
import Derived.Test.YtnnbdebmhjafgaaGreatDoorUi
import Derived.Test.YtnnbdebmhjafgaaGreatDoorMo
namespace Go.Proofs.YtnnbdebmhjafgaaGreatDoor
open Go.RowKit
set_option linter.unusedVariables false
set_option linter.unusedSimpArgs false

/-- the place of the first for which P holds, or -1 -/
def FirstIs (n : Nat) (P : Nat → Bool) (r : Int) : Prop := (∃ k : Nat, k < n ∧ P k = true ∧ (∀ j, j < k → P j = false) ∧ r = k) ∨ ((∀ j, j < n → P j = false) ∧ r = -1)
theorem FirstIs.unique {n : Nat} {P : Nat → Bool} {r r' : Int} (h : FirstIs n P r) (h' : FirstIs n P r') : r = r' := by
  rcases h with ⟨k, hk, hp, hb, rfl⟩ | ⟨ha, rfl⟩
  · rcases h' with ⟨k', hk', hp', hb', rfl⟩ | ⟨ha', rfl⟩
    · rcases Nat.lt_trichotomy k k' with h | h | h
      · rw [hb' k h] at hp; cases hp
      · rw [h]
      · rw [hb k' h] at hp'; cases hp'
    · rw [ha' k hk] at hp; cases hp
  · rcases h' with ⟨k', hk', hp', hb', rfl⟩ | ⟨ha', rfl⟩
    · rw [ha k' hk'] at hp'; cases hp'
    · rfl

/-- what RulesFirst tells -/
def RFirst (n : Nat) (N : Nat → ByteArray) (K : Nat → Sh) (s : ByteArray) (w : World) (e : Ending) (w' : World) : Prop :=
  ∃ r : Int, e = .returned (.int .i64 r) ∧ ((¬ RulesGood n N K ∧ r = -1) ∨ (RulesGood n N K ∧ FirstIs n (fun i => isB (K i) s) r)) ∧ Below w.heap.size w w'
theorem RFirst.no {n : Nat} {N : Nat → ByteArray} {K : Nat → Sh} {s : ByteArray} {w w' : World} (h : ¬ RulesGood n N K) (hb : Below w.heap.size w w') : RFirst n N K s w (.returned (.int .i64 (-1))) w' := ⟨_, rfl, .inl ⟨h, rfl⟩, hb⟩
theorem RFirst.none {n : Nat} {N : Nat → ByteArray} {K : Nat → Sh} {s : ByteArray} {w w' : World} (h : RulesGood n N K) (ha : ∀ j, j < n → isB (K j) s = false) (hb : Below w.heap.size w w') : RFirst n N K s w (.returned (.int .i64 (-1))) w' := ⟨_, rfl, .inr ⟨h, .inr ⟨ha, rfl⟩⟩, hb⟩
theorem RFirst.at {n : Nat} {N : Nat → ByteArray} {K : Nat → Sh} {s : ByteArray} {w w' : World} {k : Nat} (h : RulesGood n N K) (hk : k < n) (hp : isB (K k) s = true) (ha : ∀ j, j < k → isB (K j) s = false) (hb : Below w.heap.size w w') : RFirst n N K s w (.returned (.int .i64 k)) w' := ⟨_, rfl, .inr ⟨h, .inl ⟨k, hk, hp, ha, rfl⟩⟩, hb⟩
theorem RFirst.same {n : Nat} {N : Nat → ByteArray} {K : Nat → Sh} {s : ByteArray} {r r' : Int} (h : (¬ RulesGood n N K ∧ r = -1) ∨ (RulesGood n N K ∧ FirstIs n (fun i => isB (K i) s) r)) (h' : (¬ RulesGood n N K ∧ r' = -1) ∨ (RulesGood n N K ∧ FirstIs n (fun i => isB (K i) s) r')) : r = r' := by
  rcases h with ⟨h, rfl⟩ | ⟨h, hf⟩ <;> rcases h' with ⟨h', rfl⟩ | ⟨h', hf'⟩
  · rfl
  · exact absurd h' h
  · exact absurd h h'
  · exact hf.unique hf'

set_option maxHeartbeats 2000000 in
theorem specRulesFirst_any (a : Option Addr) (b off n cap : Nat) (N : Nat → ByteArray) (K : Nat → Sh) (M : Nat → Mx) (s : ByteArray) (w : World) (hga : 0 < n → a = some ⟨b, off, none⟩) (hR : RulesIn AnyB w b off n N K M) (hn : n ≤ 1048576)
    (hN : ∀ i, i < n → (N i).size ≤ 1048576) (hc : ∀ i, i < n → cnt (K i) ≤ 1048576) :
    Calls Tryz.prog 5 #[.slice a n cap, .string s] w (RFirst n N K s w) := by
  have HO : Hid (Calls Tryz.prog 10 #[.slice a n cap] w (RulesRes n N K w)) := specRulesOk_any a b off n cap N K M w hga hR hn hN hc
  by_cases hG : RulesGood n N K
  · by_cases hs : (s.size : Int) ≤ 12
    · have hd : decide ((s.size : Int) ≤ 12) = true := decide_eq_true hs
      have HW : Hid (∀ w1, Calls Tryz.prog 11 #[.string s] w1 fun e w' => e = .returned (.bool true) ∧ w' = w1) := fun w1 => by have := specWord_any s w1; rwa [hd] at this
      clear hd
      go_enter Tryz.func5, Tryz.ntmps5
      go_wp2_with fail
      refine HO.out.mono ?_
      rintro e w1 ⟨ok, rfl, hok, hb1⟩
      obtain rfl := hok.2 hG
      clear hok
      go_wp2_with fail
      refine (HW.out _).mono ?_
      rintro e w2 ⟨rfl, rfl⟩
      go_wp2_with fail
      go_loopw [5] (fun i wr => ∃ k : Nat, k ≤ n ∧ i = .int .i64 k ∧ Hid (∀ j, j < k → isB (K j) s = false) ∧ Below w.heap.size w wr) (fun i _ => n - (intOf i).toNat)
      case atStart => exact ⟨0, Nat.zero_le _, rfl, fun j hj => absurd hj (Nat.not_lt_zero _), hb1⟩
      case round =>
        obtain ⟨k, hk', rfl, HA, hB⟩ := hrel
        by_cases hlt : k < n
        · obtain rfl := hga (by omega)
          have hltz : (k : Int) < (n : Int) := by omega
          obtain ⟨hat, hin⟩ := hR k hlt
          obtain ⟨d0, d1, d2, d3⟩ := (hat.below hB).cells
          have hok := (hG.2.2 k hlt).2.1
          have HL : Hid (Calls Tryz.prog 12 #[vx (K k) (M k), .string s] wr fun e w' => e = .returned (.bool (isB (K k) s)) ∧ Below wr.heap.size wr w') := by
            have h := l3Is_any (K k) 8 (M k) wr (okR_form hok) (hin.below hB) (hc k hlt) s wr (by omega) (Below.refl _ _)
            have e : isB (K k) s = lkB (K k) (tx s) := by rw [isB, hok, decide_eq_true hs]; simp
            rwa [← e] at h
          clear hok hat hin
          cases hbk : isB (K k) s
          · rw [hbk] at HL
            go_wp2_with fail
            refine HL.out.mono ?_
            rintro e w3 ⟨rfl, hb3⟩
            go_wp2_with fail
            go_roundw
            case rel =>
              refine ⟨k + 1, by omega, by go_num, fun j hj => ?_, hB.trans (hb3.mono hB.size)⟩
              by_cases e : j = k
              · subst e; exact hbk
              · exact HA.out j (by omega)
            case measure => simp [intOf]; omega
          · rw [hbk] at HL
            go_wp2_with fail
            refine HL.out.mono ?_
            rintro e w3 ⟨rfl, hb3⟩
            go_wp2_with fail
            go_ret
            exact .at hG hlt hbk HA.out (hB.trans (hb3.mono hB.size))
        · go_wp2_with fail
          go_ret
          obtain rfl : k = n := by omega
          exact .none hG HA.out hB
    · have hd : decide ((s.size : Int) ≤ 12) = false := decide_eq_false hs
      have HW : Hid (∀ w1, Calls Tryz.prog 11 #[.string s] w1 fun e w' => e = .returned (.bool false) ∧ w' = w1) := fun w1 => by have := specWord_any s w1; rwa [hd] at this
      have HN : Hid (∀ j, j < n → isB (K j) s = false) := fun j hj => by rw [isB, hd]; simp
      clear hd
      go_enter Tryz.func5, Tryz.ntmps5
      go_wp2_with fail
      refine HO.out.mono ?_
      rintro e w1 ⟨ok, rfl, hok, hb1⟩
      obtain rfl := hok.2 hG
      clear hok
      go_wp2_with fail
      refine (HW.out _).mono ?_
      rintro e w2 ⟨rfl, rfl⟩
      go_wp2_with fail
      go_ret
      exact .none hG HN.out hb1
  · go_enter Tryz.func5, Tryz.ntmps5
    go_wp2_with fail
    refine HO.out.mono ?_
    rintro e w1 ⟨ok, rfl, hok, hb1⟩
    obtain rfl : ok = false := by
      cases ok
      · rfl
      · exact absurd (hok.1 rfl) hG
    clear hok
    go_wp2_with fail
    go_ret
    exact .no hG hb1

set_option maxHeartbeats 1000000 in
theorem firstLike_any (nm : ByteArray) (S : Sh) (M : Mx) (s : ByteArray) (tb : Nat) (w : World) (t : TypeId) (ea : Addr) (hE : Err w t ea) (hin : In AnyB w S M) (hcnt : cnt S ≤ 1048576) (hs : w.cell? ⟨tb, 0, none⟩ = some (.string s)) :
    Calls Tryz.prog 16 #[rv nm S M, .pointer (some ⟨tb, 0, none⟩)] w fun e w' => e = .returned (.bool (isB S s)) ∧ Below w.heap.size w w' := by
  obtain ⟨a, n, c, a', m, c', es, ek⟩ := hin.slices
  have hb0 : Below w.heap.size w (w.alloc (.cells #[.string nm, .int .i64 S.kind, .slice a n c, .slice a' m c'] 44)) := (Below.refl _ _).alloc (Nat.le_refl _) _
  have HM : Hid (Calls Tryz.prog 17 #[vx S M, .string s] (w.alloc (.cells #[.string nm, .int .i64 S.kind, .slice a n c, .slice a' m c'] 44)) fun e w' => e = .returned (.bool (isB S s)) ∧ Below (w.alloc (.cells #[.string nm, .int .i64 S.kind, .slice a n c, .slice a' m c'] 44)).heap.size (w.alloc (.cells #[.string nm, .int .i64 S.kind, .slice a n c, .slice a' m c'] 44)) w') := implMatchIs_any S M s _ t ea (hE.below hb0) (hin.below hb0) hcnt
  have hlt := World.block_lt_of_cell? _ _ hs
  have hs1 : (w.alloc (.cells #[.string nm, .int .i64 S.kind, .slice a n c, .slice a' m c'] 44)).cell? ⟨tb, 0, none⟩ = some (.string s) := (hb0.cell (p := ⟨tb, 0, none⟩) hlt).trans hs
  rw [vx, es, ek] at HM
  rw [rv, es, ek]
  clear es ek hin hE
  go_enter Tryz.func16, Tryz.ntmps16
  go_wp2_with fail
  refine HM.out.mono ?_
  rintro e w1 ⟨rfl, hb1⟩
  go_wp2_with fail
  go_ret
  exact ⟨rfl, hb0.trans (hb1.mono hb0.size)⟩

set_option maxHeartbeats 1000000 in
theorem indexFunc_any (a : Option Addr) (b off n cap : Nat) (N : Nat → ByteArray) (K : Nat → Sh) (M : Nat → Mx) (s : ByteArray) (tb : Nat) (w : World) (t : TypeId) (ea : Addr) (hE : Err w t ea) (hga : 0 < n → a = some ⟨b, off, none⟩) (hR : RulesIn AnyB w b off n N K M) (hn : n ≤ 1048576)
    (hc : ∀ i, i < n → cnt (K i) ≤ 1048576) (hs : w.cell? ⟨tb, 0, none⟩ = some (.string s)) :
    Calls Tryz.prog 15 #[.slice a n cap, .func (.func 16) #[] #[.pointer (some ⟨tb, 0, none⟩)]] w fun e w' => ∃ r : Int, e = .returned (.int .i64 r) ∧ FirstIs n (fun i => isB (K i) s) r ∧ Below w.heap.size w w' := by
  go_enter Tryz.func15, Tryz.ntmps15
  go_wp2_with fail
  go_loopw [8] (fun i wr => ∃ k : Nat, k ≤ n ∧ i = .int .i64 k ∧ Hid (∀ j, j < k → isB (K j) s = false) ∧ Below w.heap.size w wr) (fun i _ => n - (intOf i).toNat)
  case atStart => exact ⟨0, Nat.zero_le _, rfl, fun j hj => absurd hj (Nat.not_lt_zero _), Below.refl _ _⟩
  case round =>
    obtain ⟨k, hk', rfl, HA, hB⟩ := hrel
    by_cases hlt : k < n
    · obtain rfl := hga (by omega)
      have hltz : (k : Int) < (n : Int) := by omega
      obtain ⟨hat, hin⟩ := hR k hlt
      obtain ⟨d0, d1, d2, d3⟩ := (hat.below hB).cells
      have hlt2 := World.block_lt_of_cell? _ _ hs
      have HL : Hid (Calls Tryz.prog 16 #[rv (N k) (K k) (M k), .pointer (some ⟨tb, 0, none⟩)] wr fun e w' => e = .returned (.bool (isB (K k) s)) ∧ Below wr.heap.size wr w') :=
        firstLike_any (N k) (K k) (M k) s tb wr t ea (hE.below hB) (hin.below hB) (hc k hlt) ((hB.cell (p := ⟨tb, 0, none⟩) hlt2).trans hs)
      clear hat hin
      cases hbk : isB (K k) s
      · rw [hbk] at HL
        go_wp2_with fail
        refine HL.out.mono ?_
        rintro e w3 ⟨rfl, hb3⟩
        go_wp2_with fail
        go_roundw
        case rel =>
          refine ⟨k + 1, by omega, by go_num, fun j hj => ?_, hB.trans (hb3.mono hB.size)⟩
          by_cases e : j = k
          · subst e; exact hbk
          · exact HA.out j (by omega)
        case measure => simp [intOf]; omega
      · rw [hbk] at HL
        go_wp2_with fail
        refine HL.out.mono ?_
        rintro e w3 ⟨rfl, hb3⟩
        go_wp2_with fail
        go_ret
        exact ⟨_, rfl, .inl ⟨k, hlt, hbk, HA.out, rfl⟩, hB.trans (hb3.mono hB.size)⟩
    · go_wp2_with fail
      go_ret
      obtain rfl : k = n := by omega
      exact ⟨_, rfl, .inr ⟨HA.out, rfl⟩, hB⟩

set_option maxHeartbeats 1000000 in
theorem implRulesFirst_any (a : Option Addr) (b off n cap : Nat) (N : Nat → ByteArray) (K : Nat → Sh) (M : Nat → Mx) (s : ByteArray) (w : World) (t : TypeId) (ea : Addr) (hE : Err w t ea) (hG : ErrTy w) (hga : 0 < n → a = some ⟨b, off, none⟩) (hR : RulesIn AnyB w b off n N K M) (hn : n ≤ 1048576)
    (hN : ∀ i, i < n → (N i).size ≤ 1048576) (hc : ∀ i, i < n → cnt (K i) ≤ 1048576) :
    Calls Tryz.prog 7 #[.slice a n cap, .string s] w (RFirst n N K s w) := by
  have hmf : ∀ (fn : Fn) (first cap : Array Value) (w : World), (Instr.makeFunc fn first cap).run Tryz.prog w = .ok (.func fn first cap) w := fun _ _ _ _ => rfl
  have hb0 : Below w.heap.size w (w.alloc (.cells #[.string s] 9)) := (Below.refl _ _).alloc (Nat.le_refl _) _
  have hc0 : (w.alloc (.cells #[.string s] 9)).cell? ⟨w.heap.size, 0, none⟩ = some (.string s) := by simp [go_sem]
  have HO : Hid (Calls Tryz.prog 14 #[.slice a n cap] (w.alloc (.cells #[.string s] 9)) (RulesRes n N K (w.alloc (.cells #[.string s] 9)))) := implRulesOk_any a b off n cap N K M _ t ea (hE.below hb0) (hG.below hb0) hga (hR.below hb0) hn hN hc
  have HF : Hid (∀ w1, Below w.heap.size w w1 → w1.cell? ⟨w.heap.size, 0, none⟩ = some (.string s) → Calls Tryz.prog 15 #[.slice a n cap, .func (.func 16) #[] #[.pointer (some ⟨w.heap.size, 0, none⟩)]] w1 fun e w' => ∃ r : Int, e = .returned (.int .i64 r) ∧ FirstIs n (fun i => isB (K i) s) r ∧ Below w1.heap.size w1 w') := fun w1 hb hs1 =>
    indexFunc_any a b off n cap N K M s w.heap.size w1 t ea (hE.below hb) hga (hR.below hb) hn hc hs1
  by_cases hgood : RulesGood n N K
  · go_enter Tryz.func7, Tryz.ntmps7
    go_wp2_with fail
    refine HO.out.mono ?_
    rintro e w1 ⟨ok, rfl, hok, hb1⟩
    obtain rfl := hok.2 hgood
    clear hok
    have hB1 := hb0.trans (hb1.mono hb0.size)
    have hs1 : w1.cell? ⟨w.heap.size, 0, none⟩ = some (.string s) := (hb1.cell (p := ⟨w.heap.size, 0, none⟩) (by simp)).trans hc0
    go_wp2_with fail
    refine (HF.out _ hB1 hs1).mono ?_
    rintro e w2 ⟨r, rfl, hr, hb2⟩
    go_wp2_with fail
    go_ret
    exact ⟨r, rfl, .inr ⟨hgood, hr⟩, hB1.trans (hb2.mono hB1.size)⟩
  · go_enter Tryz.func7, Tryz.ntmps7
    go_wp2_with fail
    refine HO.out.mono ?_
    rintro e w1 ⟨ok, rfl, hok, hb1⟩
    obtain rfl : ok = false := by
      cases ok
      · rfl
      · exact absurd (hok.1 rfl) hgood
    clear hok
    go_wp2_with fail
    go_ret
    exact .no hgood (hb0.trans (hb1.mono hb0.size))
end Go.Proofs.YtnnbdebmhjafgaaGreatDoor

