/- the walks of RulesSame, both sides -/
import Derived.Test.YtkjfhlfakoopnaaUd
import Derived.Test.YtkjfhlfakoopnaaRf
namespace Go.Proofs.Ytkjfhlfakoopnaa
open Go.RowKit
set_option linter.unusedVariables false
set_option linter.unusedSimpArgs false

theorem bytesNe {s t : ByteArray} (h : s ≠ t) : (s.toList == t.toList) = false := by
  rw [← Bool.not_eq_true]
  intro e
  apply h
  have e := eq_of_beq e
  rw [Go.ByteArray.toList_eq, Go.ByteArray.toList_eq] at e
  obtain ⟨s⟩ := s
  obtain ⟨t⟩ := t
  simp only at e
  rw [Array.toList_inj.1 e]

/-- the two lists are the same in all parts -/
def SameU (n : Nat) (N : Nat → ByteArray) (K : Nat → Sh) (m : Nat) (N' : Nat → ByteArray) (K' : Nat → Sh) : Prop := n = m ∧ ∀ i, i < n → N i = N' i ∧ sameR (K i) (K' i) = true

/-- what RulesSame tells -/
def SameRes (n : Nat) (N : Nat → ByteArray) (K : Nat → Sh) (m : Nat) (N' : Nat → ByteArray) (K' : Nat → Sh) (w : World) (e : Ending) (w' : World) : Prop := ∃ b : Bool, e = .returned (.bool b) ∧ (b = true ↔ SameU n N K m N' K') ∧ Below w.heap.size w w'
theorem SameRes.no {n : Nat} {N : Nat → ByteArray} {K : Nat → Sh} {m : Nat} {N' : Nat → ByteArray} {K' : Nat → Sh} {w w' : World} (h : ¬ SameU n N K m N' K') (hb : Below w.heap.size w w') : SameRes n N K m N' K' w (.returned (.bool false)) w' := ⟨false, rfl, ⟨fun e => (by cases e), fun e => absurd e h⟩, hb⟩
theorem SameRes.yes {n : Nat} {N : Nat → ByteArray} {K : Nat → Sh} {m : Nat} {N' : Nat → ByteArray} {K' : Nat → Sh} {w w' : World} (h : SameU n N K m N' K') (hb : Below w.heap.size w w') : SameRes n N K m N' K' w (.returned (.bool true)) w' := ⟨true, rfl, ⟨fun _ => h, fun _ => rfl⟩, hb⟩

set_option maxHeartbeats 2000000 in
theorem specRulesSame_any (a : Option Addr) (b off n cap : Nat) (N : Nat → ByteArray) (K : Nat → Sh) (M : Nat → Mx) (a' : Option Addr) (b' off' m cap' : Nat) (N' : Nat → ByteArray) (K' : Nat → Sh) (M' : Nat → Mx) (w : World)
    (hga : 0 < n → a = some ⟨b, off, none⟩) (hR : RulesIn AnyB w b off n N K M) (hn : n ≤ 1048576) (hc : ∀ i, i < n → cnt (K i) ≤ 1048576)
    (hga' : 0 < m → a' = some ⟨b', off', none⟩) (hR' : RulesIn AnyB w b' off' m N' K' M') (hm : m ≤ 1048576) (hc' : ∀ i, i < m → cnt (K' i) ≤ 1048576) :
    Calls Try.prog 5 #[.slice a n cap, .slice a' m cap'] w (SameRes n N K m N' K' w) := by
  by_cases hnm : n = m
  · subst hnm
    have hnn : ((n : Int) != (n : Int)) = false := by simp
    go_enter Try.func5, Try.ntmps5
    go_wp2_with fail
    go_loopw [5] (fun i wr => ∃ k : Nat, k ≤ n ∧ i = .int .i64 k ∧ Hid (∀ j, j < k → N j = N' j ∧ sameR (K j) (K' j) = true) ∧ Below w.heap.size w wr) (fun i _ => n - (intOf i).toNat)
    case atStart => exact ⟨0, Nat.zero_le _, rfl, fun j hj => absurd hj (Nat.not_lt_zero _), Below.refl _ _⟩
    case round =>
      obtain ⟨k, hk', rfl, HA, hB⟩ := hrel
      by_cases hlt : k < n
      · obtain rfl := hga (by omega)
        obtain rfl := hga' (by omega)
        have hltz : (k : Int) < (n : Int) := by omega
        obtain ⟨hat, hin⟩ := hR k hlt
        obtain ⟨hat', hin'⟩ := hR' k hlt
        obtain ⟨d0, d1, d2, d3⟩ := (hat.below hB).cells
        obtain ⟨y0, y1, y2, y3⟩ := (hat'.below hB).cells
        by_cases hname : N k = N' k
        · have HC : Hid (Calls Try.prog 10 #[vx (K k) (M k), vx (K' k) (M' k)] wr.drew fun e w' => e = .returned (.bool (sameR (K k) (K' k))) ∧ Below wr.drew.heap.size wr.drew w') := specSame_any (K k) (M k) (K' k) (M' k) wr.drew ((hin.below hB).below (Below.refl _ _).drew) ((hin'.below hB).below (Below.refl _ _).drew) (hc k hlt) (hc' k hlt)
          have HAT : Hid (∀ W, Below wr.drew.heap.size wr.drew W → W.cell? ⟨b, off + k * 4, none⟩ = some (.string (N k)) ∧ W.cell? ⟨b, off + k * 4 + 1, none⟩ = some (.int .i64 (K k).kind) ∧ W.cell? ⟨b, off + k * 4 + 2, none⟩ = some (M k).sv ∧ W.cell? ⟨b, off + k * 4 + 3, none⟩ = some (M k).kv ∧ W.cell? ⟨b', off' + k * 4, none⟩ = some (.string (N k)) ∧ W.cell? ⟨b', off' + k * 4 + 1, none⟩ = some (.int .i64 (K' k).kind) ∧ W.cell? ⟨b', off' + k * 4 + 2, none⟩ = some (M' k).sv ∧ W.cell? ⟨b', off' + k * 4 + 3, none⟩ = some (M' k).kv) := fun W hb => by
            have hbb : Below wr.heap.size wr W := (Below.refl _ _).drew.trans hb
            obtain ⟨g0, g1, g2, g3⟩ := ((hat.below hB).below hbb).cells
            obtain ⟨h0, h1, h2, h3⟩ := ((hat'.below hB).below hbb).cells
            rw [← hname] at h0
            exact ⟨g0, g1, g2, g3, h0, h1, h2, h3⟩
          have HN : Hid (N k = N' k) := hname
          rw [← hname] at y0
          clear hat hat' hin hin' hname
          cases hsk : sameR (K k) (K' k)
          · rw [hsk] at HC
            go_wp2_with fail
            go_region_held (fun w' => w'.cell? ⟨b, off + k * 4, none⟩ = some (.string (N k)) ∧ w'.cell? ⟨b, off + k * 4 + 1, none⟩ = some (.int .i64 (K k).kind) ∧ w'.cell? ⟨b, off + k * 4 + 2, none⟩ = some (M k).sv ∧ w'.cell? ⟨b, off + k * 4 + 3, none⟩ = some (M k).kv ∧ w'.cell? ⟨b', off' + k * 4, none⟩ = some (.string (N k)) ∧ w'.cell? ⟨b', off' + k * 4 + 1, none⟩ = some (.int .i64 (K' k).kind) ∧ w'.cell? ⟨b', off' + k * 4 + 2, none⟩ = some (M' k).sv ∧ w'.cell? ⟨b', off' + k * 4 + 3, none⟩ = some (M' k).kv) (go_keep)
              (first | (go_at_call 10; refine HC.out.mono ?_; rintro e w2 ⟨rfl, hb2⟩; obtain ⟨s0, s1, s2, s3, s4, s5, s6, s7⟩ := HAT.out w2 hb2))
            all_goals go_wp2_with fail
            all_goals
              go_ret
              exact .no (fun h => by rw [(h.2 k hlt).2] at hsk; cases hsk) (hB.drew.trans (hb2.mono hB.drew.size))
          · rw [hsk] at HC
            go_wp2_with fail
            go_region_held (fun w' => w'.cell? ⟨b, off + k * 4, none⟩ = some (.string (N k)) ∧ w'.cell? ⟨b, off + k * 4 + 1, none⟩ = some (.int .i64 (K k).kind) ∧ w'.cell? ⟨b, off + k * 4 + 2, none⟩ = some (M k).sv ∧ w'.cell? ⟨b, off + k * 4 + 3, none⟩ = some (M k).kv ∧ w'.cell? ⟨b', off' + k * 4, none⟩ = some (.string (N k)) ∧ w'.cell? ⟨b', off' + k * 4 + 1, none⟩ = some (.int .i64 (K' k).kind) ∧ w'.cell? ⟨b', off' + k * 4 + 2, none⟩ = some (M' k).sv ∧ w'.cell? ⟨b', off' + k * 4 + 3, none⟩ = some (M' k).kv) (go_keep)
              (first | (go_at_call 10; refine HC.out.mono ?_; rintro e w2 ⟨rfl, hb2⟩; obtain ⟨s0, s1, s2, s3, s4, s5, s6, s7⟩ := HAT.out w2 hb2))
            all_goals go_wp2_with fail
            all_goals
              go_roundw
              case rel => exact ⟨k + 1, by omega, by go_num, fun j hj => (by by_cases ej : j = k; exact ej ▸ ⟨HN.out, hsk⟩; exact HA.out j (by omega)), hB.drew.trans (hb2.mono hB.drew.size)⟩
              case measure => simp [intOf]; omega
        · have hne := bytesNe hname
          go_wp2_with fail
          go_quiet (fail)
          go_wp2_with fail
          go_ret
          exact .no (fun h => hname (h.2 k hlt).1) (below_drewN hB _)
      · go_wp2_with fail
        go_ret
        obtain rfl : k = n := by omega
        exact .yes ⟨rfl, HA.out⟩ hB
  · have hnn : ((n : Int) != (m : Int)) = true := by simp; omega
    go_enter Try.func5, Try.ntmps5
    go_wp2_with fail
    go_ret
    exact .no (fun h => hnm h.1) (Below.refl _ _)

theorem In.soft {w w' : World} {S : Sh} {M : Mx} (h : In (Soft w) w S M) (hb : Below w.heap.size w w') : In (Soft w') w' S M := (h.below hb).mono (fun _ hk => hk.below hb)

set_option maxHeartbeats 1000000 in
theorem sameOne_any (s : ByteArray) (S : Sh) (M : Mx) (t : ByteArray) (T : Sh) (M' : Mx) (w : World) (h : In (Soft w) w S M) (h' : In (Soft w) w T M') (hc : cnt S ≤ 1048576) (hc' : cnt T ≤ 1048576) :
    Calls Try.prog 13 #[rv s S M, rv t T M'] w fun e w' => e = .returned (.bool (decide (s = t) && sameR S T)) ∧ Below w.heap.size w w' := by
  obtain ⟨a, n, c, a', m, c', es, ek⟩ := h.slices
  obtain ⟨a2, n2, c2, a2', m2, c2', es2, ek2⟩ := h'.slices
  have hB0 : Below w.heap.size w ((w.alloc (.cells #[.string s, .int .i64 S.kind, .slice a n c, .slice a' m c'] 40)).alloc (.cells #[.string t, .int .i64 T.kind, .slice a2 n2 c2, .slice a2' m2 c2'] 40)) := ((Below.refl _ _).alloc (Nat.le_refl _) _).alloc (by simp) _
  by_cases hst : s = t
  · subst hst
    have HC : Hid (Calls Try.prog 14 #[vx S M, vx T M'] ((w.alloc (.cells #[.string s, .int .i64 S.kind, .slice a n c, .slice a' m c'] 40)).alloc (.cells #[.string s, .int .i64 T.kind, .slice a2 n2 c2, .slice a2' m2 c2'] 40)) fun e w' => e = .returned (.bool (sameR S T)) ∧ Below ((w.alloc (.cells #[.string s, .int .i64 S.kind, .slice a n c, .slice a' m c'] 40)).alloc (.cells #[.string s, .int .i64 T.kind, .slice a2 n2 c2, .slice a2' m2 c2'] 40)).heap.size ((w.alloc (.cells #[.string s, .int .i64 S.kind, .slice a n c, .slice a' m c'] 40)).alloc (.cells #[.string s, .int .i64 T.kind, .slice a2 n2 c2, .slice a2' m2 c2'] 40)) w') :=
      implSame_any S M T M' _ (h.soft hB0) (h'.soft hB0) hc hc'
    rw [vx, vx, es, ek, es2, ek2] at HC
    rw [rv, rv, es, ek, es2, ek2]
    clear es ek es2 ek2 h h'
    simp only [decide_true, Bool.true_and]
    go_enter Try.func13, Try.ntmps13
    go_wp2_with fail
    refine HC.out.mono ?_
    rintro e w1 ⟨rfl, hb1⟩
    go_wp2_with fail
    go_ret
    exact ⟨rfl, hB0.trans (hb1.mono hB0.size)⟩
  · have hne := bytesNe hst
    rw [rv, rv, es, ek, es2, ek2]
    clear es ek es2 ek2 h h'
    simp only [decide_eq_false hst, Bool.false_and]
    go_enter Try.func13, Try.ntmps13
    go_wp2_with fail
    go_ret
    exact ⟨rfl, hB0⟩

set_option maxHeartbeats 2000000 in
theorem equalFunc_any (a : Option Addr) (b off n cap : Nat) (N : Nat → ByteArray) (K : Nat → Sh) (M : Nat → Mx) (a' : Option Addr) (b' off' m cap' : Nat) (N' : Nat → ByteArray) (K' : Nat → Sh) (M' : Nat → Mx) (w : World)
    (hga : 0 < n → a = some ⟨b, off, none⟩) (hR : RulesIn (Soft w) w b off n N K M) (hn : n ≤ 1048576) (hc : ∀ i, i < n → cnt (K i) ≤ 1048576)
    (hga' : 0 < m → a' = some ⟨b', off', none⟩) (hR' : RulesIn (Soft w) w b' off' m N' K' M') (hm : m ≤ 1048576) (hc' : ∀ i, i < m → cnt (K' i) ≤ 1048576) :
    Calls Try.prog 12 #[.slice a n cap, .slice a' m cap', .func (.func 13) #[] #[]] w (SameRes n N K m N' K' w) := by
  by_cases hnm : n = m
  · subst hnm
    have hnn : ((n : Int) != (n : Int)) = false := by simp
    go_enter Try.func12, Try.ntmps12
    go_wp2_with fail
    go_loopw [17] (fun i wr => ∃ k : Nat, k ≤ n ∧ i = .int .i64 k ∧ Hid (∀ j, j < k → N j = N' j ∧ sameR (K j) (K' j) = true) ∧ Below w.heap.size w wr) (fun i _ => n - (intOf i).toNat)
    case atStart => exact ⟨0, Nat.zero_le _, rfl, fun j hj => absurd hj (Nat.not_lt_zero _), Below.refl _ _⟩
    case round =>
      obtain ⟨k, hk', rfl, HA, hB⟩ := hrel
      by_cases hlt : k < n
      · obtain rfl := hga (by omega)
        obtain rfl := hga' (by omega)
        have hltz : (k : Int) < (n : Int) := by omega
        obtain ⟨hat, hin⟩ := hR k hlt
        obtain ⟨hat', hin'⟩ := hR' k hlt
        have hbB := World.block_lt_of_cell? _ _ (hat'.below hB).1
        obtain ⟨d0, d1, d2, d3⟩ := (hat.below hB).cells
        obtain ⟨y0, y1, y2, y3⟩ := (hat'.below hB).cells
        obtain ⟨ra, rn, rc, ra', rm, rc', es, ek⟩ := hin.slices
        obtain ⟨ra2, rn2, rc2, ra2', rm2, rc2', es2, ek2⟩ := hin'.slices
        rw [es] at d2
        rw [ek] at d3
        rw [es2] at y2
        rw [ek2] at y3
        have hb0 : Below wr.heap.size wr ((wr.alloc (.cells #[.string (N k), .int .i64 (K k).kind, .slice ra rn rc, .slice ra' rm rc'] 40)).alloc (.cells #[.string (N' k), .int .i64 (K' k).kind, .slice ra2 rn2 rc2, .slice ra2' rm2 rc2'] 40)) := ((Below.refl _ _).alloc (Nat.le_refl _) _).alloc (by simp) _
        have HC : Hid (∀ W, Below wr.heap.size wr W → Calls Try.prog 13 #[rv (N k) (K k) (M k), rv (N' k) (K' k) (M' k)] W fun e w' => e = .returned (.bool (decide (N k = N' k) && sameR (K k) (K' k))) ∧ Below W.heap.size W w') := fun W hb =>
          sameOne_any (N k) (K k) (M k) (N' k) (K' k) (M' k) W ((hin.soft hB).soft hb) ((hin'.soft hB).soft hb) (hc k hlt) (hc' k hlt)
        rw [rv, rv, es, ek, es2, ek2] at HC
        clear hat hat' hin hin' es ek es2 ek2
        cases hsk : (decide (N k = N' k) && sameR (K k) (K' k))
        · rw [hsk] at HC
          have HNO : Hid (¬ SameU n N K n N' K') := fun h => by
            obtain ⟨h1, h2⟩ := h.2 k hlt
            rw [h2, decide_eq_true h1] at hsk
            cases hsk
          clear hsk
          go_wp2_with fail
          refine (HC.out _ hb0).mono ?_
          rintro e w2 ⟨rfl, hb2⟩
          go_wp2_with fail
          go_ret
          exact .no HNO.out (hB.trans ((hb0.trans (hb2.mono hb0.size)).mono hB.size))
        · rw [hsk] at HC
          have HS : Hid (N k = N' k ∧ sameR (K k) (K' k) = true) := by
            rw [Bool.and_eq_true, decide_eq_true_eq] at hsk
            exact hsk
          clear hsk
          go_wp2_with fail
          refine (HC.out _ hb0).mono ?_
          rintro e w2 ⟨rfl, hb2⟩
          go_wp2_with fail
          go_roundw
          case rel => exact ⟨k + 1, by omega, by go_num, fun j hj => (by by_cases ej : j = k; exact ej ▸ HS.out; exact HA.out j (by omega)), hB.trans ((hb0.trans (hb2.mono hb0.size)).mono hB.size)⟩
          case measure => simp [intOf]; omega
      · go_wp2_with fail
        go_ret
        obtain rfl : k = n := by omega
        exact .yes ⟨rfl, HA.out⟩ hB
  · have hnn : ((n : Int) != (m : Int)) = true := by simp; omega
    go_enter Try.func12, Try.ntmps12
    go_wp2_with fail
    go_ret
    exact .no (fun h => hnm h.1) (Below.refl _ _)

set_option maxHeartbeats 1000000 in
theorem implRulesSame_any (a : Option Addr) (b off n cap : Nat) (N : Nat → ByteArray) (K : Nat → Sh) (M : Nat → Mx) (a' : Option Addr) (b' off' m cap' : Nat) (N' : Nat → ByteArray) (K' : Nat → Sh) (M' : Nat → Mx) (w : World)
    (hga : 0 < n → a = some ⟨b, off, none⟩) (hR : RulesIn (Soft w) w b off n N K M) (hn : n ≤ 1048576) (hc : ∀ i, i < n → cnt (K i) ≤ 1048576)
    (hga' : 0 < m → a' = some ⟨b', off', none⟩) (hR' : RulesIn (Soft w) w b' off' m N' K' M') (hm : m ≤ 1048576) (hc' : ∀ i, i < m → cnt (K' i) ≤ 1048576) :
    Calls Try.prog 7 #[.slice a n cap, .slice a' m cap'] w (SameRes n N K m N' K' w) := by
  have HC : Hid (Calls Try.prog 12 #[.slice a n cap, .slice a' m cap', .func (.func 13) #[] #[]] w (SameRes n N K m N' K' w)) := equalFunc_any a b off n cap N K M a' b' off' m cap' N' K' M' w hga hR hn hc hga' hR' hm hc'
  go_enter Try.func7, Try.ntmps7
  go_wp2_with fail
  refine HC.out.mono ?_
  rintro e w1 ⟨ok, rfl, hok, hb1⟩
  go_wp2_with fail
  go_ret
  exact ⟨ok, rfl, hok, hb1⟩
end Go.Proofs.Ytkjfhlfakoopnaa

