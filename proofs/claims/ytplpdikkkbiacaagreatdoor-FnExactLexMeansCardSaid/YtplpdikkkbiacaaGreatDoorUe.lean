/- the walk of spec's RulesOk -/
import Derived.Test.YtplpdikkkbiacaaGreatDoorXg
import Derived.Test.YtplpdikkkbiacaaGreatDoorXb
import Derived.Maps.AppendAt
import Derived.RangeFuncBox
import Derived.Test.YtplpdikkkbiacaaGreatDoorRows
import Derived.WalkKit
import Derived.WalkSpells
import Derived.WalkLawsBesides
import Derived.ProofKit
import Derived.OpenShut
import Derived.Test.YtplpdikkkbiacaaGreatDoorXs
import Derived.Test.YtplpdikkkbiacaaGreatDoorTg
namespace Go.Proofs.YtplpdikkkbiacaaGreatDoor
open Go.RowKit
set_option linter.unusedVariables false
set_option linter.unusedSimpArgs false

/-- what LexRun tells -/
def LexRunR (D : Dx) (t : ByteArray) (L : List Tk) (b : Nat) : Prop := (DOk D ∧ t.size ≤ 200 ∧ CutEnd (LexV D t) t.size L b) ∨ ((¬ DOk D ∨ 200 < t.size) ∧ L = [] ∧ b = 0)
theorem LexRunR.unique {D : Dx} {t : ByteArray} {L L' : List Tk} {b b' : Nat} (h : LexRunR D t L b) (h' : LexRunR D t L' b') : L = L' ∧ b = b' := by
  rcases h with ⟨a1, a2, a3⟩ | ⟨a1, a2, a3⟩ <;> rcases h' with ⟨b1, b2, b3⟩ | ⟨b1, b2, b3⟩
  · exact a3.unique (fun a _ r x r' x' h1 h2 => h1.unique a1 h2) b3
  · rcases b1 with b1 | b1
    · exact absurd a1 b1
    · omega
  · rcases a1 with a1 | a1
    · exact absurd b1 a1
    · omega
  · exact ⟨a2.trans b2.symm, a3.trans b3.symm⟩
theorem LexRunR.congr {D D' : Dx} (e : DEq D D') {t : ByteArray} {L : List Tk} {b : Nat} (h : LexRunR D t L b) : LexRunR D' t L b := by
  rcases h with ⟨a1, a2, a3⟩ | ⟨a1, a2, a3⟩
  · exact .inl ⟨a1.congr e, a2, a3.mono (fun a _ r x h => h.congr e a1)⟩
  · exact .inr ⟨a1.imp (fun h h2 => h (h2.congr e.symm)) id, a2, a3⟩
/-- tokens in a new list of one's own, and a number -/
def TokRes (P : List Tk → Nat → Prop) (w : World) (e : Ending) (w' : World) : Prop :=
  ∃ (v : Value) (L : List Tk) (b : Nat), e = .returned (.tuple #[v, .int .i64 b]) ∧ P L b ∧ w'.ownsRow w.heap.size 46 3 v L.length (cellsT L) ∧ Below w.heap.size w w'
theorem TokRes.nil {P : List Tk → Nat → Prop} {w w' : World} (h : P [] 0) (hb : Below w.heap.size w w') : TokRes P w (.returned (.tuple #[.slice none 0 0, .int .i64 0])) w' :=
  ⟨.slice none 0 0, [], 0, rfl, h, World.ownsRow_nil _ _ _ _, hb⟩

theorem Tryz.infoTokA : (Tryz.prog.info? 46).map (fun i => (i.zero, i.size, i.bytes)) = some (some (.agg #[.int .i64 0, .int .i64 0, .int .i64 0]), 3, 24) := by kernel_rfl
theorem cell_three_new (w : World) (x y z : Value) (t : TypeId) : ∀ j v, [x, y, z][j]? = some v → (w.alloc (.cells #[x, y, z] t)).cell? ((⟨w.heap.size, 0, none⟩ : Addr).add j) = some v := by
  intro j v hj
  match j with
  | 0 => simp at hj; subst hj; simp [go_sem]
  | 1 => simp at hj; subst hj; simp [go_sem]
  | 2 => simp at hj; subst hj; simp [go_sem]
  | j + 3 => simp at hj

end Go.Proofs.YtplpdikkkbiacaaGreatDoor
namespace Go.Proofs.YtplpdikkkbiacaaGreatDoor
open Go.RowKit
set_option linter.unusedVariables false
set_option linter.unusedSimpArgs false

/-- a text is a name -/
def OkNm (s : ByteArray) : Prop := 0 < s.size ∧ s.size ≤ 6 ∧ ∀ j (h : j < s.size), 97 ≤ s[j].toNat ∧ s[j].toNat ≤ 122

def NameRes (s : ByteArray) (w : World) (e : Ending) (w' : World) : Prop := ∃ b : Bool, e = .returned (.bool b) ∧ (b = true ↔ OkNm s) ∧ w' = w

set_option maxHeartbeats 1000000 in
theorem specName_any (s : ByteArray) (hs : s.size ≤ 1048576) (w : World) : Calls Tryz.prog 29 #[.string s] w (NameRes s w) := by
  go_enter Tryz.func29, Tryz.ntmps29
  go_wp2
  go_loop [3] (fun i => ∃ k : Nat, k ≤ s.size ∧ i = .int .i64 k ∧ Hid (∀ j (h : j < s.size), j < k → 97 ≤ s[j].toNat ∧ s[j].toNat ≤ 122)) (fun i => s.size - (intOf i).toNat)
  case atStart => exact ⟨0, Nat.zero_le _, rfl, fun j _ hj => absurd hj (Nat.not_lt_zero _)⟩
  case round =>
    obtain ⟨k, hk, rfl, HA⟩ := hrel
    by_cases hlt : k < s.size
    · have hltz : (k : Int) < (s.size : Int) := by omega
      by_cases h1 : s[k].toNat < 97
      · have h1z : ((s[k].toNat : Nat) : Int) < 97 := by omega
        go_wp2
        go_ret
        exact ⟨_, rfl, ⟨fun e => (by cases e), fun h => absurd (h.2.2 k hlt).1 (by omega)⟩, rfl⟩
      · have h1z : ¬ (((s[k].toNat : Nat) : Int) < 97) := by omega
        by_cases h2 : 122 < s[k].toNat
        · have h2z : (122 : Int) < ((s[k].toNat : Nat) : Int) := by omega
          go_wp2
          go_ret
          exact ⟨_, rfl, ⟨fun e => (by cases e), fun h => absurd (h.2.2 k hlt).2 (by omega)⟩, rfl⟩
        · have h2z : ¬ ((122 : Int) < ((s[k].toNat : Nat) : Int)) := by omega
          go_wp2
          go_round
          case rel =>
            refine ⟨k + 1, by omega, by go_num, fun j h hj => ?_⟩
            by_cases e : j = k
            · subst e; exact ⟨by omega, by omega⟩
            · exact HA.out j h (by omega)
          case measure => simp [intOf]; omega
    · have hltz : ¬ ((k : Int) < (s.size : Int)) := by omega
      by_cases h0 : 0 < s.size
      · have h0z : (0 : Int) < (s.size : Int) := by omega
        by_cases h6 : s.size ≤ 6
        · have h6z : (s.size : Int) ≤ 6 := by omega
          go_wp2
          go_ret
          exact ⟨_, rfl, ⟨fun _ => ⟨h0, h6, fun j h => HA.out j h (by omega)⟩, fun _ => by simp⟩, rfl⟩
        · have h6z : ¬ ((s.size : Int) ≤ 6) := by omega
          go_wp2
          go_ret
          exact ⟨_, rfl, ⟨fun e => (by simp at e), fun h => absurd h.2.1 h6⟩, rfl⟩
      · have h0z : ¬ ((0 : Int) < (s.size : Int)) := by omega
        go_wp2
        go_ret
        exact ⟨_, rfl, ⟨fun e => (by simp at e), fun h => absurd h.1 h0⟩, rfl⟩

set_option maxHeartbeats 1000000 in
theorem implName_any (s : ByteArray) (hs : s.size ≤ 1048576) (w : World) : Calls Tryz.prog 64 #[.string s] w (NameRes s w) := by
  by_cases h0 : 0 < s.size
  · have h0z : ¬ ((s.size : Int) < 1) := by omega
    by_cases h6 : s.size ≤ 6
    · have h6z : ¬ ((6 : Int) < (s.size : Int)) := by omega
      go_enter Tryz.func64, Tryz.ntmps64
      go_wp2
      go_loop [14] (fun i => ∃ k : Nat, k ≤ s.size ∧ i = .int .i64 k ∧ Hid (∀ j (h : j < s.size), j < k → 97 ≤ s[j].toNat ∧ s[j].toNat ≤ 122)) (fun i => s.size - (intOf i).toNat)
      case atStart => exact ⟨0, Nat.zero_le _, rfl, fun j _ hj => absurd hj (Nat.not_lt_zero _)⟩
      case round =>
        obtain ⟨k, hk, rfl, HA⟩ := hrel
        by_cases hlt : k < s.size
        · have hltz : (k : Int) < (s.size : Int) := by omega
          by_cases h1 : s[k].toNat < 97
          · have h1z : ((s[k].toNat : Nat) : Int) < 97 := by omega
            go_wp2
            go_ret
            exact ⟨_, rfl, ⟨fun e => (by cases e), fun h => absurd (h.2.2 k hlt).1 (by omega)⟩, rfl⟩
          · have h1z : ¬ (((s[k].toNat : Nat) : Int) < 97) := by omega
            by_cases h2 : 122 < s[k].toNat
            · have h2z : (122 : Int) < ((s[k].toNat : Nat) : Int) := by omega
              go_wp2
              go_ret
              exact ⟨_, rfl, ⟨fun e => (by cases e), fun h => absurd (h.2.2 k hlt).2 (by omega)⟩, rfl⟩
            · have h2z : ¬ ((122 : Int) < ((s[k].toNat : Nat) : Int)) := by omega
              go_wp2
              go_round
              case rel =>
                refine ⟨k + 1, by omega, by go_num, fun j h hj => ?_⟩
                by_cases e : j = k
                · subst e; exact ⟨by omega, by omega⟩
                · exact HA.out j h (by omega)
              case measure => simp [intOf]; omega
        · have hltz : ¬ ((k : Int) < (s.size : Int)) := by omega
          go_wp2
          go_ret
          exact ⟨_, rfl, ⟨fun _ => ⟨h0, h6, fun j h => HA.out j h (by omega)⟩, fun _ => rfl⟩, rfl⟩
    · have h6z : (6 : Int) < (s.size : Int) := by omega
      go_enter Tryz.func64, Tryz.ntmps64
      go_wp2
      go_ret
      exact ⟨_, rfl, ⟨fun e => (by cases e), fun h => absurd h.2.1 h6⟩, rfl⟩
  · have h0z : (s.size : Int) < 1 := by omega
    go_enter Tryz.func64, Tryz.ntmps64
    go_wp2
    go_ret
    exact ⟨_, rfl, ⟨fun e => (by cases e), fun h => absurd h.1 h0⟩, rfl⟩
end Go.Proofs.YtplpdikkkbiacaaGreatDoor
namespace Go.Proofs.YtplpdikkkbiacaaGreatDoor
open Go.RowKit
set_option linter.unusedVariables false
set_option linter.unusedSimpArgs false

/-- rule j is as it must be beside those ahead of it -/
def RuleGood (N : Nat → ByteArray) (K : Nat → Sh) (j : Nat) : Prop := OkNm (N j) ∧ okR (K j) = true ∧ ∀ k, k < j → N k ≠ N j
/-- the rules are right -/
def RulesGood (n : Nat) (N : Nat → ByteArray) (K : Nat → Sh) : Prop := 1 ≤ n ∧ n ≤ 5 ∧ ∀ j, j < n → RuleGood N K j

theorem NameRes.yes {s : ByteArray} {w w' : World} {e : Ending} (h : OkNm s) (hr : NameRes s w e w') : e = .returned (.bool true) ∧ w' = w := by
  obtain ⟨b, rfl, hb, rfl⟩ := hr
  exact ⟨by rw [hb.2 h], rfl⟩
theorem NameRes.no {s : ByteArray} {w w' : World} {e : Ending} (h : ¬ OkNm s) (hr : NameRes s w e w') : e = .returned (.bool false) ∧ w' = w := by
  obtain ⟨b, rfl, hb, rfl⟩ := hr
  cases b
  · exact ⟨rfl, rfl⟩
  · exact absurd (hb.1 rfl) h

theorem bytes_ne {s t : ByteArray} (h : s ≠ t) : (s.toList == t.toList) = false := by
  rw [← Bool.not_eq_true]
  intro e
  apply h
  have e := eq_of_beq e
  rw [Go.ByteArray.toList_eq, Go.ByteArray.toList_eq] at e
  obtain ⟨s⟩ := s
  obtain ⟨t⟩ := t
  simp only at e
  rw [Array.toList_inj.1 e]

/-- what a function tells that says whether rules are right -/
def RulesRes (n : Nat) (N : Nat → ByteArray) (K : Nat → Sh) (w : World) (e : Ending) (w' : World) : Prop := ∃ b : Bool, e = .returned (.bool b) ∧ (b = true ↔ RulesGood n N K) ∧ Below w.heap.size w w'
theorem RulesRes.no {n : Nat} {N : Nat → ByteArray} {K : Nat → Sh} {w w' : World} (h : ¬ RulesGood n N K) (hb : Below w.heap.size w w') : RulesRes n N K w (.returned (.bool false)) w' := ⟨false, rfl, ⟨fun e => (by cases e), fun e => absurd e h⟩, hb⟩
theorem RulesRes.yes {n : Nat} {N : Nat → ByteArray} {K : Nat → Sh} {w w' : World} (h : RulesGood n N K) (hb : Below w.heap.size w w') : RulesRes n N K w (.returned (.bool true)) w' := ⟨true, rfl, ⟨fun _ => h, fun _ => rfl⟩, hb⟩

set_option maxHeartbeats 2000000 in
theorem specRulesOk_any (a : Option Addr) (b off n cap : Nat) (N : Nat → ByteArray) (K : Nat → Sh) (M : Nat → Mx) (w : World) (hga : 0 < n → a = some ⟨b, off, none⟩) (hR : RulesIn AnyB w b off n N K M) (hn : n ≤ 1048576)
    (hN : ∀ i, i < n → (N i).size ≤ 1048576) (hc : ∀ i, i < n → cnt (K i) ≤ 1048576) :
    Calls Tryz.prog 14 #[.slice a n cap] w (RulesRes n N K w) := by
  by_cases h1 : 1 ≤ n
  · by_cases h5 : n ≤ 5
    · have h1z : ¬ (n : Int) < 1 := by omega
      have h5z : ¬ (5 : Int) < (n : Int) := by omega
      go_enter Tryz.func14, Tryz.ntmps14
      go_wp2_with fail
      go_loopw [3] (fun i wr => ∃ k : Nat, k ≤ n ∧ i = .int .i64 k ∧ Hid (∀ j, j < k → RuleGood N K j) ∧ Below w.heap.size w wr) (fun i _ => n - (intOf i).toNat)
      case atStart => exact ⟨0, Nat.zero_le _, rfl, fun j hj => absurd hj (Nat.not_lt_zero _), Below.refl _ _⟩
      case round =>
        obtain ⟨k, hk', rfl, HG, hB⟩ := hrel
        by_cases hlt : k < n
        · obtain rfl := hga (by omega)
          have hltz : (k : Int) < (n : Int) := by omega
          obtain ⟨hat, hin⟩ := hR k hlt
          obtain ⟨d0, d1, d2, d3⟩ := (hat.below hB).cells
          by_cases hw : OkNm (N k)
          · have HW : Hid (∀ w1, Calls Tryz.prog 29 #[.string (N k)] w1 fun e w' => e = .returned (.bool true) ∧ w' = w1) := fun w1 => (specName_any (N k) (hN k hlt) w1).mono (fun e w' h => h.yes hw)
            have HO : Hid (Calls Tryz.prog 30 #[vx (K k) (M k)] wr fun e w' => e = .returned (.bool (okR (K k))) ∧ Below wr.heap.size wr w') := specRexOk_any (K k) (M k) wr (hin.below hB) (hc k hlt)
            by_cases hok : okR (K k) = true
            · rw [hok] at HO
              go_wp2_with fail
              refine (HW.out _).mono ?_
              rintro e w1 ⟨rfl, rfl⟩
              go_wp2_with fail
              refine HO.out.mono ?_
              rintro e w1 ⟨rfl, hb1⟩
              have hB1 := hB.trans (hb1.mono hB.size)
              go_wp2_with fail
              go_loopw [4] (fun i wr => ∃ q : Nat, q ≤ k ∧ i = .int .i64 q ∧ Hid (∀ j, j < q → N j ≠ N k) ∧ Below w.heap.size w wr) (fun i _ => k - (intOf i).toNat)
              case atStart => exact ⟨0, Nat.zero_le _, rfl, fun j hj => absurd hj (Nat.not_lt_zero _), hB1⟩
              case round =>
                obtain ⟨q, hq, rfl, HN, hB2⟩ := hrel
                clear d0 d1 d2 d3
                by_cases hqk : q < k
                · have hqz : (q : Int) < (k : Int) := by omega
                  obtain ⟨d0, d1, d2, d3⟩ := (hat.below hB2).cells
                  obtain ⟨y0, y1, y2, y3⟩ := ((hR q (by omega)).1.below hB2).cells
                  by_cases he : N q = N k
                  · rw [he] at y0
                    go_wp2_with fail
                    go_quiet (fail)
                    go_wp2_with fail
                    go_ret
                    exact .no (fun h => (h.2.2 k hlt).2.2 q hqk he) (below_drewN hB2 _)
                  · have hne := bytes_ne he
                    go_wp2_with fail
                    go_quiet (fail)
                    go_wp2_with fail
                    go_roundw
                    case rel =>
                      refine ⟨q + 1, by omega, by go_num, fun j hj => ?_, below_drewN hB2 _⟩
                      by_cases e : j = q
                      · subst e; exact he
                      · exact HN.out j (by omega)
                    case measure => simp [intOf]; omega
                · have hqz : ¬ (q : Int) < (k : Int) := by omega
                  obtain rfl : q = k := by omega
                  have HG1 : Hid (∀ j, j < q + 1 → RuleGood N K j) := fun j hj => by
                    by_cases e : j = q
                    · subst e; exact ⟨hw, hok, HN.out⟩
                    · exact HG.out j (by omega)
                  go_wp2_with fail
                  go_roundw
                  case rel => exact ⟨q + 1, by omega, by go_num, HG1, hB2⟩
                  case measure => simp [intOf]; omega
            · have hok' : okR (K k) = false := by simpa using hok
              rw [hok'] at HO
              go_wp2_with fail
              refine (HW.out _).mono ?_
              rintro e w1 ⟨rfl, rfl⟩
              go_wp2_with fail
              refine HO.out.mono ?_
              rintro e w1 ⟨rfl, hb1⟩
              go_wp2_with fail
              go_ret
              exact .no (fun h => hok (h.2.2 k hlt).2.1) (hB.trans (hb1.mono hB.size))
          · have HW : Hid (∀ w1, Calls Tryz.prog 29 #[.string (N k)] w1 fun e w' => e = .returned (.bool false) ∧ w' = w1) := fun w1 => (specName_any (N k) (hN k hlt) w1).mono (fun e w' h => h.no hw)
            go_wp2_with fail
            refine (HW.out _).mono ?_
            rintro e w1 ⟨rfl, rfl⟩
            go_wp2_with fail
            go_ret
            exact .no (fun h => hw (h.2.2 k hlt).1) hB
        · go_wp2_with fail
          go_ret
          obtain rfl : k = n := by omega
          exact .yes ⟨h1, h5, HG.out⟩ hB
    · have h1z : ¬ (n : Int) < 1 := by omega
      have h5z : (5 : Int) < (n : Int) := by omega
      go_enter Tryz.func14, Tryz.ntmps14
      go_wp2_with fail
      go_ret
      exact .no (fun h => h5 h.2.1) (Below.refl _ _)
  · have h1z : (n : Int) < 1 := by omega
    go_enter Tryz.func14, Tryz.ntmps14
    go_wp2_with fail
    go_ret
    exact .no (fun h => h1 h.1) (Below.refl _ _)
end Go.Proofs.YtplpdikkkbiacaaGreatDoor

