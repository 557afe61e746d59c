/- lists of tokens compared: eqTokenS, both LexSame -/
import Derived.Test.YtplpdikkkbiacaaGreatDoorXj
import Derived.Laws.StructEq
namespace Go.Proofs.YtplpdikkkbiacaaGreatDoor
open Go.RowKit
set_option linter.unusedVariables false
set_option linter.unusedSimpArgs false

/-- from a on these tokens are found, one behind the other, up to b; F tells what is found at a place -/
def CutFrom (F : Nat → Int → Int → Prop) (n : Nat) : Nat → List Tk → Nat → Prop
  | a, [], b => a = b
  | a, k :: L, b => a < n ∧ ∃ r x : Int, F a r x ∧ r ≠ -1 ∧ k = ⟨r, (a : Int), x⟩ ∧ CutFrom F n x.toNat L b
theorem CutFrom.snoc {F : Nat → Int → Int → Prop} {n : Nat} : ∀ {L : List Tk} {a c : Nat} {r x : Int}, CutFrom F n a L c → c < n → F c r x → r ≠ -1 → CutFrom F n a (L ++ [⟨r, (c : Int), x⟩]) x.toNat
  | [], a, c, r, x, h, h1, h2, h3 => by
    have e : a = c := h
    subst e
    exact ⟨h1, r, x, h2, h3, rfl, rfl⟩
  | k :: L, a, c, r, x, ⟨g1, r', x', g2, g3, g4, g5⟩, h1, h2, h3 => ⟨g1, r', x', g2, g3, g4, g5.snoc h1 h2 h3⟩
/-- these are all -/
def CutEnd (F : Nat → Int → Int → Prop) (n : Nat) (L : List Tk) (b : Nat) : Prop := CutFrom F n 0 L b ∧ (n ≤ b ∨ (b < n ∧ ∃ x, F b (-1) x))
theorem CutFrom.unique {F : Nat → Int → Int → Prop} {n : Nat} (hF : ∀ a, a < n → ∀ r x r' x', F a r x → F a r' x' → r = r' ∧ x = x') : ∀ {L L' : List Tk} {a b b' : Nat}, CutFrom F n a L b → (n ≤ b ∨ (b < n ∧ ∃ x, F b (-1) x)) → CutFrom F n a L' b' → (n ≤ b' ∨ (b' < n ∧ ∃ x, F b' (-1) x)) → L = L' ∧ b = b'
  | [], [], a, b, b', h, _, h', _ => ⟨rfl, (show a = b from h).symm.trans h'⟩
  | [], k :: L', a, b, b', h, e, ⟨g1, r, x, g2, g3, _⟩, _ => by
    have : a = b := h
    subst this
    rcases e with e | ⟨_, y, e⟩
    · omega
    · exact absurd (hF a g1 _ _ _ _ e g2).1.symm g3
  | k :: L, [], a, b, b', ⟨g1, r, x, g2, g3, _⟩, _, h', e => by
    have : a = b' := h'
    subst this
    rcases e with e | ⟨_, y, e⟩
    · omega
    · exact absurd (hF a g1 _ _ _ _ e g2).1.symm g3
  | k :: L, k' :: L', a, b, b', ⟨g1, r, x, g2, g3, g4, g5⟩, e, ⟨g1', r', x', g2', g3', g4', g5'⟩, e' => by
    obtain ⟨rfl, rfl⟩ := hF a g1 _ _ _ _ g2 g2'
    obtain ⟨rfl, rfl⟩ := CutFrom.unique hF g5 e g5' e'
    exact ⟨by rw [g4, g4'], rfl⟩
theorem CutEnd.unique {F : Nat → Int → Int → Prop} {n : Nat} (hF : ∀ a, a < n → ∀ r x r' x', F a r x → F a r' x' → r = r' ∧ x = x') {L L' : List Tk} {b b' : Nat} (h : CutEnd F n L b) (h' : CutEnd F n L' b') : L = L' ∧ b = b' :=
  h.1.unique hF h.2 h'.1 h'.2
/-- what is found at a place is within the text, and not empty -/
def Finds (F : Nat → Int → Int → Prop) (n : Nat) : Prop := ∀ a, a ≤ n → ∀ r x, F a r x → (-1 ≤ r ∧ r ≤ 4) ∧ ((a : Int) ≤ x ∧ x ≤ n) ∧ (r = -1 → x = a) ∧ (0 ≤ r → (a : Int) < x)
theorem CutFrom.bd {F : Nat → Int → Int → Prop} {n : Nat} (hF : Finds F n) : ∀ {L : List Tk} {a b : Nat}, a ≤ n → CutFrom F n a L b → a + L.length ≤ b ∧ b ≤ n
  | [], a, b, ha, h => by have : a = b := h; subst this; simp; exact ha
  | k :: L, a, b, ha, ⟨g1, r, x, g2, g3, g4, g5⟩ => by
    have h1 := hF a ha r x g2
    have h2 : 0 ≤ r := by omega
    have h3 := h1.2.2.2 h2
    have := CutFrom.bd hF (show x.toNat ≤ n by omega) g5
    simp only [List.length_cons]
    omega
theorem CutFrom.mono {F G : Nat → Int → Int → Prop} {n : Nat} (hFG : ∀ a, a < n → ∀ r x, F a r x → G a r x) : ∀ {L : List Tk} {a b : Nat}, CutFrom F n a L b → CutFrom G n a L b
  | [], _, _, h => h
  | _ :: _, _, _, ⟨g1, r, x, g2, g3, g4, g5⟩ => ⟨g1, r, x, hFG _ g1 r x g2, g3, g4, g5.mono hFG⟩
theorem CutEnd.mono {F G : Nat → Int → Int → Prop} {n : Nat} (hFG : ∀ a, a < n → ∀ r x, F a r x → G a r x) {L : List Tk} {b : Nat} (h : CutEnd F n L b) : CutEnd G n L b :=
  ⟨h.1.mono hFG, h.2.imp id (fun ⟨h1, x, h2⟩ => ⟨h1, x, hFG b h1 _ _ h2⟩)⟩

/-- the cells of tokens -/
def cellsT (L : List Tk) : List Value := L.flatMap tkC
theorem cellsT_snoc (L : List Tk) (k : Tk) : cellsT (L ++ [k]) = cellsT L ++ [.int .i64 k.r, .int .i64 k.f, .int .i64 k.t] := by simp [cellsT, tkC]
def atT (L : List Tk) (i : Nat) : Tk := L.getD i ⟨0, 0, 0⟩
theorem cellsT_get : ∀ (L : List Tk) (i : Nat), i < L.length → (cellsT L)[i * 3]? = some (.int .i64 (atT L i).r) ∧ (cellsT L)[i * 3 + 1]? = some (.int .i64 (atT L i).f) ∧ (cellsT L)[i * 3 + 2]? = some (.int .i64 (atT L i).t)
  | [], i, h => absurd h (by simp)
  | k :: L, i, h => by
    have e : cellsT (k :: L) = tkC k ++ cellsT L := by simp [cellsT]
    cases i with
    | zero => simp [cellsT, tkC, atT]
    | succ i =>
      have := cellsT_get L i (by simpa using h)
      rw [e, List.getElem?_append_right (by simp [tkC]; omega), List.getElem?_append_right (by simp [tkC]; omega), List.getElem?_append_right (by simp [tkC]; omega)]
      have e3 : (tkC k).length = 3 := rfl
      rw [e3, show (i + 1) * 3 - 3 = i * 3 by omega, show (i + 1) * 3 + 1 - 3 = i * 3 + 1 by omega, show (i + 1) * 3 + 2 - 3 = i * 3 + 2 by omega]
      simpa [atT] using this
theorem own_tk {w : World} {base g c : Nat} {L : List Tk} (h : w.ownsRow base 46 3 (.slice (some ⟨g, 0, none⟩) L.length c) L.length (cellsT L)) : TkIn w g 0 L.length (atT L) := fun i hi => by
  obtain ⟨e0, e1, e2⟩ := cellsT_get L i hi
  have c0 := h.cellAt (i * 3) (by omega)
  have c1 := h.cellAt (i * 3 + 1) (by omega)
  have c2 := h.cellAt (i * 3 + 2) (by omega)
  rw [e0] at c0
  rw [e1] at c1
  rw [e2] at c2
  exact ⟨by simpa using c0, by simpa using c1, by simpa using c2⟩
theorem own_downT {w : World} {base base' : Nat} {e : TypeId} {size n : Nat} {v : Value} {xs : List Value} (h : w.ownsRow base e size v n xs) (hb : base' ≤ base) : w.ownsRow base' e size v n xs := by
  refine ⟨h.1, ?_⟩
  rcases h.2 with h0 | ⟨g, cap, cur, e, hb1, r⟩
  · exact .inl h0
  · exact .inr ⟨g, cap, cur, e, Nat.le_trans hb hb1, r⟩
theorem own_belowT {W W' : World} {base e size n : Nat} {v : Value} {xs : List Value} (h : W.ownsRow base e size v n xs) (hb : Below W.heap.size W W') : W'.ownsRow base e size v n xs := by
  refine ⟨h.1, ?_⟩
  rcases h.2 with h0 | ⟨g, cap, cur, e, hb1, hg, r⟩
  · exact .inl h0
  · exact .inr ⟨g, cap, cur, e, hb1, (hb.block g (Array.getElem?_eq_some_iff.1 hg).1).trans hg, r⟩
end Go.Proofs.YtplpdikkkbiacaaGreatDoor
namespace Go.Proofs.YtplpdikkkbiacaaGreatDoor
open Go.RowKit
set_option linter.unusedVariables false
set_option linter.unusedSimpArgs false

set_option maxHeartbeats 400000 in
theorem eqTokS_any (a a' : Option Addr) (b off cap n b' off' cap' m : Nat) (K K' : Nat → Tk) (w : World) (hga : 0 < n → a = some ⟨b, off, none⟩) (hc : TkIn w b off n K)
    (hga' : 0 < m → a' = some ⟨b', off', none⟩) (hc' : TkIn w b' off' m K') (hn : n ≤ 4194304) (hm : m ≤ 4194304) :
    Calls Tryz.prog 8 #[.slice a n cap, .slice a' m cap'] w fun e w' => e = .returned (.bool (eqTB n K m K')) ∧ Below w.heap.size w w' := by
  by_cases hnm : n = m
  · subst hnm
    have hnn : ((n : Int) != (n : Int)) = false := by simp
    go_enter Tryz.func8, Tryz.ntmps8
    go_wp2
    go_loopw [5] (fun i wr => ∃ k : Nat, k ≤ n ∧ i = .int .i64 k ∧ Hid (∀ j, j < k → K j = K' j) ∧ Below w.heap.size w wr) (fun i _ => n - (intOf i).toNat)
    case atStart => exact ⟨0, Nat.zero_le _, rfl, fun j hj => absurd hj (Nat.not_lt_zero _), Below.refl _ _⟩
    case round =>
      obtain ⟨k, hk, rfl, Hall, hB⟩ := hrel
      by_cases hlt : k < n
      · obtain rfl := hga (by omega)
        obtain rfl := hga' (by omega)
        have hltz : (k : Int) < (n : Int) := by omega
        obtain ⟨c1, c2, c3⟩ := (hc.below hB) k hlt
        obtain ⟨c4, c5, c6⟩ := (hc'.below hB) k hlt
        by_cases hk' : K k = K' k
        · have hbt : tkB (K k) (K' k) = true := tkB_iff.2 hk'
          have HEQ := eqT_step Hall.out hk'
          have HEQ' : Hid (∀ j, j < k + 1 → K j = K' j) := HEQ
          clear HEQ hk'
          go_wp2_with fail
          go_region_with (go_at_call 23; refine (eqTok_any _ _ _).mono ?_; rintro e w1 ⟨rfl, hb1⟩)
          all_goals go_wp2
          all_goals
            (go_roundw
             case rel => exact ⟨k + 1, by omega, by go_num, HEQ'.out, hB.drew.trans (hb1.mono hB.size)⟩
             case measure => simp [intOf]; omega)
        · have hbt : tkB (K k) (K' k) = false := tkB_ne hk'
          have HNE : Hid (eqTB n K n K' = false) := eqTB_at hlt hk'
          clear hk'
          go_wp2_with fail
          go_region_with (go_at_call 23; refine (eqTok_any _ _ _).mono ?_; rintro e w1 ⟨rfl, hb1⟩)
          all_goals go_wp2
          all_goals
            (go_ret
             exact ⟨ret_bool HNE.out.symm, hB.drew.trans (hb1.mono hB.size)⟩)
      · go_wp2
        go_ret
        obtain rfl : k = n := by omega
        exact ⟨ret_bool (eqTB_all Hall.out).symm, hB⟩
  · have hnn : ((n : Int) != (m : Int)) = true := by simp; omega
    go_enter Tryz.func8, Tryz.ntmps8
    go_wp2
    go_ret
    exact ⟨ret_bool (eqTB_len hnm).symm, Below.refl _ _⟩

theorem eqTokV (x y : Tk) (w : World) : (Op.equalIn 10000 46 (.agg #[.int .i64 x.r, .int .i64 x.f, .int .i64 x.t]) (.agg #[.int .i64 y.r, .int .i64 y.f, .int .i64 y.t])).run Tryz.prog w = .ok (tkB x y) w := by
  have hS : Tryz.prog.underlying 46 = some (.struct (Tryz.prog.fieldsOf 46)) := by kernel_rfl
  have hp : Tryz.prog.stoodInHeld 46 = false := by kernel_rfl
  have u3 := Tryz.underlying3
  rw [run_equalIn_agg w 9999 _ _ _ hS hp]
  clear hS hp
  simp only [Program.fieldsOf, Tryz.underlying46]
  unfold tkB
  by_cases h0 : x.r = y.r <;> by_cases h1 : x.f = y.f <;> by_cases h2 : x.t = y.t <;> simp [Op.eqFields, go_sem, run_equalIn_int w _ 3 .i64 .i64 _ _ u3, h0, h1, h2, Tryz.sizeOf3]
theorem eqlTok (x y : Tk) (w : World) : (binOp .eql 46 (.agg #[.int .i64 x.r, .int .i64 x.f, .int .i64 x.t]) (.agg #[.int .i64 y.r, .int .i64 y.f, .int .i64 y.t])).run Tryz.prog w = .ok (.bool (tkB x y)) w := by
  rw [run_eql_struct, eqTokV]
  rfl

end Go.Proofs.YtplpdikkkbiacaaGreatDoor

