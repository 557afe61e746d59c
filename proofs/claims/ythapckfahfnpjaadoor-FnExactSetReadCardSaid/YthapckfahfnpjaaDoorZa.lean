/- (converted from r1, not built yet) Texts of sets: the pieces between commas, the words of spans of bytes, and how they are read back; no Go text is walked here. -/
import Derived.Test.YthapckfahfnpjaaDoorVb
import Derived.Test.YthapckfahfnpjaaDoorWm
import Derived.Lib.SplitLaws
import Derived.Lib.AtoiAll
import Derived.Lib.IndexBytes
namespace Go.Proofs.YthapckfahfnpjaaDoor
open Go.RowKit

/-- the pieces between commas -/
def cw : List UInt8 → List (List UInt8)
  | [] => [[]]
  | c :: l => if c = 44 then [] :: cw l else (c :: (cw l).headD []) :: (cw l).tail

theorem cw_free : ∀ (x : List UInt8), (∀ c ∈ x, c ≠ 44) → cw x = [x]
  | [], _ => rfl
  | c :: l, h => by
    rw [cw, if_neg (h c (by simp)), cw_free l (fun d hd => h d (by simp [hd]))]
    rfl
theorem cw_append : ∀ (x l : List UInt8), (∀ c ∈ x, c ≠ 44) → cw (x ++ 44 :: l) = x :: cw l
  | [], l, _ => by simp [cw]
  | c :: x, l, h => by
    rw [List.cons_append, cw, if_neg (h c (by simp)), cw_append x l (fun d hd => h d (by simp [hd]))]
    rfl
theorem cw_tail : ∀ (xs : List (List UInt8)) (y : List UInt8), (∀ x ∈ xs, ∀ c ∈ x, c ≠ 44) → (∀ c ∈ y, c ≠ 44) → cw (y ++ Lib.joinTail [44] xs) = y :: xs
  | [], y, _, h => by simpa [Lib.joinTail] using cw_free y h
  | x :: xs, y, hx, h => by
    have e : Lib.joinTail [44] (x :: xs) = 44 :: (x ++ Lib.joinTail [44] xs) := by simp [Lib.joinTail]
    rw [e, cw_append _ _ h, cw_tail xs x (fun z hz => hx z (by simp [hz])) (hx x (by simp))]
theorem cw_join (xs : List (List UInt8)) (hne : xs ≠ []) (h : ∀ x ∈ xs, ∀ c ∈ x, c ≠ 44) : cw (Lib.join xs [44]) = xs := by
  cases xs with
  | nil => exact absurd rfl hne
  | cons y ys =>
    rw [Lib.join_cons]
    exact cw_tail ys y (fun x hx => h x (by simp [hx])) (h y (by simp))

theorem indexByte_free : ∀ (l : List UInt8) (c : UInt8), (∀ d ∈ l, d ≠ c) → Lib.indexByte l c = -1
  | [], _, _ => rfl
  | b :: l, c, h => by
    have e : (b == c) = false := by simpa using h b (by simp)
    rw [Lib.indexByte, e, indexByte_free l c (fun d hd => h d (by simp [hd]))]
    rfl
theorem indexByte_at : ∀ (x l : List UInt8) (c : UInt8), (∀ d ∈ x, d ≠ c) → Lib.indexByte (x ++ c :: l) c = (x.length : Int)
  | [], l, c, _ => by simp [Lib.indexByte]
  | b :: x, l, c, h => by
    have e : (b == c) = false := by simpa using h b (by simp)
    rw [List.cons_append, Lib.indexByte, e, indexByte_at x l c (fun d hd => h d (by simp [hd]))]
    rw [if_neg (by simp), if_neg (by simp)]
    simp
theorem first_of (c : UInt8) : ∀ l : List UInt8, (∀ d ∈ l, d ≠ c) ∨ ∃ x r, l = x ++ c :: r ∧ ∀ d ∈ x, d ≠ c
  | [] => .inl (by simp)
  | b :: l => by
    by_cases e : b = c
    · exact .inr ⟨[], l, by simp [e], by simp⟩
    · rcases first_of c l with h | ⟨x, r, rfl, h⟩
      · exact .inl (by simpa [e] using h)
      · exact .inr ⟨b :: x, r, rfl, by simpa [e] using h⟩
theorem split_cw : ∀ (k : Nat) (l : List UInt8), l.length ≤ k → Lib.splitK [44] 0 (Lib.count l [44]) l = cw l
  | k, l, hk => by
    rcases first_of 44 l with h | ⟨x, r, rfl, h⟩
    · rw [Lib.count_miss (by rw [Lib.index_one]; exact indexByte_free l 44 h), cw_free l h]
      rfl
    · have hi : Lib.index (x ++ 44 :: r) [44] = ((x.length : Nat) : Int) := by rw [Lib.index_one]; exact indexByte_at x r 44 h
      have ed : (x ++ 44 :: r).drop (x.length + 1) = r := by rw [← List.drop_drop]; simp
      have et : (x ++ 44 :: r).take (x.length + 0) = x := by simp
      cases k with
      | zero => simp at hk
      | succ k =>
        have ih := split_cw k r (by simp at hk; omega)
        rw [Lib.count_hit (by simp) hi, Nat.add_comm, Lib.splitK, hi, if_neg (by simp), cw_append x r h]
        simp only [Int.toNat_natCast, List.length_cons, List.length_nil, Nat.zero_add, ed, et, ih]

theorem dec3 (u : Nat) (h : u < 256) : (u < 10 ∧ Lib.decDigits u = [UInt8.ofNat (48 + u)]) ∨ (10 ≤ u ∧ u < 100 ∧ Lib.decDigits u = [UInt8.ofNat (48 + u / 10), UInt8.ofNat (48 + u % 10)]) ∨
    (100 ≤ u ∧ Lib.decDigits u = [UInt8.ofNat (48 + u / 10 / 10), UInt8.ofNat (48 + u / 10 % 10), UInt8.ofNat (48 + u % 10)]) := by
  by_cases h1 : u < 10
  · exact .inl ⟨h1, Lib.decDigits_one h1⟩
  · by_cases h2 : u < 100
    · exact .inr (.inl ⟨by omega, h2, Lib.decDigits_two h1 h2⟩)
    · refine .inr (.inr ⟨by omega, ?_⟩)
      rw [Lib.decDigits, dif_neg h1, Lib.decDigits_two (by omega) (by omega)]
      rfl

theorem itoa_of_nat (u : Nat) : Lib.itoa (u : Int) = Lib.decDigits u := by
  unfold Lib.itoa; rw [if_neg (by omega)]; simp

theorem dig_nat (k : Nat) (h : k < 10) : (UInt8.ofNat (48 + k)).toNat = 48 + k := by
  rw [UInt8.toNat_ofNat']; omega

/-- a digit -/
def Dig (c : UInt8) : Prop := 48 ≤ c.toNat ∧ c.toNat ≤ 57
theorem dig_of (k : Nat) (h : k < 10) : Dig (UInt8.ofNat (48 + k)) := by unfold Dig; rw [dig_nat k h]; omega
theorem Dig.ne {c : UInt8} (h : Dig c) : c ≠ 44 ∧ c ≠ 45 ∧ c ≠ 110 := by
  unfold Dig at h
  refine ⟨?_, ?_, ?_⟩ <;> (rintro rfl; revert h; decide)

theorem dig_itoa (u : Nat) (h : u < 256) : ∀ c ∈ Lib.decDigits u, Dig c := by
  intro c hc
  rcases dec3 u h with ⟨h1, e⟩ | ⟨h1, h2, e⟩ | ⟨h1, e⟩
  · rw [e] at hc
    simp only [List.mem_cons, List.not_mem_nil, or_false] at hc
    subst hc
    exact dig_of u h1
  · rw [e] at hc
    simp only [List.mem_cons, List.not_mem_nil, or_false] at hc
    rcases hc with rfl | rfl
    · exact dig_of _ (by omega)
    · exact dig_of _ (by omega)
  · rw [e] at hc
    simp only [List.mem_cons, List.not_mem_nil, or_false] at hc
    rcases hc with rfl | rfl | rfl
    · exact dig_of _ (by omega)
    · exact dig_of _ (by omega)
    · exact dig_of _ (by omega)

/-- what digits spell -/
def val (l : List UInt8) : Nat := l.foldl (fun a b => a * 10 + (b.toNat - 48)) 0
theorem val_itoa (u : Nat) (h : u < 256) : val (Lib.decDigits u) = u := by
  rcases dec3 u h with ⟨h1, e⟩ | ⟨h1, h2, e⟩ | ⟨h1, e⟩
  · rw [e]; simp only [val, List.foldl_cons, List.foldl_nil]; rw [dig_nat u h1]; omega
  · rw [e]; simp only [val, List.foldl_cons, List.foldl_nil]; rw [dig_nat _ (by omega), dig_nat _ (by omega)]; omega
  · rw [e]; simp only [val, List.foldl_cons, List.foldl_nil]; rw [dig_nat _ (by omega), dig_nat _ (by omega), dig_nat _ (by omega)]; omega
theorem fold_ge : ∀ (l : List UInt8) (a : Nat), a ≤ l.foldl (fun a b => a * 10 + (b.toNat - 48)) a
  | [], a => Nat.le_refl _
  | c :: r, a => by
    rw [List.foldl_cons]
    exact Nat.le_trans (by omega) (fold_ge r _)
theorem parse_digits : ∀ (l : List UInt8) (a : Nat), (∀ c ∈ l, Dig c) → l.foldl (fun a b => a * 10 + (b.toNat - 48)) a < 1844674407370955162 → Lib.parseUint10 a l = .ok (l.foldl (fun a b => a * 10 + (b.toNat - 48)) a)
  | [], a, _, _ => rfl
  | c :: r, a, hd, hlt => by
    have hc : 48 ≤ c.toNat ∧ c.toNat ≤ 57 := hd c (by simp)
    rw [List.foldl_cons] at hlt ⊢
    have hg := fold_ge r (a * 10 + (c.toNat - 48))
    rw [Lib.parseUint10, if_pos hc, if_neg (by omega), if_neg (by omega)]
    exact parse_digits r _ (fun d h => hd d (by simp [h])) hlt
theorem atoi_digits (l : List UInt8) (hne : l ≠ []) (hd : ∀ c ∈ l, Dig c) (hlt : val l < 1844674407370955162) : Lib.atoiAll l = .ok (val l : Int) := by
  cases l with
  | nil => exact absurd rfl hne
  | cons c r =>
    have hc := hd c (by simp)
    unfold Dig at hc
    have hp : Lib.parseMag (c :: r) = .ok (val (c :: r)) := by
      rw [Lib.parseMag, if_neg (by simp)]
      exact parse_digits (c :: r) 0 hd hlt
    simp only [Lib.atoiAll]
    rw [if_neg (by omega), hp]
    simp only []
    rw [if_neg (by omega), if_neg (by omega), if_neg (by omega)]
theorem itoa_ne' (u : Nat) : Lib.decDigits u ≠ [] := by rw [← itoa_of_nat]; exact itoa_ne _
theorem atoi_itoa (u : Nat) (h : u < 256) : Lib.atoiAll (Lib.decDigits u) = .ok (u : Int) := by
  have hv := val_itoa u h
  rw [atoi_digits _ (itoa_ne' u) (dig_itoa u h) (by omega), hv]

/-- a span of bytes -/
def By (x y : Int) : Prop := 0 ≤ x ∧ x ≤ y ∧ y ≤ 255
theorem By.nat {x y : Int} (h : By x y) : ∃ u v : Nat, x = u ∧ y = v ∧ u ≤ v ∧ v < 256 := ⟨x.toNat, y.toNat, by unfold By at h; omega, by unfold By at h; omega, by unfold By at h; omega, by unfold By at h; omega⟩
theorem spanT_nat (u v : Nat) : spanT (u : Int) (v : Int) = if v = u then Lib.decDigits u else Lib.decDigits u ++ 45 :: Lib.decDigits v := by
  unfold spanT
  rw [itoa_of_nat, itoa_of_nat]
  by_cases e : v = u
  · rw [if_pos (by omega), if_pos e]
  · rw [if_neg (by omega), if_neg e]; simp
theorem spanT_bytes {x y : Int} (h : By x y) : ∀ c ∈ spanT x y, Dig c ∨ c = 45 := by
  obtain ⟨u, v, rfl, rfl, h1, h2⟩ := h.nat
  rw [spanT_nat]
  intro c hc
  split at hc
  · exact .inl (dig_itoa u (by omega) c hc)
  · simp at hc
    rcases hc with hc | rfl | hc
    · exact .inl (dig_itoa u (by omega) c hc)
    · exact .inr rfl
    · exact .inl (dig_itoa v (by omega) c hc)
theorem spanT_free {x y : Int} (h : By x y) : ∀ c ∈ spanT x y, c ≠ 44 := by
  intro c hc
  rcases spanT_bytes h c hc with d | rfl
  · exact d.ne.1
  · decide

theorem cut_span {u v : Nat} (h1 : u ≤ v) (h2 : v < 256) : Lib.cut (spanT (u : Int) (v : Int)) [45] = if v = u then (Lib.decDigits u, [], false) else (Lib.decDigits u, Lib.decDigits v, true) := by
  rw [spanT_nat]
  by_cases e : v = u
  · rw [if_pos e, if_pos e, Lib.cut, Lib.index_one, indexByte_free _ _ (fun d hd => (dig_itoa u (by omega) d hd).ne.2.1), if_neg (by decide)]
  · rw [if_neg e, if_neg e, Lib.cut, Lib.index_one, indexByte_at _ _ _ (fun d hd => (dig_itoa u (by omega) d hd).ne.2.1), if_pos (by omega)]
    simp only [Int.toNat_natCast, List.length_cons, List.length_nil, Nat.zero_add]
    rw [← List.drop_drop]
    simp

/-- this is the text of that set -/
def Canon (t : List UInt8) (R : List (Int × Int)) : Prop := okB R.length (rl R) (rh R) = true ∧ setT R.length (rl R) (rh R) = t

theorem canon_by {t : List UInt8} {R : List (Int × Int)} (h : Canon t R) (j : Nat) (hj : j < R.length) : By (rl R j) (rh R j) := by
  have := okB_iff.1 h.1 j hj
  unfold OkAt at this
  unfold By
  omega
theorem canon_words {t : List UInt8} {R : List (Int × Int)} (h : Canon t R) (hne : R ≠ []) : cw t = spansT (rl R) (rh R) R.length := by
  have hl : R.length ≠ 0 := by simpa using hne
  rw [← h.2, setT, if_neg hl, joinT]
  refine cw_join _ (fun e => ?_) (fun x hx => ?_)
  · have := congrArg List.length e
    simp [spansT] at this
    exact hne this
  · simp only [spansT, List.mem_map, List.mem_range] at hx
    obtain ⟨j, hj, rfl⟩ := hx
    exact spanT_free (canon_by h j hj)
theorem canon_nil : Canon [110, 111] [] := ⟨rfl, rfl⟩
theorem canon_no {R : List (Int × Int)} (h : Canon [110, 111] R) : R = [] := by
  by_cases hne : R = []
  · exact hne
  · exfalso
    have hw := canon_words h hne
    have hl : 0 < R.length := List.length_pos_iff.2 hne
    have e : cw [110, 111] = [[110, 111]] := cw_free _ (by decide)
    rw [e] at hw
    have h0 := congrArg (·[0]?) hw
    simp [spansT, hl] at h0
    have hb := spanT_bytes (canon_by h 0 hl) 110 (by rw [← h0]; simp)
    rcases hb with d | d
    · exact d.ne.2.2 rfl
    · revert d; decide
theorem canon_not_nil {t : List UInt8} {R : List (Int × Int)} (h : Canon t R) (ht : t ≠ [110, 111]) : R ≠ [] := by
  rintro rfl
  exact ht h.2.symm

/-- R is read off these words -/
def Reads (ws : List (List UInt8)) (R : List (Int × Int)) : Prop := R.length ≤ ws.length ∧ ∀ (j : Nat) (x y : Int), j < R.length → By x y → ws[j]? = some (spanT x y) → R[j]? = some (x, y)
theorem reads_nil (ws : List (List UInt8)) : Reads ws [] := ⟨by simp, fun j x y hj => by simp at hj⟩
theorem reads_snoc {ws : List (List UInt8)} {R : List (Int × Int)} {p : Int × Int} {w : List UInt8} (h : Reads ws R) (hw : ws[R.length]? = some w) (hp : ∀ x y, By x y → w = spanT x y → p = (x, y)) : Reads ws (R ++ [p]) := by
  have hlt : R.length < ws.length := by
    rcases Nat.lt_or_ge R.length ws.length with h1 | h1
    · exact h1
    · rw [List.getElem?_eq_none h1] at hw; cases hw
  refine ⟨by simp; omega, fun j x y hj hb e => ?_⟩
  by_cases ej : j = R.length
  · subst ej
    rw [hw] at e
    simp [hp x y hb (Option.some.inj e)]
  · have hj' : j < R.length := by simp at hj; omega
    rw [List.getElem?_append_left hj']
    exact h.2 j x y hj' hb e
theorem reads_canon {t : List UInt8} {R R' : List (Int × Int)} (h : Reads (cw t) R) (hl : R.length = (cw t).length) (hc : Canon t R') (ht : t ≠ [110, 111]) : R' = R := by
  have hw := canon_words hc (canon_not_nil hc ht)
  have hlen : (cw t).length = R'.length := by rw [hw]; simp [spansT]
  apply List.ext_getElem?
  intro j
  by_cases hj : j < R'.length
  · have e : (cw t)[j]? = some (spanT (rl R' j) (rh R' j)) := by rw [hw]; simp [spansT, hj]
    rw [h.2 j _ _ (by omega) (canon_by hc j hj) e]
    simp [rl, rh, List.getD, hj]
  · rw [List.getElem?_eq_none (by omega), List.getElem?_eq_none (by omega)]
theorem bad_canon {t : List UInt8} {R' : List (Int × Int)} {j : Nat} {w : List UInt8} (hw : (cw t)[j]? = some w) (hbad : ∀ x y, By x y → w ≠ spanT x y) (ht : t ≠ [110, 111]) : ¬ Canon t R' := by
  intro hc
  have hws := canon_words hc (canon_not_nil hc ht)
  rw [hws] at hw
  have hj : j < R'.length := by
    rcases Nat.lt_or_ge j R'.length with h1 | h1
    · exact h1
    · rw [List.getElem?_eq_none (by simp [spansT]; exact h1)] at hw; cases hw
  simp [spansT, hj] at hw
  exact hbad _ _ (canon_by hc j hj) hw.symm
end Go.Proofs.YthapckfahfnpjaaDoor

