/- What texts are like a Rex: plain lists of bytes, no Go. -/
import Derived.Test.YtplpdikkkbiacaaGreatDoorBase
import Derived.Test.YtplpdikkkbiacaaGreatDoorMa
namespace Go.Proofs.YtplpdikkkbiacaaGreatDoor
open Go.RowKit
set_option linter.unusedVariables false
set_option linter.unusedSimpArgs false

def tx (s : ByteArray) : List UInt8 := s.data.toList
theorem tx_size (s : ByteArray) : s.size = (tx s).length := (Array.length_toList).symm
end Go.Proofs.YtplpdikkkbiacaaGreatDoor
namespace Go.Proofs.YtplpdikkkbiacaaGreatDoor
open Go.RowKit
set_option linter.unusedVariables false
set_option linter.unusedSimpArgs false

/-- the bytes of a text -/
theorem tx_get (s : ByteArray) (j : Nat) (h : j < s.size) : (tx s)[j]? = some s[j] := by
  rw [List.getElem?_eq_getElem (by rw [← tx_size]; exact h)]
  rfl
theorem tx_extract (s : ByteArray) (f k : Nat) : tx (s.extract f k) = ((tx s).drop f).take (k - f) := by
  simp [tx, List.extract_eq_take_drop]
theorem tx_head (s : ByteArray) (k : Nat) : tx (s.extract 0 k) = (tx s).take k := by rw [tx_extract]; simp
theorem tx_tail (s : ByteArray) (k : Nat) : tx (s.extract k s.size) = (tx s).drop k := by
  rw [tx_extract, tx_size, List.take_of_length_le (by simp)]

/-- one that is like the first, and behind it one that is like the second -/
def cutB (f g : List UInt8 → Bool) (l : List UInt8) : Bool := (List.range (l.length + 1)).any fun k => f (l.take k) && g (l.drop k)
/-- any number of such, one behind the other -/
def starB (f : List UInt8 → Bool) : Nat → List UInt8 → Bool
  | 0, l => l.isEmpty
  | n + 1, l => l.isEmpty || (List.range l.length).any fun k => f (l.take (k + 1)) && starB f n (l.drop (k + 1))
def starS (f : List UInt8 → Bool) (l : List UInt8) : Bool := starB f l.length l
def oneB (n : Nat) (L H : Nat → Int) : List UInt8 → Bool
  | [b] => hasB n L H (b.toNat : Int)
  | _ => false
/-- the text is like it -/
def lkB : Sh → List UInt8 → Bool
  | .node kind n L H m kids => fun l =>
    if kind = 1 then oneB n L H l
    else if kind = 2 then l.isEmpty
    else if kind = 3 then cutB (fun l => if hi : 0 < m then lkB (kids ⟨0, hi⟩) l else false) (fun l => if hi : 1 < m then lkB (kids ⟨1, hi⟩) l else false) l
    else if kind = 4 then (if hi : 0 < m then lkB (kids ⟨0, hi⟩) l else false) || (if hi : 1 < m then lkB (kids ⟨1, hi⟩) l else false)
    else if kind = 5 then starS (fun l => if hi : 0 < m then lkB (kids ⟨0, hi⟩) l else false) l
    else if kind = 6 then (if hi : 0 < m then lkB (kids ⟨0, hi⟩) l else false) && (if hi : 1 < m then lkB (kids ⟨1, hi⟩) l else false)
    else !(if hi : 0 < m then lkB (kids ⟨0, hi⟩) l else false)
theorem lk_1 (n : Nat) (L H : Nat → Int) (m : Nat) (K : Nat → Sh) (l : List UInt8) : lkB (.mk 1 n L H m K) l = oneB n L H l := by simp [Sh.mk, lkB]
theorem lk_2 (n : Nat) (L H : Nat → Int) (m : Nat) (K : Nat → Sh) (l : List UInt8) : lkB (.mk 2 n L H m K) l = l.isEmpty := by simp [Sh.mk, lkB]
theorem lk_3 (n : Nat) (L H : Nat → Int) (K : Nat → Sh) (l : List UInt8) : lkB (.mk 3 n L H 2 K) l = cutB (lkB (K 0)) (lkB (K 1)) l := by simp [Sh.mk, lkB]
theorem lk_4 (n : Nat) (L H : Nat → Int) (K : Nat → Sh) (l : List UInt8) : lkB (.mk 4 n L H 2 K) l = (lkB (K 0) l || lkB (K 1) l) := by simp [Sh.mk, lkB]
theorem lk_5 (n : Nat) (L H : Nat → Int) (K : Nat → Sh) (l : List UInt8) : lkB (.mk 5 n L H 1 K) l = starS (lkB (K 0)) l := by simp [Sh.mk, lkB]
theorem lk_6 (n : Nat) (L H : Nat → Int) (K : Nat → Sh) (l : List UInt8) : lkB (.mk 6 n L H 2 K) l = (lkB (K 0) l && lkB (K 1) l) := by simp [Sh.mk, lkB]
theorem lk_7 (n : Nat) (L H : Nat → Int) (K : Nat → Sh) (l : List UInt8) : lkB (.mk 7 n L H 1 K) l = !lkB (K 0) l := by simp [Sh.mk, lkB]

theorem cutB_iff {f g : List UInt8 → Bool} {l : List UInt8} : cutB f g l = true ↔ ∃ k, k ≤ l.length ∧ f (l.take k) = true ∧ g (l.drop k) = true := by
  simp only [cutB, List.any_eq_true, List.mem_range, Bool.and_eq_true]
  exact ⟨fun ⟨k, h1, h2⟩ => ⟨k, by omega, h2⟩, fun ⟨k, h1, h2⟩ => ⟨k, by omega, h2⟩⟩

/-- pieces one behind the other -/
def Star (f : List UInt8 → Bool) (l : List UInt8) : Prop := ∃ ps : List (List UInt8), ps.flatten = l ∧ ∀ p ∈ ps, f p = true ∧ p ≠ []

theorem star_iff_of (f : List UInt8 → Bool) : ∀ (n : Nat) (l : List UInt8), l.length ≤ n → (starB f n l = true ↔ Star f l)
  | 0, l, h => by
    obtain rfl : l = [] := List.eq_nil_of_length_eq_zero (by omega)
    exact ⟨fun _ => ⟨[], rfl, fun p hp => by cases hp⟩, fun _ => rfl⟩
  | n + 1, l, h => by
    simp only [starB, Bool.or_eq_true, List.isEmpty_iff, List.any_eq_true, List.mem_range, Bool.and_eq_true]
    constructor
    · rintro (rfl | ⟨k, hk, h1, h2⟩)
      · exact ⟨[], rfl, fun p hp => by cases hp⟩
      · obtain ⟨ps, e, hp⟩ := (star_iff_of f n (l.drop (k + 1)) (by simp; omega)).1 h2
        refine ⟨l.take (k + 1) :: ps, by simp [e], fun p hpm => ?_⟩
        rcases List.mem_cons.1 hpm with rfl | hpm
        · exact ⟨h1, fun e => by have := congrArg List.length e; simp only [List.length_take, List.length_drop, List.length_nil] at this; omega⟩
        · exact hp p hpm
    · rintro ⟨ps, e, hp⟩
      cases ps with
      | nil => exact .inl (by simpa using e.symm)
      | cons p ps =>
        obtain ⟨h1, h2⟩ := hp p (by simp)
        subst e
        have hl : 0 < p.length := List.length_pos_iff.2 h2
        refine .inr ⟨p.length - 1, by simp; omega, ?_, ?_⟩
        · rw [show p.length - 1 + 1 = p.length by omega]; simp [h1]
        · rw [show p.length - 1 + 1 = p.length by omega]
          simp only [List.flatten_cons, List.drop_left]
          exact (star_iff_of f n _ (by simp at h ⊢; omega)).2 ⟨ps, rfl, fun q hq => hp q (by simp [hq])⟩
theorem starS_iff {f : List UInt8 → Bool} {l : List UInt8} : starS f l = true ↔ Star f l := star_iff_of f _ l (Nat.le_refl _)
theorem Star.last {f : List UInt8 → Bool} {l : List UInt8} (hne : l ≠ []) : Star f l ↔ ∃ i, i < l.length ∧ Star f (l.take i) ∧ f (l.drop i) = true := by
  constructor
  · rintro ⟨ps, e, hp⟩
    rcases List.eq_nil_or_concat ps with rfl | ⟨qs, q, rfl⟩
    · exact absurd e.symm hne
    · obtain ⟨h1, h2⟩ := hp q (by simp)
      have hl : 0 < q.length := List.length_pos_iff.2 h2
      subst e
      refine ⟨qs.flatten.length, by simp; omega, ?_, ?_⟩
      · simp only [List.concat_eq_append, List.flatten_append, List.take_left]
        exact ⟨qs, rfl, fun p hp' => hp p (by simp [hp'])⟩
      · simp [h1]
  · rintro ⟨i, hi, ⟨ps, e, hp⟩, hf⟩
    refine ⟨ps ++ [l.drop i], by simp [e], fun p hpm => ?_⟩
    rcases List.mem_append.1 hpm with hpm | hpm
    · exact hp p hpm
    · simp only [List.mem_singleton] at hpm
      subst hpm
      exact ⟨hf, fun e => by have := congrArg List.length e; simp only [List.length_take, List.length_drop, List.length_nil] at this; omega⟩
theorem Star.first {f : List UInt8 → Bool} {l : List UInt8} (hne : l ≠ []) : Star f l ↔ ∃ i, 0 < i ∧ i ≤ l.length ∧ f (l.take i) = true ∧ Star f (l.drop i) := by
  constructor
  · rintro ⟨ps, e, hp⟩
    cases ps with
    | nil => exact absurd e.symm hne
    | cons p ps =>
      obtain ⟨h1, h2⟩ := hp p (by simp)
      have hl : 0 < p.length := List.length_pos_iff.2 h2
      subst e
      exact ⟨p.length, hl, by simp, by simp [h1], ⟨ps, by simp, fun q hq => hp q (by simp [hq])⟩⟩
  · rintro ⟨i, h0, hi, hf, ⟨ps, e, hp⟩⟩
    refine ⟨l.take i :: ps, by simp [e], fun p hpm => ?_⟩
    rcases List.mem_cons.1 hpm with rfl | hpm
    · exact ⟨hf, fun e => by have := congrArg List.length e; simp only [List.length_take, List.length_drop, List.length_nil] at this; omega⟩
    · exact hp p hpm

/-- is the text up to k such? -/
def okAt (f : List UInt8 → Bool) (l : List UInt8) (k : Nat) : Bool := starS f (l.take k)
theorem okAt_0 (f : List UInt8 → Bool) (l : List UInt8) : okAt f l 0 = true := rfl
theorem okAt_all (f : List UInt8 → Bool) (l : List UInt8) : okAt f l l.length = starS f l := by simp [okAt]
/-- .. found among the first i places -/
def okTo (f : List UInt8 → Bool) (l : List UInt8) (k i : Nat) : Bool := (List.range i).any fun j => okAt f l j && f ((l.drop j).take (k - j))
theorem okTo_succ (f : List UInt8 → Bool) (l : List UInt8) (k i : Nat) : okTo f l k (i + 1) = (okTo f l k i || (okAt f l i && f ((l.drop i).take (k - i)))) := by
  simp [okTo, List.range_succ]
theorem okTo_all (f : List UInt8 → Bool) (l : List UInt8) (k : Nat) (h0 : 0 < k) (hk : k ≤ l.length) : okTo f l k k = okAt f l k := by
  rw [Bool.eq_iff_iff]
  have hne : l.take k ≠ [] := fun e => by have := congrArg List.length e; simp only [List.length_take, List.length_drop, List.length_nil] at this; omega
  simp only [okTo, List.any_eq_true, List.mem_range, Bool.and_eq_true, okAt, starS_iff]
  rw [Star.last hne]
  constructor
  · rintro ⟨j, hj, h1, h2⟩
    refine ⟨j, by simp; omega, ?_, ?_⟩
    · rw [List.take_take, Nat.min_eq_left (by omega)]; exact h1
    · rw [List.drop_take]; exact h2
  · rintro ⟨j, hj, h1, h2⟩
    have hj' : j < k := by simp at hj; omega
    refine ⟨j, hj', ?_, ?_⟩
    · rw [List.take_take, Nat.min_eq_left (by omega)] at h1; exact h1
    · rw [List.drop_take] at h2; exact h2
theorem okTo_mono {f : List UInt8 → Bool} {l : List UInt8} {k i j : Nat} (h : okTo f l k i = true) (hij : i ≤ j) : okTo f l k j = true := by
  simp only [okTo, List.any_eq_true, List.mem_range] at h ⊢
  obtain ⟨x, hx, h⟩ := h
  exact ⟨x, by omega, h⟩

/-- the piece from i to j is one of the text, and like it -/
def EB (t : List UInt8) (S : Sh) (i j : Nat) : Bool := decide (i ≤ j ∧ j ≤ t.length) && lkB S ((t.drop i).take (j - i))
theorem EB_iff {t : List UInt8} {S : Sh} {i j : Nat} : EB t S i j = true ↔ i ≤ j ∧ j ≤ t.length ∧ lkB S ((t.drop i).take (j - i)) = true := by
  simp [EB, and_assoc]

theorem EB_1 (t : List UInt8) (n : Nat) (L H : Nat → Int) (m : Nat) (K : Nat → Sh) (i j : Nat) : EB t (.mk 1 n L H m K) i j = true ↔ j = i + 1 ∧ ∃ b, t[i]? = some b ∧ hasB n L H (b.toNat : Int) = true := by
  rw [EB_iff, lk_1]
  constructor
  · rintro ⟨h1, h2, h3⟩
    cases h : (t.drop i).take (j - i) with
    | nil => rw [h] at h3; cases h3
    | cons b r =>
      cases r with
      | cons _ _ => rw [h] at h3; cases h3
      | nil =>
        rw [h] at h3
        have hl := congrArg List.length h
        simp at hl
        have e : ((t.drop i).take (j - i))[0]? = some b := by rw [h]; rfl
        rw [List.getElem?_take_of_lt (by omega), List.getElem?_drop] at e
        exact ⟨by omega, b, by simpa using e, h3⟩
  · rintro ⟨rfl, b, hb, hh⟩
    obtain ⟨hlt, _⟩ := List.getElem?_eq_some_iff.1 hb
    refine ⟨by omega, by omega, ?_⟩
    have e : (t.drop i).take (i + 1 - i) = [b] := by
      rw [show i + 1 - i = 1 by omega]
      rw [List.drop_eq_getElem_cons hlt]
      rw [List.getElem?_eq_getElem hlt] at hb
      simp at hb
      simp [hb]
    rw [e]
    exact hh
theorem EB_2 (t : List UInt8) (n : Nat) (L H : Nat → Int) (m : Nat) (K : Nat → Sh) (i j : Nat) (hi : i ≤ t.length) : EB t (.mk 2 n L H m K) i j = (j == i) := by
  rw [Bool.eq_iff_iff, EB_iff, lk_2]
  simp
  omega
theorem EB_4 (t : List UInt8) (n : Nat) (L H : Nat → Int) (K : Nat → Sh) (i j : Nat) : EB t (.mk 4 n L H 2 K) i j = (EB t (K 0) i j || EB t (K 1) i j) := by
  simp only [EB, lk_4]
  cases decide (i ≤ j ∧ j ≤ t.length) <;> simp
theorem EB_6 (t : List UInt8) (n : Nat) (L H : Nat → Int) (K : Nat → Sh) (i j : Nat) : EB t (.mk 6 n L H 2 K) i j = (EB t (K 0) i j && EB t (K 1) i j) := by
  simp only [EB, lk_6]
  cases decide (i ≤ j ∧ j ≤ t.length) <;> simp
theorem EB_7 (t : List UInt8) (n : Nat) (L H : Nat → Int) (K : Nat → Sh) (i j : Nat) : EB t (.mk 7 n L H 1 K) i j = (decide (i ≤ j ∧ j ≤ t.length) && !EB t (K 0) i j) := by
  simp only [EB, lk_7]
  cases decide (i ≤ j ∧ j ≤ t.length) <;> simp

theorem piece_take {t : List UInt8} {i j k : Nat} (h : k ≤ j - i) : ((t.drop i).take (j - i)).take k = (t.drop i).take (i + k - i) := by
  rw [List.take_take, Nat.min_eq_left h, Nat.add_sub_cancel_left]
theorem piece_drop {t : List UInt8} {i j k : Nat} (h : k ≤ j - i) : ((t.drop i).take (j - i)).drop k = (t.drop (i + k)).take (j - (i + k)) := by
  rw [List.drop_take, List.drop_drop, Nat.sub_sub]

theorem EB_3 (t : List UInt8) (n : Nat) (L H : Nat → Int) (K : Nat → Sh) (i j : Nat) : EB t (.mk 3 n L H 2 K) i j = (List.range (t.length + 1)).any fun k => EB t (K 0) i k && EB t (K 1) k j := by
  rw [Bool.eq_iff_iff, EB_iff, lk_3, cutB_iff]
  simp only [List.any_eq_true, List.mem_range, Bool.and_eq_true, EB_iff]
  constructor
  · rintro ⟨h1, h2, k, hk, ha, hb⟩
    simp at hk
    rw [piece_take (by omega)] at ha
    rw [piece_drop (by omega)] at hb
    exact ⟨i + k, by omega, ⟨by omega, by omega, ha⟩, by omega, by omega, hb⟩
  · rintro ⟨k, hk, ⟨h1, h2, ha⟩, h3, h4, hb⟩
    refine ⟨by omega, by omega, k - i, by simp; omega, ?_, ?_⟩
    · rw [piece_take (by omega), show i + (k - i) = k by omega]; exact ha
    · rw [piece_drop (by omega), show i + (k - i) = k by omega]; exact hb

theorem EB_5 (t : List UInt8) (n : Nat) (L H : Nat → Int) (K : Nat → Sh) (i j : Nat) (hi : i ≤ t.length) :
    EB t (.mk 5 n L H 1 K) i j = (j == i || (List.range (t.length + 1)).any fun k => (EB t (K 0) i k && !(k == i)) && EB t (.mk 5 n L H 1 K) k j) := by
  rw [Bool.eq_iff_iff, EB_iff, lk_5, starS_iff]
  simp only [Bool.or_eq_true, List.any_eq_true, List.mem_range, Bool.and_eq_true, EB_iff, lk_5, starS_iff, beq_iff_eq, Bool.not_eq_true', beq_eq_false_iff_ne]
  constructor
  · rintro ⟨h1, h2, h3⟩
    by_cases e : j = i
    · exact .inl e
    · have hne : (t.drop i).take (j - i) ≠ [] := fun e => by have := congrArg List.length e; simp only [List.length_take, List.length_drop, List.length_nil] at this; omega
      obtain ⟨k, h0, hk, ha, hb⟩ := (Star.first hne).1 h3
      simp at hk
      rw [piece_take (by omega)] at ha
      rw [piece_drop (by omega)] at hb
      exact .inr ⟨i + k, by omega, ⟨⟨by omega, by omega, ha⟩, by omega⟩, by omega, by omega, hb⟩
  · rintro (rfl | ⟨k, hk, ⟨⟨h1, h2, ha⟩, hne⟩, h3, h4, hb⟩)
    · exact ⟨Nat.le_refl _, hi, by rw [Nat.sub_self]; exact ⟨[], rfl, fun p hp => by cases hp⟩⟩
    · have hne' : (t.drop i).take (j - i) ≠ [] := fun e => by have := congrArg List.length e; simp only [List.length_take, List.length_drop, List.length_nil] at this; omega
      refine ⟨by omega, by omega, (Star.first hne').2 ⟨k - i, by omega, by simp; omega, ?_, ?_⟩⟩
      · rw [piece_take (by omega), show i + (k - i) = k by omega]; exact ha
      · rw [piece_drop (by omega), show i + (k - i) = k by omega]; exact hb
end Go.Proofs.YtplpdikkkbiacaaGreatDoor

