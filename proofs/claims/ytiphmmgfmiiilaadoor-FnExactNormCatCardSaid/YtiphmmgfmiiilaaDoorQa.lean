/- One behind the other, made simple: plain trees; and where one with two kids lies. -/
import Derived.Test.YtiphmmgfmiiilaaDoorNl
namespace Go.Proofs.YtiphmmgfmiiilaaDoor
open Go.RowKit Go.Shelf
set_option linter.unusedVariables false
set_option linter.unusedSimpArgs false

/-- one of that kind, with two kids -/
def twoS (k : Int) (A B : Sh) : Sh := .mk k 0 (fun _ => 0) (fun _ => 0) 2 (fun i => if i = 0 then A else B)
theorem twoS_cnt (k : Int) (A B : Sh) : cnt (twoS k A B) = 2 + cnt A + cnt B := by
  simp [twoS, cnt_mk, sumN]
  omega
def catR : Sh → Sh → Sh
  | .node kind n L H m kids, B =>
    if (kind == 1 && n == 0) || noB B then zeroS 1
    else if kind = 2 then B
    else if B.kind = 2 then .node kind n L H m kids
    else if h : kind = 3 ∧ 1 < m then catR (kids ⟨0, Nat.lt_trans Nat.zero_lt_one h.2⟩) (catR (kids ⟨1, h.2⟩) B)
    else twoS 3 (.node kind n L H m kids) B
theorem catR_no {A B : Sh} (h : (noB A || noB B) = true) : catR A B = zeroS 1 := by
  obtain ⟨kind, n, L, H, m, kids⟩ := A
  have h' : ((kind == 1 && n == 0) || noB B) = true := h
  rw [catR, if_pos h']
theorem catR_e1 {A B : Sh} (h : (noB A || noB B) = false) (hk : A.kind = 2) : catR A B = B := by
  obtain ⟨kind, n, L, H, m, kids⟩ := A
  have h' : ¬ (((kind == 1 && n == 0) || noB B) = true) := by rw [Bool.not_eq_true]; exact h
  rw [catR, if_neg h', if_pos hk]
theorem catR_e2 {A B : Sh} (h : (noB A || noB B) = false) (hk : A.kind ≠ 2) (hb : B.kind = 2) : catR A B = A := by
  obtain ⟨kind, n, L, H, m, kids⟩ := A
  have h' : ¬ (((kind == 1 && n == 0) || noB B) = true) := by rw [Bool.not_eq_true]; exact h
  rw [catR, if_neg h', if_neg hk, if_pos hb]
theorem catR_cat {A B : Sh} (h : (noB A || noB B) = false) (hk : A.kind = 3) (hb : B.kind ≠ 2) (hm : 1 < A.m) : catR A B = catR (A.kidAt 0) (catR (A.kidAt 1) B) := by
  obtain ⟨kind, n, L, H, m, kids⟩ := A
  have h' : ¬ (((kind == 1 && n == 0) || noB B) = true) := by rw [Bool.not_eq_true]; exact h
  have hk2 : ¬ kind = 2 := by have : kind = 3 := hk; omega
  have hm' : 1 < m := hm
  rw [catR, if_neg h', if_neg hk2, if_neg hb, dif_pos ⟨hk, hm⟩, Sh.kidAt, Sh.kidAt, dif_pos (show 0 < (Sh.node kind n L H m kids).m from by show 0 < m; omega), dif_pos (show 1 < (Sh.node kind n L H m kids).m from hm)]
theorem catR_two {A B : Sh} (h : (noB A || noB B) = false) (hk : A.kind ≠ 2) (hb : B.kind ≠ 2) (h3 : A.kind ≠ 3) : catR A B = twoS 3 A B := by
  obtain ⟨kind, n, L, H, m, kids⟩ := A
  have h' : ¬ (((kind == 1 && n == 0) || noB B) = true) := by rw [Bool.not_eq_true]; exact h
  rw [catR, if_neg h', if_neg hk, if_neg hb, dif_neg (fun e => h3 e.1)]
theorem catR_cnt (A : Sh) : ∀ B, cnt (catR A B) ≤ cnt A + cnt B + 2 := by
  induction A using Sh.ind2 with
  | h A ih =>
    intro B
    cases h : (noB A || noB B) with
    | true => rw [catR_no h, zeroS_cnt]; omega
    | false =>
      by_cases h2 : A.kind = 2
      · rw [catR_e1 h h2]; omega
      · by_cases hb : B.kind = 2
        · rw [catR_e2 h h2 hb]; omega
        · by_cases h3 : A.kind = 3 ∧ 1 < A.m
          · rw [catR_cat h h3.1 hb h3.2]
            have e1 := ih 0 (by omega) (catR (A.kidAt 1) B)
            have e2 := ih 1 h3.2 B
            have e3 : cnt (A.kidAt 0) + cnt (A.kidAt 1) + 2 ≤ cnt A := by
              have := sumN_le (f := fun i => cnt (A.kidAt i)) (show 2 ≤ A.m from h3.2)
              rw [cnt_at A]
              simp only [sumN] at this
              omega
            omega
          · obtain ⟨kind, n, L, H, m, kids⟩ := A
            have h' : ¬ (((kind == 1 && n == 0) || noB B) = true) := by rw [Bool.not_eq_true]; exact h
            rw [catR, if_neg h', if_neg h2, if_neg hb, dif_neg h3, twoS_cnt]
            omega
/-- where one with two kids lies -/
def twoM (b : Nat) (M N : Mx) : Mx := .mk (.slice none 0 0) (.slice (some ⟨b, 0, none⟩) 2 2) (fun i => if i = 0 then M else N)
theorem two_inB {B : Nat → Prop} {w : World} {S T : Sh} {M N : Mx} {b : Nat} (k : Int) (hB : B b) (h : In B w S M) (h' : In B w T N) (hk : Kid w b 0 S M) (hk' : Kid w b 3 T N) : In B w (twoS k S T) (twoM b M N) := by
  refine ⟨none, 0, 0, 0, some ⟨b, 0, none⟩, b, 0, 2, rfl, fun h => absurd h (Nat.lt_irrefl _), fun i hi => absurd hi (Nat.not_lt_zero _), by omega, rfl, fun _ => ⟨rfl, hB⟩, by omega, fun i hi => ?_⟩
  rcases (show i = 0 ∨ i = 1 by omega) with rfl | rfl
  · exact ⟨hk, h⟩
  · exact ⟨hk', h'⟩
theorem In.and {B B' : Nat → Prop} {w : World} {S : Sh} {M : Mx} (h : In B w S M) (h' : In B' w S M) : In (fun k => B k ∧ B' k) w S M := h.ofBl (fun x hx => ⟨h.bl_mem x hx, h'.bl_mem x hx⟩)
theorem good3 {S : Sh} (h : allB S = true) (hk : S.kind = 3) : 1 < S.m := by
  have hg := ((allB_at S).1 h).1
  obtain ⟨kind, n, L, H, m, kids⟩ := S
  change goodB kind n L H m = true at hg
  simp only [Bool.and_eq_true, goodB, beq_iff_eq] at hg
  have h1 := hg.1.1
  rw [show kind = 3 from hk, show kidsOf 3 = 2 from rfl] at h1
  show 1 < m
  omega
theorem kid_all {S : Sh} (h : allB S = true) {i : Nat} (hi : i < S.m) : allB (S.kidAt i) = true := ((allB_at S).1 h).2 i hi
theorem below_three (w : World) (o1 o2 o3 : Obj) : Below w.heap.size w (((w.alloc o1).alloc o2).alloc o3) := (below_two _ _ _).trans ((below_new _ _).mono (by rw [size_new, size_new]; omega))
end Go.Proofs.YtiphmmgfmiiilaaDoor

