/- A list of kids as an own row; the walks of l2Kids and l2Rex. -/
import Derived.Test.YtkbhljpdneibaaaDoorDg
import Derived.Deep.RegionLaw
namespace Go.Proofs.YtkbhljpdneibaaaDoor
open Go.RowKit
set_option linter.unusedVariables false
set_option linter.unusedSimpArgs false

def enc3 (p : Sh × Mx) : List Value := [.int .i64 p.1.kind, p.2.sv, p.2.kv]
def encK (ks : List (Sh × Mx)) : List Value := ks.flatMap enc3
theorem encK_append (x y : List (Sh × Mx)) : encK (x ++ y) = encK x ++ encK y := by simp [encK]
theorem encK_one (p : Sh × Mx) : encK [p] = enc3 p := by simp [encK]
theorem encK_at {ks : List (Sh × Mx)} {i : Nat} {p : Sh × Mx} (h : ks[i]? = some p) : (encK ks)[i * 3]? = some (.int .i64 p.1.kind) ∧ (encK ks)[i * 3 + 1]? = some p.2.sv ∧ (encK ks)[i * 3 + 2]? = some p.2.kv := by
  induction ks generalizing i with
  | nil => simp at h
  | cons q r ih =>
    have e : encK (q :: r) = .int .i64 q.1.kind :: q.2.sv :: q.2.kv :: encK r := rfl
    cases i with
    | zero => simp at h; subst h; rw [e]; exact ⟨rfl, rfl, rfl⟩
    | succ i =>
      have := ih (i := i) (by simpa using h)
      rw [e, show (i + 1) * 3 = i * 3 + 3 by omega, show i * 3 + 3 + 1 = (i * 3 + 1) + 3 by omega, show i * 3 + 3 + 2 = (i * 3 + 2) + 3 by omega]
      simpa using this

/-- one made of a kind and kids that lie in an own row -/
def nodeS (k : Int) (ks : List (Sh × Mx)) : Sh := .mk k 0 (fun _ => 0) (fun _ => 0) ks.length (fun i => ((ks[i]?).getD (leafS 0 0 (fun _ => 0) (fun _ => 0), .no)).1)
def nodeM (v : Value) (ks : List (Sh × Mx)) : Mx := .mk (.slice none 0 0) v (fun i => ((ks[i]?).getD (leafS 0 0 (fun _ => 0) (fun _ => 0), .no)).2)
def sumC : List (Sh × Mx) → Nat
  | [] => 0
  | p :: r => cnt p.1 + sumC r
theorem sumC_append (x y : List (Sh × Mx)) : sumC (x ++ y) = sumC x + sumC y := by
  induction x with
  | nil => simp [sumC]
  | cons p r ih => simp only [List.cons_append, sumC, ih]; omega
theorem sumN_snoc (ks : List (Sh × Mx)) : sumN (fun i => cnt ((ks[i]?).getD (leafS 0 0 (fun _ => 0) (fun _ => 0), .no)).1) ks.length = sumC ks := by
  have key : ∀ n, n ≤ ks.length → sumN (fun i => cnt ((ks[i]?).getD (leafS 0 0 (fun _ => 0) (fun _ => 0), .no)).1) n = sumC (ks.take n) := by
    intro n
    induction n with
    | zero => intro _; rfl
    | succ n ih =>
      intro hn
      rw [sumN, ih (by omega), List.take_succ_eq_append_getElem (by omega), sumC_append]
      simp [List.getElem?_eq_getElem (show n < ks.length by omega), sumC]
  have h := key ks.length (Nat.le_refl _)
  rw [List.take_length] at h
  exact h
theorem node_cnt (k : Int) (ks : List (Sh × Mx)) : cnt (nodeS k ks) = ks.length + sumC ks := by
  rw [nodeS, cnt_mk, sumN_snoc]; omega
theorem node_in {w : World} {base : Nat} {v : Value} {ks : List (Sh × Mx)} (k : Int) (h : w.ownsRow base 26 3 v ks.length (encK ks)) (hk : ∀ p ∈ ks, In (fun x => base ≤ x ∧ Soft w x) w p.1 p.2) (hl : ks.length ≤ 2097152) : In (fun x => base ≤ x ∧ Soft w x) w (nodeS k ks) (nodeM v ks) := by
  rcases h.2 with ⟨rfl, h0⟩ | ⟨g, cap, cur, rfl, h1, h2, h3, h4, h5, h6⟩
  · have : ks = [] := List.eq_nil_of_length_eq_zero h0
    subst this
    exact ⟨none, 0, 0, 0, none, 0, 0, 0, rfl, fun h => absurd h (Nat.lt_irrefl _), fun i hi => absurd hi (Nat.not_lt_zero _), by omega, rfl, fun h => absurd h (Nat.lt_irrefl _), by simp, fun i hi => absurd hi (Nat.not_lt_zero _)⟩
  · refine ⟨none, 0, 0, 0, some ⟨g, 0, none⟩, g, 0, cap, rfl, fun h => absurd h (Nat.lt_irrefl _), fun i hi => absurd hi (Nat.not_lt_zero _), by omega, rfl, fun _ => ⟨rfl, h1, cur, 26, h2⟩, by omega, fun i hi => ?_⟩
    obtain ⟨p, hp⟩ : ∃ p, ks[i]? = some p := ⟨ks[i], List.getElem?_eq_getElem hi⟩
    obtain ⟨c0, c1, c2⟩ := encK_at hp
    have e : (nodeM (.slice (some ⟨g, 0, none⟩) ks.length cap) ks).kid i = p.2 := by show ((ks[i]?).getD _).2 = _; rw [hp]; rfl
    have e' : ((ks[i]?).getD (leafS 0 0 (fun _ => 0) (fun _ => 0), Mx.no)).1 = p.1 := by rw [hp]; rfl
    rw [e]
    show Kid w g (0 + i * 3) ((ks[i]?).getD _).1 p.2 ∧ In _ w ((ks[i]?).getD _).1 p.2
    rw [e']
    refine ⟨⟨?_, ?_, ?_⟩, hk p (List.mem_of_getElem? hp)⟩
    · rw [Nat.zero_add, World.ownsRow.cellAt h _ (by omega)]; exact c0
    · rw [Nat.zero_add, World.ownsRow.cellAt h _ (by omega)]; exact c1
    · rw [Nat.zero_add, World.ownsRow.cellAt h _ (by omega)]; exact c2

/-- a kid put behind the others, as one step of a region that draws -/
theorem step_kid {ops : Array Oper} {o : Oper} {a : Act} {w : World} {K : Act → World → Prop} {Q : Exit → Act → World → Prop} {E : Prop}
    (hg : o.guard = none) (s x : Operand) (hop : o.op = Op.call { callee := Callee.builtin Builtin.append, args := #[s, x], argTypes := #[24, 24] })
    (base q : Nat) (g : Option Addr) (c : Nat) (xs : List Value) (hs : a.eval s = .slice g q c) (hown : w.ownsRow base 26 3 (.slice g q c) q xs)
    (b : Nat) (hx : a.eval x = .slice (some ⟨b, 0, none⟩) 1 1) (v0 v1 v2 : Value) (c0 : w.cell? ⟨b, 0, none⟩ = some v0) (c1 : w.cell? ⟨b, 1, none⟩ = some v1) (c2 : w.cell? ⟨b, 2, none⟩ = some v2)
    (h1 : ∀ u ∈ [v0, v1, v2], u.oneCell' = true) (hq : q ≤ 4194304) (hbase : base ≤ w.heap.size)
    (hK : ∀ g' c' w', w'.ownsRow base 26 3 (.slice (some ⟨g', 0, none⟩) (q + 1) c') (q + 1) (xs ++ [v0, v1, v2]) → w.grownBy w' (Value.ownBlock (.slice g q c)) → (some g' = Value.ownBlock (.slice g q c) ∨ g' = w.heap.size) →
      K (a.put o.dst (.slice (some ⟨g', 0, none⟩) (q + 1) c')) w') :
    if Region.wanted o (yielded ops a.tmps) = true then Oper.wp Tryd.prog o a w K Q else E := by
  have hw : Region.wanted o (yielded ops a.tmps) = true := by simp [Region.wanted, hg]
  rw [if_pos hw]
  obtain ⟨i0, hi, hz0, hz1, hz2⟩ := info_parts Tryd.info26
  obtain ⟨v', w', hrun, r1, r2, r3, r4⟩ := run_append_own_at (P := Tryd.prog) w base 24 o.type 26 i0 _ 3 56 Tryd.underlying24 hi hz0 hz1 hz2 (by simp [Value.cells]) (by omega) (.slice g q c) q xs hown ⟨b, 0, none⟩ 1 1 [v0, v1, v2] rfl
    (fun j u hj => by
      match j, hj with
      | 0, hj => simp at hj; subst hj; simpa [Addr.add] using c0
      | 1, hj => simp at hj; subst hj; simpa [Addr.add] using c1
      | 2, hj => simp at hj; subst hj; simpa [Addr.add] using c2
      | n + 3, hj => simp at hj) h1 (by unfold maxLen; omega) (by omega) hbase
  have hform : ∃ g' c', v' = .slice (some ⟨g', 0, none⟩) (q + 1) c' := by
    rcases r1.2 with ⟨_, h⟩ | ⟨g', cap, cur, e, _⟩
    · omega
    · exact ⟨g', cap, e⟩
  obtain ⟨g', c', rfl⟩ := hform
  unfold Oper.wp
  simp [execOp, hop, resolve, invoke, builtin, hs, hx, hrun, Result.andThen]
  refine hK g' c' w' r1 r2 ?_
  rcases r4 with h | h
  · exact .inl h
  · exact .inr (Option.some.inj h)

def kid5 (k : Int) : Int := if k = 5 ∨ k = 7 then 1 else 2
theorem l2Kids5_any (k : Int) (h3 : 3 ≤ k) (h7 : k ≤ 7) (w : World) : Calls Tryd.prog 43 #[.int .i64 k] w fun e w' => e = .returned (.int .i64 (kid5 k)) ∧ w' = w := by
  have hc : k = 3 ∨ k = 4 ∨ k = 5 ∨ k = 6 ∨ k = 7 := by omega
  rcases hc with rfl | rfl | rfl | rfl | rfl <;>
  · go_enter Tryd.func43, Tryd.ntmps43
    go_wp2
    go_ret
    exact ⟨rfl, rfl⟩
def kind9 (i : Nat) : Int := ([3, 3, 3, 4, 4, 5, 5, 6, 7] : List Int).getD i 3
theorem kind9_at : ∀ i, i < 9 → (#[.int .i64 3, .int .i64 3, .int .i64 3, .int .i64 4, .int .i64 4, .int .i64 5, .int .i64 5, .int .i64 6, .int .i64 7] : Array Value)[i]? = some (.int .i64 (kind9 i)) := fun i hi => match i, hi with
  | 0, _ => rfl
  | 1, _ => rfl
  | 2, _ => rfl
  | 3, _ => rfl
  | 4, _ => rfl
  | 5, _ => rfl
  | 6, _ => rfl
  | 7, _ => rfl
  | 8, _ => rfl
theorem kind9_bd : ∀ i, i < 9 → 3 ≤ kind9 i ∧ kind9 i ≤ 7 := fun i hi => match i, hi with
  | 0, _ => by decide
  | 1, _ => by decide
  | 2, _ => by decide
  | 3, _ => by decide
  | 4, _ => by decide
  | 5, _ => by decide
  | 6, _ => by decide
  | 7, _ => by decide
  | 8, _ => by decide
end Go.Proofs.YtkbhljpdneibaaaDoor

