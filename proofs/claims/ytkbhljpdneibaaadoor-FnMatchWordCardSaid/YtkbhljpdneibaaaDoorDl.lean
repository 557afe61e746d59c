/- A copy of a set, as one step of a region that draws; a Rex of a kind, a set and kids. -/
import Derived.Test.YtkbhljpdneibaaaDoorDj
namespace Go.Proofs.YtkbhljpdneibaaaDoor
open Go.RowKit
set_option linter.unusedVariables false
set_option linter.unusedSimpArgs false

abbrev SetV : Type := Nat × (Nat → Int) × (Nat → Int)
def cellsV (s : SetV) : List Value := (List.range (s.1 * 2)).map (flat s.2.1 s.2.2)
theorem cellsV_len (s : SetV) : (cellsV s).length = s.1 * 2 := by simp [cellsV]
theorem cellsV_at {w : World} {b off n : Nat} {L H : Nat → Int} (hc : Sp w b off n L H) (j : Nat) (u : Value) (hj : (cellsV (n, L, H))[j]? = some u) : w.cell? ⟨b, off + j, none⟩ = some u := by
  have hlt : j < n * 2 := by
    rcases Nat.lt_or_ge j (n * 2) with h | h
    · exact h
    · rw [List.getElem?_eq_none (by rw [cellsV_len]; exact h)] at hj; cases hj
  simp only [cellsV, List.getElem?_map] at hj
  rw [List.getElem?_range hlt] at hj
  obtain rfl := Option.some.inj hj
  obtain ⟨c1, c2⟩ := hc (j / 2) (by omega)
  rcases Nat.mod_two_eq_zero_or_one j with h | h
  · rw [show off + j / 2 * 2 = off + j by omega] at c1
    rw [c1, flat, if_pos h]
  · rw [show off + j / 2 * 2 + 1 = off + j by omega] at c2
    rw [c2, flat, if_neg (by omega)]

theorem run_copy (w : World) (ty : TypeId) (ga : Option Addr) (b off cap n : Nat) (L H : Nat → Int) (base : Nat) (v : Value) (hv : w.ownsRow base 59 2 v 0 []) (hbase : base ≤ w.heap.size) (hga : 0 < n → ga = some ⟨b, off, none⟩) (hc : Sp w b off n L H) (hn : n ≤ 4194304) :
    ∃ g' n' c' w', (Builtin.append_ #[23, 23] ty #[v, .slice ga n cap]).run Tryd.prog w = .ok (.slice g' n' c') w' ∧ w'.ownsRow base 59 2 (.slice g' n' c') n (cellsV (n, L, H)) ∧ w.grownBy w' v.ownBlock := by
  obtain ⟨i0, hi, hz0, hz1, hz2⟩ := info_parts Tryd.info59
  cases ga with
  | none =>
    obtain rfl : n = 0 := by
      rcases Nat.eq_zero_or_pos n with h | h
      · exact h
      · cases hga h
    have hr : (Builtin.append_ #[23, 23] ty #[v, .slice none 0 cap]).run Tryd.prog w = .ok v w := by
      rcases hv.2 with ⟨rfl, _⟩ | ⟨g, cap, cur, rfl, _, _, hnc, _⟩
      · simp [Builtin.append_, run_underlying Tryd.underlying23, sizeOf, typeInfo, hi, Builtin.lenOf, Builtin.firstCells]
      · simp [Builtin.append_, run_underlying Tryd.underlying23, sizeOf, typeInfo, hi, Builtin.lenOf, Builtin.firstCells, hnc, storeCells]
    obtain ⟨g', n', c', rfl⟩ : ∃ g' n' c', v = .slice g' n' c' := by
      rcases hv.2 with ⟨e, _⟩ | ⟨g0, cap, cur, e1, _⟩
      · exact ⟨_, _, _, e⟩
      · exact ⟨_, _, _, e1⟩
    exact ⟨g', n', c', w, hr, hv, ⟨rfl, rfl, rfl, Nat.le_refl _, fun _ _ _ => rfl⟩⟩
  | some ad =>
    obtain ⟨v', w', hrun, r1, r2, _⟩ := run_append_own (P := Tryd.prog) w base 23 ty 59 i0 _ 2 16 Tryd.underlying23 hi hz0 hz1 hz2 (by simp [Value.cells]) (by omega) v 0 [] hv ad n cap (cellsV (n, L, H)) (by rw [cellsV_len])
      (fun j u hj => by
        have h0 : 0 < n := by
          rcases Nat.eq_zero_or_pos n with h | h
          · subst h; simp [cellsV] at hj
          · exact h
        obtain rfl := Option.some.inj (hga h0)
        rw [Addr.add_lit]; exact cellsV_at hc j u hj)
      (fun u hu => by
        simp only [cellsV, List.mem_map] at hu
        obtain ⟨j, _, rfl⟩ := hu
        rfl) (by simp only [maxLen]; omega) (by omega) hbase
    obtain ⟨g', n', c', rfl⟩ : ∃ g' n' c', v' = .slice g' n' c' := by
      rcases r1.2 with ⟨e, _⟩ | ⟨g0, cap, cur, e1, _⟩
      · exact ⟨_, _, _, e⟩
      · exact ⟨_, _, _, e1⟩
    exact ⟨g', n', c', w', hrun, by simpa using r1, r2⟩

theorem step_copy {ops : Array Oper} {o : Oper} {a : Act} {w : World} {K : Act → World → Prop} {Q : Exit → Act → World → Prop} {E : Prop}
    (hg : o.guard = none) (s x : Operand) (hop : o.op = Op.call { callee := Callee.builtin Builtin.append, args := #[s, x], argTypes := #[23, 23] })
    (base : Nat) (v : Value) (hs : a.eval s = v) (hv : w.ownsRow base 59 2 v 0 []) (ga : Option Addr) (b off cap n : Nat) (L H : Nat → Int) (hx : a.eval x = .slice ga n cap) (hga : 0 < n → ga = some ⟨b, off, none⟩) (hc : Sp w b off n L H) (hn : n ≤ 4194304) (hbase : base ≤ w.heap.size)
    (hK : ∀ g' n' c' w', w'.ownsRow base 59 2 (.slice g' n' c') n (cellsV (n, L, H)) → w.grownBy w' v.ownBlock → K (a.put o.dst (.slice g' n' c')) w') :
    if Region.wanted o (yielded ops a.tmps) = true then Oper.wp Tryd.prog o a w K Q else E := by
  have hw : Region.wanted o (yielded ops a.tmps) = true := by simp [Region.wanted, hg]
  rw [if_pos hw]
  obtain ⟨g', n', c', w', hrun, r1, r2⟩ := run_copy w o.type ga b off cap n L H base v hv hbase hga hc hn
  unfold Oper.wp
  simp [execOp, hop, resolve, invoke, builtin, hs, hx, hrun, Result.andThen]
  exact hK g' n' c' w' r1 r2

theorem SetIn.of_cells {w : World} {base : Nat} {v : Value} {n : Nat} {L H : Nat → Int} (h : w.ownsRow base 59 2 v n (cellsV (n, L, H))) : SetIn (fun k => base ≤ k ∧ Soft w k) w v n L H := by
  rcases h.2 with ⟨rfl, h0⟩ | ⟨g, cap, cur, rfl, h1, h2, h3, h4, h5, h6⟩
  · exact ⟨none, 0, 0, 0, by rw [h0], fun hh => by omega, fun i hi => by omega⟩
  · refine ⟨some ⟨g, 0, none⟩, g, 0, cap, rfl, fun _ => ⟨rfl, h1, cur, 59, h2⟩, fun i hi => ?_⟩
    have a1 := World.ownsRow.cellAt h (i * 2) (by omega)
    have a2 := World.ownsRow.cellAt h (i * 2 + 1) (by omega)
    simp only [cellsV, List.getElem?_map, List.getElem?_range (show i * 2 < n * 2 by omega), List.getElem?_range (show i * 2 + 1 < n * 2 by omega), Option.map_some, flat_even, flat_odd] at a1 a2
    exact ⟨by simpa using a1, by simpa using a2⟩

/-- one of a kind, a set and kids -/
def fullS (k : Int) (n : Nat) (L H : Nat → Int) (ks : List (Sh × Mx)) : Sh := .mk k n L H ks.length (fun i => ((ks[i]?).getD (leafS 0 0 (fun _ => 0) (fun _ => 0), .no)).1)
def fullM (sv v : Value) (ks : List (Sh × Mx)) : Mx := .mk sv v (fun i => ((ks[i]?).getD (leafS 0 0 (fun _ => 0) (fun _ => 0), .no)).2)
theorem full_in {w : World} {base lo : Nat} {v sv : Value} {n : Nat} {L H : Nat → Int} {ks : List (Sh × Mx)} (k : Int) (hs : SetIn (fun x => lo ≤ x ∧ Soft w x) w sv n L H) (hn : n ≤ 2097152) (hlo : lo ≤ base) (h : w.ownsRow base 26 3 v ks.length (encK ks)) (hk : ∀ p ∈ ks, In (fun x => base ≤ x ∧ Soft w x) w p.1 p.2) (hl : ks.length ≤ 2097152) : In (fun x => lo ≤ x ∧ Soft w x) w (fullS k n L H ks) (fullM sv v ks) := by
  obtain ⟨a, b, off, cp, rfl, hs1, hs2⟩ := hs
  have hw : In (fun x => lo ≤ x ∧ Soft w x) w (nodeS k ks) (nodeM v ks) := (node_in k h hk hl).mono (fun x hx => ⟨by omega, hx.2⟩)
  obtain ⟨_, _, _, _, a', b', off', cap', _, _, _, _, e2, hm, hl', hkk⟩ := hw
  exact ⟨a, b, off, cp, a', b', off', cap', rfl, hs1, hs2, by omega, e2, hm, hl', hkk⟩
end Go.Proofs.YtkbhljpdneibaaaDoor

