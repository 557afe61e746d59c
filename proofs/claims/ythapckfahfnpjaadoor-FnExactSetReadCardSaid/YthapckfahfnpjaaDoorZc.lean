/- the walk of l15Cut -/
import Derived.Test.YthapckfahfnpjaaDoorZb
namespace Go.Proofs.YthapckfahfnpjaaDoor
open Go.RowKit
set_option linter.unusedVariables false
set_option linter.unusedSimpArgs false

theorem Tryd.infoStr : (Tryd.prog.info? 9).map (fun i => (i.zero, i.size, i.bytes)) = some (some (.string ⟨#[]⟩), 1, 16) := by kernel_rfl
theorem tx_extract (s : ByteArray) (f k : Nat) : tx (s.extract f k) = ((tx s).drop f).take (k - f) := by
  simp [tx, List.extract_eq_take_drop]

/-- what is cut off so far, k bytes seen, the piece at hand from f on -/
def CutAt (t : List UInt8) (k f : Nat) (ws : List (List UInt8)) : Prop :=
  (k ≤ t.length ∧ f ≤ k ∧ cw t = ws ++ cw (t.drop f) ∧ ∀ j, f ≤ j → j < k → t[j]? ≠ some 44) ∨ (k = t.length + 1 ∧ f = k ∧ cw t = ws)

theorem piece_free {t : List UInt8} {f k : Nat} (h : ∀ j, f ≤ j → j < k → t[j]? ≠ some 44) : ∀ c ∈ (t.drop f).take (k - f), c ≠ 44 := by
  rintro c hc rfl
  obtain ⟨j, hj⟩ := List.mem_iff_getElem?.1 hc
  rw [List.getElem?_take] at hj
  split at hj
  · rw [List.getElem?_drop] at hj
    exact h (f + j) (by omega) (by omega) hj
  · cases hj
theorem cut_zero (t : List UInt8) : CutAt t 0 0 [] := .inl ⟨by omega, by omega, by simp, fun j _ hj => by omega⟩
theorem cut_hit {t : List UInt8} {k f : Nat} {ws : List (List UInt8)} (h : CutAt t k f ws) (hk : t[k]? = some 44) : CutAt t (k + 1) (k + 1) (ws ++ [(t.drop f).take (k - f)]) := by
  have hlt : k < t.length := by
    rcases Nat.lt_or_ge k t.length with h1 | h1
    · exact h1
    · rw [List.getElem?_eq_none h1] at hk; cases hk
  rcases h with ⟨h1, h2, h3, h4⟩ | ⟨h1, _⟩
  · refine .inl ⟨by omega, by omega, ?_, fun j _ hj => by omega⟩
    have e : t.drop f = (t.drop f).take (k - f) ++ 44 :: t.drop (k + 1) := by
      have e1 : (t.drop f).drop (k - f) = 44 :: t.drop (k + 1) := by
        rw [List.drop_drop, show f + (k - f) = k by omega, List.drop_eq_getElem_cons hlt]
        rw [List.getElem?_eq_getElem hlt] at hk
        rw [Option.some.inj hk]
      rw [← e1, List.take_append_drop]
    rw [h3]
    conv => lhs; rw [e]
    rw [cw_append _ _ (piece_free h4), List.append_assoc]
    rfl
  · omega
theorem cut_end {t : List UInt8} {f : Nat} {ws : List (List UInt8)} (h : CutAt t t.length f ws) : CutAt t (t.length + 1) (t.length + 1) (ws ++ [(t.drop f).take (t.length - f)]) := by
  rcases h with ⟨h1, h2, h3, h4⟩ | ⟨h1, _⟩
  · refine .inr ⟨rfl, rfl, ?_⟩
    have e : (t.drop f).take (t.length - f) = t.drop f := List.take_of_length_le (by simp)
    have hf := piece_free h4
    rw [e] at hf ⊢
    rw [h3, cw_free _ hf]
  · omega
theorem cut_miss {t : List UInt8} {k f : Nat} {ws : List (List UInt8)} (h : CutAt t k f ws) (hk : k < t.length) (hne : t[k]? ≠ some 44) : CutAt t (k + 1) f ws := by
  rcases h with ⟨h1, h2, h3, h4⟩ | ⟨h1, _⟩
  · refine .inl ⟨by omega, by omega, h3, fun j h5 h6 => ?_⟩
    by_cases e : j = k
    · subst e; exact hne
    · exact h4 j h5 (by omega)
  · omega

theorem cell_one_new (w : World) (x : Value) (t : TypeId) : ∀ j u, [x][j]? = some u → (w.alloc (.cells #[x] t)).cell? ((⟨w.heap.size, 0, none⟩ : Addr).add j) = some u := by
  intro j u hj
  match j, hj with
  | 0, hj => simp at hj; subst hj; simp [Addr.add]

/-- what comes of cutting a text at its commas -/
def CutRes (s : ByteArray) (w : World) (e : Ending) (w' : World) : Prop := ∃ (v : Value) (ws : List ByteArray), e = .returned v ∧ ws.map tx = cw (tx s) ∧ w'.ownsRow w.heap.size 9 1 v ws.length (ws.map Value.string) ∧ Below w.heap.size w w'

set_option maxRecDepth 100000 in
set_option maxHeartbeats 2000000 in
theorem cut_any (s : ByteArray) (hs : s.size ≤ 1048576) (w : World) :
    Calls Tryd.prog 9 #[.string s, .int .u8 44] w (CutRes s w) := by
  obtain ⟨i0, hi, hz0, hz1, hz2⟩ := info_parts Tryd.infoStr
  have HSZ : Hid (s.size = (tx s).length) := tx_size s
  go_enter Tryd.func9, Tryd.ntmps9
  go_wp2
  go_loopw [5, 6, 7] (fun t fr i wr => ∃ (k f g cap : Nat) (ws : List ByteArray), k ≤ s.size + 1 ∧ f ≤ k ∧ ws.length ≤ k ∧ i = .int .i64 k ∧ fr = .int .i64 f ∧ t = .slice (some ⟨g, 0, none⟩) ws.length cap ∧ Hid (CutAt (tx s) k f (ws.map tx)) ∧ wr.ownsRow w.heap.size 9 1 (.slice (some ⟨g, 0, none⟩) ws.length cap) ws.length (ws.map Value.string) ∧ Below w.heap.size w wr)
    (fun _ _ i _ => s.size + 1 - (intOf i).toNat)
  case atStart =>
    refine ⟨0, 0, w.heap.size, 0, [], by omega, by omega, by simp, rfl, rfl, rfl, cut_zero _, ?_, (Below.refl _ _).alloc (Nat.le_refl _) _⟩
    exact World.ownsRow_lit w #[] 0 (Nat.le_refl _) (by unfold maxLen; omega) rfl
  case round =>
    obtain ⟨k, f, g, cap, ws, hk, hf, hwl, rfl, rfl, rfl, HC, hown, hB⟩ := hrel
    have hgb := (hown.lt g rfl).1
    by_cases hlt : k ≤ s.size
    · have hltz : (k : Int) ≤ (s.size : Int) := by omega
      by_cases hend : k = s.size
      · have hez : ((k : Int) == (s.size : Int)) = true := by rw [beq_iff_eq]; omega
        have HE : Hid (k = s.size) := hend
        clear hend
        go_wp2_with (at_builtin; refine wpList_append_own _ rfl _ _ 28 rfl w.heap.size 9 i0 (.string ⟨#[]⟩) 1 16 Tryd.underlying28 hi hz0 hz1 hz2 rfl (by decide) _ _ _ rfl (hown.alloc _) ⟨wr.heap.size, 0, none⟩ 1 1 [.string (s.extract f k)] rfl rfl (cell_one_new _ _ _) (by simp [Value.oneCell']) (by unfold maxLen; omega) (by omega) (by have := hB.size; simp; omega) ?_; intro v' w1 hown' hgrow _; obtain ⟨g', cap', rfl⟩ := ownsRow_succ hown')
        have hB1 : Below w.heap.size w w1 := (hB.alloc hB.size _).grown hgrow (by have := hB.size; simp; omega) (fun j e => by cases e; exact hgb)
        have hr : w1.ownsRow w.heap.size 9 1 (.slice (some ⟨g', 0, none⟩) (ws.length + 1) cap') (ws ++ [s.extract f k]).length ((ws ++ [s.extract f k]).map Value.string) := by simpa using hown'
        have hc : CutAt (tx s) (k + 1) (k + 1) ((ws ++ [s.extract f k]).map tx) := by
          have h0 := HC.out
          rw [HE.out, HSZ.out] at h0
          have h1 := cut_end h0
          rw [List.map_append, List.map_cons, List.map_nil, tx_extract, HE.out, HSZ.out]
          exact h1
        go_roundw
        case rel => exact ⟨k + 1, k + 1, g', cap', ws ++ [s.extract f k], by omega, by omega, by simp; omega, by go_num, by go_num, by simp, hc, by simpa using hr, hB1⟩
        case measure => simp [intOf]; omega
      · have hez : ((k : Int) == (s.size : Int)) = false := by rw [beq_eq_false_iff_ne]; omega
        have hlt' : k < s.size := by omega
        have hltz' : (k : Int) < (s.size : Int) := by omega
        have HG : Hid ((tx s)[k]? = some s[k]) := tx_get s k hlt'
        clear hend
        by_cases hc44 : s[k] = 44
        · have hz := byte_eq s[k] 44 44 rfl hc44
          have hc : CutAt (tx s) (k + 1) (k + 1) ((ws ++ [s.extract f k]).map tx) := by
            rw [List.map_append, List.map_cons, List.map_nil, tx_extract]
            exact cut_hit HC.out (by rw [HG.out, hc44])
          have HCC : Hid (CutAt (tx s) (k + 1) (k + 1) ((ws ++ [s.extract f k]).map tx)) := hc
          clear hc hc44
          go_wp2_with (at_builtin; refine wpList_append_own _ rfl _ _ 28 rfl w.heap.size 9 i0 (.string ⟨#[]⟩) 1 16 Tryd.underlying28 hi hz0 hz1 hz2 rfl (by decide) _ _ _ rfl (hown.alloc _) ⟨wr.heap.size, 0, none⟩ 1 1 [.string (s.extract f k)] rfl rfl (cell_one_new _ _ _) (by simp [Value.oneCell']) (by unfold maxLen; omega) (by omega) (by have := hB.size; simp; omega) ?_; intro v' w1 hown' hgrow _; obtain ⟨g', cap', rfl⟩ := ownsRow_succ hown')
          have hB1 : Below w.heap.size w w1 := (hB.alloc hB.size _).grown hgrow (by have := hB.size; simp; omega) (fun j e => by cases e; exact hgb)
          have hr : w1.ownsRow w.heap.size 9 1 (.slice (some ⟨g', 0, none⟩) (ws.length + 1) cap') (ws ++ [s.extract f k]).length ((ws ++ [s.extract f k]).map Value.string) := by simpa using hown'
          go_roundw
          case rel => exact ⟨k + 1, k + 1, g', cap', ws ++ [s.extract f k], by omega, by omega, by simp; omega, by go_num, by go_num, by simp, HCC, by simpa using hr, hB1⟩
          case measure => simp [intOf]; omega
        · have hz := byte_ne s[k] 44 44 rfl hc44
          have HCC : Hid (CutAt (tx s) (k + 1) f (ws.map tx)) := cut_miss HC.out (by rw [← tx_size]; exact hlt') (by rw [HG.out]; exact fun e => hc44 (Option.some.inj e))
          clear hc44
          go_wp2
          go_roundw
          case rel => exact ⟨k + 1, f, g, cap, ws, by omega, by omega, by omega, by go_num, rfl, rfl, HCC, hown, hB⟩
          case measure => simp [intOf]; omega
    · have hltz : ¬ ((k : Int) ≤ (s.size : Int)) := by omega
      go_wp2
      go_ret
      refine show CutRes s w _ _ from ⟨_, ws, rfl, ?_, hown, hB⟩
      rcases HC.out with ⟨h1, _⟩ | ⟨_, _, h3⟩
      · rw [← tx_size] at h1; omega
      · exact h3.symm
end Go.Proofs.YthapckfahfnpjaaDoor

