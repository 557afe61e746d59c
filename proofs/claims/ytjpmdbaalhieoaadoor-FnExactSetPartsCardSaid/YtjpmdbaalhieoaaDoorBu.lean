/- the model's SetParts -/
import Derived.Test.YtjpmdbaalhieoaaDoorBr
import Derived.Test.YtjpmdbaalhieoaaDoorWc
namespace Go.Proofs.YtjpmdbaalhieoaaDoor
open Go.RowKit
set_option linter.unusedVariables false
set_option linter.unusedSimpArgs false

/-- what SetParts tells: the parts by their first bytes; none, if a set is not ok -/
def FN (N : Nest) (i : Nat) : Nat → Bool := hs (N.n i) (N.L i) (N.H i)
def okAll (N : Nest) (n : Nat) : Bool := (List.range n).all (fun i => okB (N.n i) (N.L i) (N.H i))
def partsOut (N : Nest) (n : Nat) : List (Nat → Bool) := if okAll N n then sortL (partsUp (FN N) n) 256 else []
theorem okAll_yes {N : Nest} {n : Nat} (h : ∀ i, i < n → okB (N.n i) (N.L i) (N.H i) = true) : okAll N n = true := by
  simpa [okAll, List.all_eq_true] using h
theorem okAll_no {N : Nest} {n k : Nat} (hk : k < n) (h : okB (N.n k) (N.L k) (N.H k) = false) : okAll N n = false := by
  rw [← Bool.not_eq_true]
  intro e
  simp only [okAll, List.all_eq_true, List.mem_range] at e
  rw [e k hk] at h; cases h
theorem LR.full (w : World) (x y : Nat) (hx : w.heap.size ≤ x) : LR ((w.alloc (.cells #[.int .i64 0, .int .i64 255] 33)).alloc (.cells #[.slice (some ⟨w.heap.size, 0, none⟩) 1 1] 34)) w.heap.size (.slice (some ⟨w.heap.size + 1, 0, none⟩) 1 1) [fun _ => true] [.slice (some ⟨w.heap.size, 0, none⟩) 1 1] := by
  have h1 : (w.alloc (.cells #[.int .i64 0, .int .i64 255] 33)).ownsRow w.heap.size 33 2 (.slice (some ⟨w.heap.size, 0, none⟩) 1 1) 1 [.int .i64 0, .int .i64 255] :=
    World.ownsRow_lit w #[.int .i64 0, .int .i64 255] 1 (Nat.le_refl _) (by unfold maxLen; omega) rfl
  have h2 := World.ownsRow_lit (base := w.heap.size) (size := 1) (e := 34) (w.alloc (.cells #[.int .i64 0, .int .i64 255] 33)) #[.slice (some ⟨w.heap.size, 0, none⟩) 1 1] 1 (by simp) (by unfold maxLen; omega) rfl
  rw [World.size_alloc] at h2
  refine ⟨rfl, h2, fun i x B hx hB => ?_⟩
  match i, hx, hB with
  | 0, hx, hB =>
    simp at hx hB
    subst hx hB
    rw [SetIs, runs_full]
    exact h1.alloc _

set_option maxRecDepth 100000 in
set_option maxHeartbeats 4000000 in
theorem specSetParts_any (a : Option Addr) (b off cap n : Nat) (N : Nest) (w : World) (hga : 0 < n → a = some ⟨b, off, none⟩) (hc : SS w b off n N) (hni : ∀ i, i < n → N.n i ≤ 4194304) (hn : n ≤ 4194304) :
    Calls Tryd.prog 5 #[.slice a n cap] w fun e w' => ∃ g c X', e = .returned (.slice (some ⟨g, 0, none⟩) (partsOut N n).length c) ∧ LR w' w.heap.size (.slice (some ⟨g, 0, none⟩) (partsOut N n).length c) (partsOut N n) X' ∧ Below w.heap.size w w' := by
  have HC : Hid (SS w b off n N) := hc
  have HNI : Hid (∀ i, i < n → N.n i ≤ 4194304) := hni
  have HL0 := LR.full w w.heap.size 0 (Nat.le_refl _)
  clear hc hni
  go_enter Tryd.func5, Tryd.ntmps5
  go_wp2_with fail
  go_loopw [3, 4] (fun t i wr => ∃ (k g c : Nat) (X' : List Value), k ≤ n ∧ i = .int .i64 k ∧ t = .slice (some ⟨g, 0, none⟩) (partsUp (FN N) k).length c ∧ Hid (LR wr w.heap.size (.slice (some ⟨g, 0, none⟩) (partsUp (FN N) k).length c) (partsUp (FN N) k) X') ∧ Hid (∀ i, i < k → okB (N.n i) (N.L i) (N.H i) = true) ∧ Below w.heap.size w wr) (fun _ i _ => n - (intOf i).toNat)
  case atStart => exact ⟨0, _, 1, _, Nat.zero_le _, rfl, rfl, HL0, fun i hi => absurd hi (Nat.not_lt_zero _), ((Below.refl _ _).alloc (Nat.le_refl _) _).alloc (by simp) _⟩
  case round =>
    clear HL0
    obtain ⟨k, g, c, X', hk, rfl, rfl, HL, HOK, hB⟩ := hrel
    have HB : Hid (Below w.heap.size w wr) := hB
    clear hB
    by_cases hlt : k < n
    · have hltz : (k : Int) < (n : Int) := by omega
      obtain rfl := hga (by omega)
      obtain ⟨c1, g1, s1⟩ := (HC.out.below HB.out) k hlt
      have HG1 : Hid (0 < N.n k → N.a k = some ⟨N.b k, N.off k, none⟩) := g1
      have HS1 : Hid (Sp wr (N.b k) (N.off k) (N.n k) (N.L k) (N.H k)) := s1
      have HSO : Hid (Calls Tryd.prog 12 #[.slice (N.a k) (N.n k) (N.cap k)] wr fun e w' => e = .returned (.bool (okB (N.n k) (N.L k) (N.H k))) ∧ Below wr.heap.size wr w') := specSetOk_any (N.a k) (N.b k) (N.off k) (N.cap k) (N.n k) (N.L k) (N.H k) wr g1 s1 (HNI.out k hlt)
      clear g1 s1
      go_wp2_with fail
      refine HSO.out.mono ?_
      rintro e w2 ⟨rfl, hb2⟩
      have HB2 : Hid (Below w.heap.size w w2) := HB.out.trans (hb2.mono HB.out.size)
      have hc2 : w2.cell? ⟨b, off + k, none⟩ = some (.slice (N.a k) (N.n k) (N.cap k)) := (hb2.cell (p := ⟨b, _, none⟩) (World.block_lt_of_cell? _ _ c1)).trans c1
      cases hok : okB (N.n k) (N.L k) (N.H k)
      case true =>
        have HLP : Hid (Calls Tryd.prog 13 #[.slice (some ⟨g, 0, none⟩) (partsUp (FN N) k).length c, .slice (N.a k) (N.n k) (N.cap k)] w2 fun e w' => ∃ g c X', e = .returned (.slice (some ⟨g, 0, none⟩) (partsUp (FN N) (k + 1)).length c) ∧ LR w' w2.heap.size (.slice (some ⟨g, 0, none⟩) (partsUp (FN N) (k + 1)).length c) (partsUp (FN N) (k + 1)) X' ∧ Below w2.heap.size w2 w') :=
          l1Parts_any g c w.heap.size (partsUp (FN N) k) X' (N.a k) (N.b k) (N.off k) (N.cap k) (N.n k) (N.L k) (N.H k) w2 (HL.out.below hb2) HG1.out (sp_belowV HS1.out hb2) (HNI.out k hlt) hok (partsUp_ok (FN N) k).len
        have HOK2 : Hid (∀ i, i < k + 1 → okB (N.n i) (N.L i) (N.H i) = true) := fun i hi => by
          by_cases e : i = k
          · subst e; exact hok
          · exact HOK.out i (by omega)
        clear hb2 hok c1 HSO HL HB
        go_wp2_with fail
        refine HLP.out.mono ?_
        rintro e w3 ⟨g3, c3, X3, rfl, hl3, hb3⟩
        have HB3 : Hid (Below w.heap.size w w3) := HB2.out.trans (hb3.mono HB2.out.size)
        have HL3 : Hid (LR w3 w.heap.size (.slice (some ⟨g3, 0, none⟩) (partsUp (FN N) (k + 1)).length c3) (partsUp (FN N) (k + 1)) X3) := hl3.down HB2.out.size
        clear hl3 hb3 HLP
        go_wp2_with fail
        go_roundw
        case rel => exact ⟨k + 1, g3, c3, X3, by omega, by go_num, rfl, HL3.out, HOK2.out, HB3.out⟩
        case measure => simp [intOf]; omega
      case false =>
        have HF : Hid (partsOut N n = []) := by rw [Hid, partsOut, okAll_no hlt hok]; rfl
        clear hb2 hok c1 HSO HL HB
        go_wp2_with fail
        go_ret
        rw [HF.out]
        exact ⟨w2.heap.size, 0, [], rfl, LR.nil w2 _ HB2.out.size, HB2.out.alloc HB2.out.size _⟩
    · obtain rfl : k = n := by omega
      have hltz : ¬ (k : Int) < (k : Int) := by omega
      have HF : Hid (partsOut N k = sortL (partsUp (FN N) k) 256) := by rw [Hid, partsOut, okAll_yes HOK.out]; rfl
      have HLS : Hid (Calls Tryd.prog 14 #[.slice (some ⟨g, 0, none⟩) (partsUp (FN N) k).length c] wr fun e w' => ∃ g c X', e = .returned (.slice (some ⟨g, 0, none⟩) (partsOut N k).length c) ∧ LR w' w.heap.size (.slice (some ⟨g, 0, none⟩) (partsOut N k).length c) (partsOut N k) X' ∧ Below wr.heap.size wr w') := by
        rw [HF.out]
        exact l1Sort_any g c w.heap.size (partsUp (FN N) k) X' wr HL.out HB.out.size (partsUp_ok (FN N) k).len
      clear HL
      go_wp2_with fail
      refine HLS.out.mono ?_
      rintro e w3 ⟨g3, c3, X3, rfl, hl3, hb3⟩
      go_wp2_with fail
      go_ret
      exact ⟨g3, c3, X3, rfl, hl3, HB.out.trans (hb3.mono HB.out.size)⟩
end Go.Proofs.YtjpmdbaalhieoaaDoor

