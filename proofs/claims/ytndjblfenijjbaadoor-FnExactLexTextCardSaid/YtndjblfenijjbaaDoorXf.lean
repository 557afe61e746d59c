/- the walk of the law of LexText -/
import Derived.Test.YtndjblfenijjbaaDoorXe
import Derived.Test.YtndjblfenijjbaaDoorXc
namespace Go.Proofs.YtndjblfenijjbaaDoor
open Go.RowKit
set_option linter.unusedVariables false
set_option linter.unusedSimpArgs false

set_option maxRecDepth 100000 in
set_option maxHeartbeats 2000000 in
theorem lawLexText (a : Option Addr) (b off n cap : Nat) (K : Nat → Tk) (w : World) (hp : PowX w) (hga : 0 < n → a = some ⟨b, off, none⟩) (hc : TkIn w b off n K) (hn : n ≤ 9223372036854775807) (h64 : ∀ i, i < n → Tk64 (K i)) :
    Calls Tryd.prog 3 #[.slice a n cap] w fun e w' => e = .returned (.bool true) ∧ Below w.heap.size w w' := by
  have HZ := szT_any a n cap 1048576 w (by omega) (by omega) hn
  by_cases hb : (1048576 : Int) < n
  · rw [if_pos hb] at HZ
    clear hc h64 hp
    go_enter Tryd.func3, Tryd.ntmps3
    go_wp2_with fail
    refine HZ.mono ?_
    rintro e w1 ⟨rfl, e1⟩
    subst w1
    go_wp2_with fail
    go_ret
    exact ⟨rfl, Below.refl _ _⟩
  rw [if_neg hb] at HZ
  have hz1 : ¬ 1048576 - (n : Int) < 0 := by omega
  have hn1 : n ≤ 1048576 := by omega
  have HA : Hid (∀ V, Below w.heap.size w V → Calls Tryd.prog 6 #[.slice a n cap] V (ToTk n K V)) := fun V hb => toTk_any a b off cap n K V hga (hc.below hb) hn1
  have HS : Hid (∀ g V, V.rowIs g 31 (n * 3) (flat3 K) → Calls Tryd.prog 5 #[.slice (some ⟨g, 0, none⟩) n n] V fun e w' => ∃ s, e = .returned (.string s) ∧ tx s = lexT K n ∧ Below V.heap.size V w') := fun g V h =>
    specLexText_any _ g 0 n n K V (fun _ => rfl) (TkIn.of_row h) h64 hn1
  have HI : Hid (∀ g V, Below w.heap.size w V → V.rowIs g 31 (n * 3) (flat3 K) → Calls Tryd.prog 7 #[.slice (some ⟨g, 0, none⟩) n n] V fun e w' => ∃ s, e = .returned (.string s) ∧ tx s = lexT K n ∧ Below V.heap.size V w') := fun g V hV h =>
    implLexText_any _ g 0 n n K V (hp.below hV) (fun _ => rfl) (TkIn.of_row h) h64 hn1
  have HQ : Hid (∀ g g' V, V.rowIs g 31 (n * 3) (flat3 K) → V.rowIs g' 31 (n * 3) (flat3 K) → Calls Tryd.prog 8 #[.slice (some ⟨g, 0, none⟩) n n, .slice (some ⟨g', 0, none⟩) n n] V fun e w' => e = .returned (.bool true) ∧ Below V.heap.size V w') := fun g g' V h h' => by
    have := eqTokS_any (some ⟨g, 0, none⟩) (some ⟨g', 0, none⟩) g 0 n n g' 0 n n K K V (fun _ => rfl) (TkIn.of_row h) (fun _ => rfl) (TkIn.of_row h') (by omega) (by omega)
    rwa [eqTB_all (fun _ _ => rfl)] at this
  clear hc hga hn h64 hp
  go_enter Tryd.func3, Tryd.ntmps3
  go_wp2_with fail
  refine HZ.mono ?_
  rintro e w1 ⟨rfl, e1⟩
  subst w1
  go_wp2_with fail
  refine (HA.out _ (Below.refl _ _)).mono ?_
  rintro e w2 ⟨g2, rfl, hr2, _, hb2⟩
  go_wp2_with fail
  refine (HS.out _ _ hr2).mono ?_
  rintro e w3 ⟨s, rfl, hs, hb3⟩
  have HTS : Hid (tx s = lexT K n) := hs
  have hB3 := hb2.trans (hb3.mono hb2.size)
  clear hr2 hb3 hs
  go_wp2_with fail
  refine (HA.out _ hB3).mono ?_
  rintro e w4 ⟨g4, rfl, hr4, _, hb4⟩
  have hB4 := hB3.trans (hb4.mono hB3.size)
  have HR4 : Hid (w4.rowIs g4 31 (n * 3) (flat3 K)) := hr4
  clear hr4 hb4
  go_wp2_with fail
  refine (HI.out _ _ hB4 HR4.out).mono ?_
  rintro e w5 ⟨s2, rfl, hs2, hb5⟩
  obtain rfl : s2 = s := tx_inj (hs2.trans HTS.out.symm)
  have hB5 := hB4.trans (hb5.mono hB4.size)
  have HR5 : Hid (w5.rowIs g4 31 (n * 3) (flat3 K)) := row_below HR4.out hb5
  clear hs2 hb5
  go_wp2_with fail
  refine (HA.out _ hB5).mono ?_
  rintro e w6 ⟨g6, rfl, hr6, _, hb6⟩
  have hB6 := hB5.trans (hb6.mono hB5.size)
  have HQ6 : Hid (Calls Tryd.prog 8 #[.slice (some ⟨g4, 0, none⟩) n n, .slice (some ⟨g6, 0, none⟩) n n] w6 fun e w' => e = .returned (.bool true) ∧ Below w6.heap.size w6 w') := HQ.out g4 g6 w6 (row_below HR5.out hb6) hr6
  clear hr6 hb6
  go_wp2_with fail
  refine HQ6.out.mono ?_
  rintro e w7 ⟨rfl, hb7⟩
  go_wp2_with fail
  go_ret
  exact ⟨rfl, hB6.trans (hb7.mono hB6.size)⟩
end Go.Proofs.YtndjblfenijjbaaDoor

