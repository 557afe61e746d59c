/- the walk of the law of LexSame -/
import Derived.Test.YtndjblfenijjbaaXb
namespace Go.Proofs.Ytndjblfenijjbaa
open Go.RowKit
set_option linter.unusedVariables false
set_option linter.unusedSimpArgs false

/-- a copy of tokens: what comes of it -/
def ToTk (n : Nat) (K : Nat → Tk) (w : World) (e : Ending) (w' : World) : Prop :=
  ∃ g, e = .returned (.slice (some ⟨g, 0, none⟩) n n) ∧ w'.rowIs g 29 (n * 3) (flat3 K) ∧ w.heap.size ≤ g ∧ Below w.heap.size w w'
theorem toTk_any (a : Option Addr) (b off cap n : Nat) (K : Nat → Tk) (w : World) (hga : 0 < n → a = some ⟨b, off, none⟩) (hc : TkIn w b off n K) (hn : n ≤ 1048576) :
    Calls Try.prog 6 #[.slice a n cap] w (ToTk n K w) :=
  (toTokS_any a b off cap n K w hga hc hn).mono fun e w' ⟨h1, h2, h3⟩ => ⟨_, h1, h2, Nat.le_refl _, h3⟩

set_option maxRecDepth 100000 in
set_option maxHeartbeats 2000000 in
theorem lawLexSame (a : Option Addr) (b off n cap : Nat) (K : Nat → Tk) (a' : Option Addr) (b' off' m cap' : Nat) (K' : Nat → Tk) (w : World)
    (hga : 0 < n → a = some ⟨b, off, none⟩) (hc : TkIn w b off n K) (hn : n ≤ 9223372036854775807)
    (hga' : 0 < m → a' = some ⟨b', off', none⟩) (hc' : TkIn w b' off' m K') (hm : m ≤ 9223372036854775807) :
    Calls Try.prog 3 #[.slice a n cap, .slice a' m cap'] w fun e w' => e = .returned (.bool true) ∧ Below w.heap.size w w' := by
  have HZ := szT_any a n cap 1048576 w (by omega) (by omega) hn
  by_cases hb : (1048576 : Int) < n
  · rw [if_pos hb] at HZ
    clear hc hc'
    go_enter Try.func3, Try.ntmps3
    go_wp2_with fail
    refine HZ.mono ?_
    rintro e w1 ⟨rfl, e1⟩
    subst w1
    go_wp2_with fail
    go_ret
    exact ⟨rfl, Below.refl _ _⟩
  rw [if_neg hb] at HZ
  have hz1 : ¬ 1048576 - (n : Int) < 0 := by omega
  have HZ2 := szT_any a' m cap' (1048576 - (n : Int)) w (by omega) (by omega) hm
  by_cases hb2 : 1048576 - (n : Int) < m
  · rw [if_pos hb2] at HZ2
    clear hc hc'
    go_enter Try.func3, Try.ntmps3
    go_wp2_with fail
    refine HZ.mono ?_
    rintro e w1 ⟨rfl, e1⟩
    subst w1
    go_wp2_with fail
    refine HZ2.mono ?_
    rintro e w1 ⟨rfl, e1⟩
    subst w1
    go_wp2_with fail
    go_ret
    exact ⟨rfl, Below.refl _ _⟩
  rw [if_neg hb2] at HZ2
  have hz2 : ¬ 1048576 - (n : Int) - (m : Int) < 0 := by omega
  have hn1 : n ≤ 1048576 := by omega
  have hm1 : m ≤ 1048576 := by omega
  have HA : Hid (∀ V, Below w.heap.size w V → Calls Try.prog 6 #[.slice a n cap] V (ToTk n K V)) := fun V hb => toTk_any a b off cap n K V hga (hc.below hb) hn1
  have HA' : Hid (∀ V, Below w.heap.size w V → Calls Try.prog 6 #[.slice a' m cap'] V (ToTk m K' V)) := fun V hb => toTk_any a' b' off' cap' m K' V hga' (hc'.below hb) hm1
  have HS : Hid (∀ g g' V, V.rowIs g 29 (n * 3) (flat3 K) → V.rowIs g' 29 (m * 3) (flat3 K') → Calls Try.prog 5 #[.slice (some ⟨g, 0, none⟩) n n, .slice (some ⟨g', 0, none⟩) m m] V fun e w' => e = .returned (.bool (eqTB n K m K')) ∧ Below V.heap.size V w') := fun g g' V h h' =>
    specLexSame_any _ _ g 0 n n g' 0 m m K K' V (fun _ => rfl) (TkIn.of_row h) (fun _ => rfl) (TkIn.of_row h') (by omega) (by omega)
  have HI : Hid (∀ g g' V, V.rowIs g 29 (n * 3) (flat3 K) → V.rowIs g' 29 (m * 3) (flat3 K') → Calls Try.prog 7 #[.slice (some ⟨g, 0, none⟩) n n, .slice (some ⟨g', 0, none⟩) m m] V fun e w' => e = .returned (.bool (eqTB n K m K')) ∧ Below V.heap.size V w') := fun g g' V h h' =>
    implLexSame_any _ _ g 0 n n g' 0 m m K K' V (fun _ => rfl) (TkIn.of_row h) (fun _ => rfl) (TkIn.of_row h') (by omega) (by omega)
  have HQ : Hid (∀ l (F : Nat → Tk) g g' V, l ≤ 1048576 → V.rowIs g 29 (l * 3) (flat3 F) → V.rowIs g' 29 (l * 3) (flat3 F) → Calls Try.prog 8 #[.slice (some ⟨g, 0, none⟩) l l, .slice (some ⟨g', 0, none⟩) l l] V fun e w' => e = .returned (.bool true) ∧ Below V.heap.size V w') := fun l F g g' V hl h h' => by
    have := eqTokS_any (some ⟨g, 0, none⟩) (some ⟨g', 0, none⟩) g 0 l l g' 0 l l F F V (fun _ => rfl) (TkIn.of_row h) (fun _ => rfl) (TkIn.of_row h') (by omega) (by omega)
    rwa [eqTB_all (fun _ _ => rfl)] at this
  obtain ⟨R, hR⟩ : ∃ R, R = eqTB n K m K' := ⟨_, rfl⟩
  have hRR : (R != R) = false := by simp
  rw [← hR] at HS HI
  clear hc hc' hga hga' hn hm hR
  go_enter Try.func3, Try.ntmps3
  go_wp2_with fail
  refine HZ.mono ?_
  rintro e w1 ⟨rfl, e1⟩
  subst w1
  go_wp2_with fail
  refine HZ2.mono ?_
  rintro e w1 ⟨rfl, e1⟩
  subst w1
  go_wp2_with fail
  refine (HA.out _ (Below.refl _ _)).mono ?_
  rintro e w2 ⟨g2, rfl, hr2, _, hb2⟩
  have HR2 : Hid (w2.rowIs g2 29 (n * 3) (flat3 K)) := hr2
  clear hr2
  go_wp2_with fail
  refine (HA'.out _ hb2).mono ?_
  rintro e w3 ⟨g3, rfl, hr3, _, hb3⟩
  have hB3 := hb2.trans (hb3.mono hb2.size)
  have HR3 : Hid (w3.rowIs g3 29 (m * 3) (flat3 K')) := hr3
  have HR23 : Hid (w3.rowIs g2 29 (n * 3) (flat3 K)) := row_below HR2.out hb3
  clear hr3 hb3
  go_wp2_with fail
  refine (HS.out _ _ _ HR23.out HR3.out).mono ?_
  rintro e w4 ⟨rfl, hb4⟩
  have hB4 := hB3.trans (hb4.mono hB3.size)
  clear hb4
  go_wp2_with fail
  refine (HA.out _ hB4).mono ?_
  rintro e w5 ⟨g5, rfl, hr5, _, hb5⟩
  have hB5 := hB4.trans (hb5.mono hB4.size)
  have HR5 : Hid (w5.rowIs g5 29 (n * 3) (flat3 K)) := hr5
  clear hr5 hb5
  go_wp2_with fail
  refine (HA'.out _ hB5).mono ?_
  rintro e w6 ⟨g6, rfl, hr6, _, hb6⟩
  have hB6 := hB5.trans (hb6.mono hB5.size)
  have HR6 : Hid (w6.rowIs g6 29 (m * 3) (flat3 K')) := hr6
  have HR56 : Hid (w6.rowIs g5 29 (n * 3) (flat3 K)) := row_below HR5.out hb6
  clear hr6 hb6
  go_wp2_with fail
  refine (HI.out _ _ _ HR56.out HR6.out).mono ?_
  rintro e w7 ⟨rfl, hb7⟩
  have hB7 := hB6.trans (hb7.mono hB6.size)
  have HR57 : Hid (w7.rowIs g5 29 (n * 3) (flat3 K)) := row_below HR56.out hb7
  have HR67 : Hid (w7.rowIs g6 29 (m * 3) (flat3 K')) := row_below HR6.out hb7
  clear hb7
  go_wp2_with fail
  refine (HA.out _ hB7).mono ?_
  rintro e w8 ⟨g8, rfl, hr8, _, hb8⟩
  have hB8 := hB7.trans (hb8.mono hB7.size)
  have HQ8 : Hid (Calls Try.prog 8 #[.slice (some ⟨g5, 0, none⟩) n n, .slice (some ⟨g8, 0, none⟩) n n] w8 fun e w' => e = .returned (.bool true) ∧ Below w8.heap.size w8 w') := HQ.out n K g5 g8 w8 hn1 (row_below HR57.out hb8) hr8
  have HR68 : Hid (w8.rowIs g6 29 (m * 3) (flat3 K')) := row_below HR67.out hb8
  clear hr8 hb8
  go_wp2_with fail
  refine HQ8.out.mono ?_
  rintro e w9 ⟨rfl, hb9⟩
  have hB9 := hB8.trans (hb9.mono hB8.size)
  have HR69 : Hid (w9.rowIs g6 29 (m * 3) (flat3 K')) := row_below HR68.out hb9
  clear hb9
  go_wp2_with fail
  refine (HA'.out _ hB9).mono ?_
  rintro e w10 ⟨g10, rfl, hr10, _, hb10⟩
  have hB10 := hB9.trans (hb10.mono hB9.size)
  have HQ10 : Hid (Calls Try.prog 8 #[.slice (some ⟨g6, 0, none⟩) m m, .slice (some ⟨g10, 0, none⟩) m m] w10 fun e w' => e = .returned (.bool true) ∧ Below w10.heap.size w10 w') := HQ.out m K' g6 g10 w10 hm1 (row_below HR69.out hb10) hr10
  clear hr10 hb10
  go_wp2_with fail
  refine HQ10.out.mono ?_
  rintro e w11 ⟨rfl, hb11⟩
  go_wp2_with fail
  go_ret
  exact ⟨rfl, hB10.trans (hb11.mono hB10.size)⟩
end Go.Proofs.Ytndjblfenijjbaa

