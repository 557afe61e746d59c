/- the parts, sorted by slices.SortFunc: they lie in the order of their first bytes -/
import Derived.Test.YtjpmdbaalhieoaaDoorCb
import Derived.Test.YtjpmdbaalhieoaaDoorBx
import Derived.Test.YtjpmdbaalhieoaaDoorShF
namespace Go.Proofs.YtjpmdbaalhieoaaDoor
open Go.RowKit Go.Sort
set_option linter.unusedVariables false
set_option linter.unusedSimpArgs false

/-- the four words of a set -/
def enc4 (B : Nat → Bool) : List Value := [wc B 0, wc B 1, wc B 2, wc B 3]
theorem enc4_flat (P : List (Nat → Bool)) : cellsB P = P.flatMap enc4 := rfl
theorem enc4_len (B : Nat → Bool) : (enc4 B).length = 4 := rfl
/-- the order by first bytes -/
def cfB (A B : Nat → Bool) : Int := cmpI (fstI A) (fstI B)
theorem ltB_is (A B : Nat → Bool) : ltOf cfB A B = decide (fstI A < fstI B) := cmpI_lt
theorem swoB : SWO (ltOf cfB) where
  irrefl := fun x => by rw [ltB_is]; simp
  trans := fun x y z h1 h2 => by
    rw [ltB_is] at *
    simp only [decide_eq_true_eq] at *
    omega
  ntrans := fun x y z h1 h2 => by
    rw [ltB_is] at *
    simp only [decide_eq_false_iff_not] at *
    omega
theorem entersCmp : ∀ args w, (callFunc 21 args).run Tryd.prog w = .ok (.enter 21 args) w := enters_of Tryd.func21 (by kernel_rfl) rfl
theorem TabZ.low {w w' : World} (h : TabZ w) (hb : Go.RowKit.Below 1 w w') : TabZ w' := fun i hi =>
  (hb.cell (p := ⟨0, i, none⟩) (Nat.lt_succ_self 0)).trans (h i hi)

theorem sortParts_any (g cap base : Nat) (P : List (Nat → Bool)) (w : World) (hown : w.ownsRow base 40 4 (.slice (some ⟨g, 0, none⟩) P.length cap) P.length (cellsB P)) (hP : PartsP P) (ht : TabZ w) (hb : 1 ≤ base) (hbw : base ≤ w.heap.size) :
    Calls Tryd.prog 20 #[.slice (some ⟨g, 0, none⟩) P.length cap, .func (.func 21) #[] #[]] w fun e w' =>
      e = .returned (.tuple #[]) ∧ w'.ownsRow base 40 4 (.slice (some ⟨g, 0, none⟩) P.length cap) P.length (cellsB (sortL P 256)) ∧ Go.RowKit.Below base w w' := by
  obtain ⟨hg1, hg2⟩ := hown.lt g rfl
  have hH : HoldsK enc4 4 w g 0 P.toArray := holdsK_own (e := 40) enc4_len (by rw [← enc4_flat]; exact hown)
  have hlen := hP.len
  have hcmp : CmpLays Tryd.prog 21 #[] enc4 4 cfB g 0 P.toArray.size w := fun m os dk hs x y => by
    have hT : TabZ (sortWorldK enc4 4 w g 0 m dk os) := ht.low (sortedK_below dk os (by omega) (by omega))
    exact sortCmp_gr x y (fstI x) (fstI y) _ hT (fstI_is x) (fstI_is y)
  have h := AnyQ.slices_SortFunc (P := Tryd.prog) (ρ := YtjpmdbaalhieoaaDoor.Tryd.laysSF_ren) YtjpmdbaalhieoaaDoor.Tryd.laysSF 4 Tryd.isAgg40 Tryd.sizeOf40 enc4 enc4_len (fun x v hv => by simp [enc4] at hv; rcases hv with rfl | rfl | rfl | rfl <;> rfl) cfB swoB 21 #[] g 0 cap P.toArray w entersCmp hcmp hH hg2 (by simp; omega)
  rw [List.size_toArray] at h
  refine h.mono ?_
  rintro e w' ⟨rfl, d', n, os, hp, hs, rfl⟩
  have hpl := perm_list hp
  have hsz : d'.size = P.length := by simpa using hp.1
  have hsl := sorted_list hsz hs
  have hL : d'.toList = sortL P 256 := sorted_parts hP hpl (hsl.imp (fun {A B} hAB => by rw [ltB_is] at hAB; simp only [decide_eq_false_iff_not] at hAB; omega))
  have hd : d' = (sortL P 256).toArray := by rw [← hL]
  refine ⟨rfl, ?_, sortedK_below _ _ hg1 hbw⟩
  rw [hd, enc4_flat]
  exact own_sortedK enc4_len (by rw [← enc4_flat]; exact hown) (by rw [← hL]; simpa using hsz) os
end Go.Proofs.YtjpmdbaalhieoaaDoor

