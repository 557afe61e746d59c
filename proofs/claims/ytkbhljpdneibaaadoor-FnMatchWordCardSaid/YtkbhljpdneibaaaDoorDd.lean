/- The walks of l3Word, l1Min, l2Byte. -/
import Derived.Test.YtkbhljpdneibaaaDoorDc
namespace Go.Proofs.YtkbhljpdneibaaaDoor
open Go.RowKit
set_option linter.unusedVariables false
set_option linter.unusedSimpArgs false

theorem new_cell (w : World) (cs : Array Value) (t : TypeId) (i : Nat) (v : Value) (h : cs[i]? = some v) : (w.alloc (.cells cs t)).cell? ⟨w.heap.size, i, none⟩ = some v := by
  have hb : (w.alloc (.cells cs t)).heap[w.heap.size]? = some (.cells cs t) := by show (w.heap.push _)[w.heap.size]? = _; simp
  simp only [World.cell?]
  rw [hb]
  simpa using h
theorem below_new (w : World) (o : Obj) : Below w.heap.size w (w.alloc o) := (Below.refl _ _).alloc (Nat.le_refl _) _
theorem size_new (w : World) (o : Obj) : (w.alloc o).heap.size = w.heap.size + 1 := by show (w.heap.push o).size = _; simp

/-- the letters of a word -/
def letter (i : Nat) : ByteArray := ([⟨#[97]⟩, ⟨#[98]⟩, ⟨#[97]⟩, ⟨#[98]⟩, ⟨#[99]⟩, ⟨#[120]⟩, ⟨#[48]⟩, ⟨#[97]⟩, ⟨#[98]⟩, ⟨#[97]⟩, ⟨#[98]⟩, ⟨#[255]⟩, ⟨#[0]⟩] : List ByteArray).getD i ⟨#[]⟩
theorem letter_size : ∀ i, i < 13 → (letter i).size = 1 := fun i hi => by
  match i, hi with
    | 0, _ => rfl
    | 1, _ => rfl
    | 2, _ => rfl
    | 3, _ => rfl
    | 4, _ => rfl
    | 5, _ => rfl
    | 6, _ => rfl
    | 7, _ => rfl
    | 8, _ => rfl
    | 9, _ => rfl
    | 10, _ => rfl
    | 11, _ => rfl
    | 12, _ => rfl
theorem letter_at : ∀ i, i < 13 → (#[.string ⟨#[97]⟩, .string ⟨#[98]⟩, .string ⟨#[97]⟩, .string ⟨#[98]⟩, .string ⟨#[99]⟩, .string ⟨#[120]⟩, .string ⟨#[48]⟩, .string ⟨#[97]⟩, .string ⟨#[98]⟩, .string ⟨#[97]⟩, .string ⟨#[98]⟩, .string ⟨#[255]⟩, .string ⟨#[0]⟩] : Array Value)[i]? = some (.string (letter i)) := fun i hi => by
  match i, hi with
    | 0, _ => rfl
    | 1, _ => rfl
    | 2, _ => rfl
    | 3, _ => rfl
    | 4, _ => rfl
    | 5, _ => rfl
    | 6, _ => rfl
    | 7, _ => rfl
    | 8, _ => rfl
    | 9, _ => rfl
    | 10, _ => rfl
    | 11, _ => rfl
    | 12, _ => rfl

/-- some word is drawn -/
def WordRes (most rb p : Nat) (w : World) (e : Ending) (w' : World) : Prop := ∃ (s : ByteArray) (p' : Nat), e = .returned (.string s) ∧ s.size ≤ most ∧ p' ≤ p + most + 1 ∧ Rdr w' rb p' ∧ w.grownBy w' (some rb)

set_option maxRecDepth 100000 in
set_option maxHeartbeats 2000000 in
theorem word_any (rb p most : Nat) (hm : most ≤ 100) (hp : p + most + 1 ≤ 1000000) (w : World) (h : Rdr w rb p) :
    Calls Tryd.prog 31 #[.pointer (some ⟨rb, 0, none⟩), .int .i64 (most : Int)] w (WordRes most rb p w) := by
  have HP : Hid (Calls Tryd.prog 28 #[.pointer (some ⟨rb, 0, none⟩), .int .i64 ((most : Int) + 1)] w (PickRes ((most : Int) + 1) rb p w)) := pick_any rb p (by omega) _ (by omega) (by omega) w h
  go_enter Tryd.func31, Tryd.ntmps31
  go_wp2_with fail
  refine HP.out.mono ?_
  rintro e w1 ⟨i, rfl, ⟨i0, i1, i2⟩, hr, hg⟩
  obtain ⟨k, rfl⟩ : ∃ k : Nat, i = (k : Int) := ⟨i.toNat, by omega⟩
  have hk : k ≤ most := by have := i1 (by omega); omega
  clear h HP i0 i1 i2
  go_wp2_with fail
  go_loopg [5, 6] k (fun gk o ix wr => ∃ (s : ByteArray) (p' : Nat), ix = .int .i64 (gk : Int) ∧ o = .string s ∧ s.size + gk ≤ most ∧ p' + gk ≤ p + most + 1 ∧ Rdr wr rb p' ∧ w.grownBy wr (some rb))
  case atStart => exact ⟨⟨#[]⟩, p + 1, rfl, rfl, (by show 0 + k ≤ most; omega), by omega, hr, hg⟩
  case round =>
    clear hr hg hk
    obtain ⟨s, p', rfl, rfl, hs, hp', hr, hg⟩ := hrel
    cases gk with
    | zero =>
      have HR : Hid (WordRes most rb p w (.returned (.string s)) wr) := ⟨s, p', rfl, by omega, by omega, hr, hg⟩
      clear hr hg
      go_wp2_with fail
      go_ret
      exact HR.out
    | succ k' =>
      have hz : (0 : Int) < ((k' + 1 : Nat) : Int) := by omega
      have hrl := hr.lt
      have HO : Hid (Calls Tryd.prog 45 #[.pointer (some ⟨rb, 0, none⟩), .slice (some ⟨wr.heap.size, 0, none⟩) 13 13] (wr.alloc (.cells #[.string ⟨#[97]⟩, .string ⟨#[98]⟩, .string ⟨#[97]⟩, .string ⟨#[98]⟩, .string ⟨#[99]⟩, .string ⟨#[120]⟩, .string ⟨#[48]⟩, .string ⟨#[97]⟩, .string ⟨#[98]⟩, .string ⟨#[97]⟩, .string ⟨#[98]⟩, .string ⟨#[255]⟩, .string ⟨#[0]⟩] 9)) (OneRes (fun i => .string (letter i)) 13 rb p' (wr.alloc (.cells #[.string ⟨#[97]⟩, .string ⟨#[98]⟩, .string ⟨#[97]⟩, .string ⟨#[98]⟩, .string ⟨#[99]⟩, .string ⟨#[120]⟩, .string ⟨#[48]⟩, .string ⟨#[97]⟩, .string ⟨#[98]⟩, .string ⟨#[97]⟩, .string ⟨#[98]⟩, .string ⟨#[255]⟩, .string ⟨#[0]⟩] 9)))) :=
        of_any rb p' (by omega) wr.heap.size 13 13 letter (by omega) (by omega) _ (hr.below (below_new _ _)) (by omega) (fun i hi => new_cell _ _ _ _ _ (letter_at i hi))
      have HG : Hid (w.grownBy (wr.alloc (.cells #[.string ⟨#[97]⟩, .string ⟨#[98]⟩, .string ⟨#[97]⟩, .string ⟨#[98]⟩, .string ⟨#[99]⟩, .string ⟨#[120]⟩, .string ⟨#[48]⟩, .string ⟨#[97]⟩, .string ⟨#[98]⟩, .string ⟨#[97]⟩, .string ⟨#[98]⟩, .string ⟨#[255]⟩, .string ⟨#[0]⟩] 9)) (some rb)) := hg.trans (grown_of_below (below_new _ _))
      clear hr hg
      go_wp2_with fail
      refine HO.out.mono ?_
      rintro e w2 ⟨i, hi, rfl, hr2, hg2⟩
      have hl := letter_size i hi
      have hss : (s ++ letter i).size = s.size + 1 := by simp [hl]
      have hle : s.size + (letter i).size ≤ 1000 := by omega
      go_wp2_with fail
      go_roundg k'
      case measure => omega
      case rel => exact ⟨s ++ letter i, p' + 1, by congr 1, rfl, by omega, by omega, hr2, HG.out.trans hg2⟩

theorem l1Min_any (x y : Int) (w : World) : Calls Tryd.prog 62 #[.int .i64 x, .int .i64 y] w fun e w' => e = .returned (.int .i64 (if x < y then x else y)) ∧ w' = w := by
  by_cases h : x < y
  · go_enter Tryd.func62, Tryd.ntmps62
    go_wp2
    go_ret
    exact ⟨rfl, rfl⟩
  · go_enter Tryd.func62, Tryd.ntmps62
    go_wp2
    go_ret
    exact ⟨rfl, rfl⟩
end Go.Proofs.YtkbhljpdneibaaaDoor

