/- the last place of a set of places: plain numbers, and the walks of Len16 and last -/
import Derived.Test.YtplpdikkkbiacaaGreatDoorMm
import Derived.Test.YtplpdikkkbiacaaGreatDoorTm
import Derived.Test.YtplpdikkkbiacaaGreatDoorMb
import Derived.Lib.BitFns
namespace Go.Proofs.YtplpdikkkbiacaaGreatDoor
open Go.RowKit
set_option linter.unusedVariables false
set_option linter.unusedSimpArgs false

theorem Mp.of_block {w w' : World} {b n : Nat} {F : Nat → Nat → Nat → Bool} (h : Mp w b n F) (e : w'.heap[b]? = w.heap[b]?) : Mp w' b n F := by
  obtain ⟨D, ⟨es, c, hb, hr⟩, hD⟩ := h
  exact ⟨D, ⟨es, c, e.trans hb, hr⟩, hD⟩

theorem Rd.of {mb bm : Nat} {s : ByteArray} {w : World} {g : Option Addr} {c : Nat} {ps : List Pt} (h : St mb s bm w g c ps) (h0 : 0 < ps.length) (hok : ∀ P ∈ ps, PtOk mb w P) : ∃ gp, g = some ⟨gp, 0, none⟩ ∧ Rd w mb bm s gp c ps := by
  obtain ⟨h1, h2⟩ := h
  rcases h2.2 with ⟨_, e⟩ | ⟨gp, cap, cur, e, _⟩
  · omega
  · simp only [Value.slice.injEq] at e
    obtain ⟨rfl, _, rfl⟩ := e
    refine ⟨gp, rfl, h1.c0, h1.c1, h1.c2, fun x P hP => ?_, hok⟩
    have hx := (List.getElem?_eq_some_iff.1 hP).1
    have cell : ∀ i, i < 4 → w.cell? ⟨gp, x * 4 + i, none⟩ = P.enc[i]? := fun i hi => by
      rw [World.ownsRow.cellAt h2 (x * 4 + i) (by omega)]
      exact encs_at hP i hi
    exact ⟨cell 0 (by omega), cell 1 (by omega), cell 2 (by omega), cell 3 (by omega)⟩

set_option maxRecDepth 100000 in
set_option maxHeartbeats 4000000 in
theorem endsOf_any (S : Sh) (M : Mx) (s : ByteArray) (hs : s.size ≤ 12) (d : Nat) (hf : formB d S = true) (w : World) (hin : In AnyB w S M) (hcnt : cnt S ≤ 1048576) :
    Calls Tryz.prog 50 #[vx S M, .string s] w fun e w' => e = .returned (.int .u16 (pw (EB (tx s) S 0))) ∧ Below w.heap.size w w' := by
  obtain ⟨a, n, c, a', m, c', z1, z2⟩ := hin.slices
  have hv : vx S M = .agg #[.int .i64 S.kind, .slice a n c, .slice a' m c'] := by rw [vx, z1, z2]
  obtain ⟨W, hW⟩ : ∃ W, W = ((w.alloc (.cells #[.int .i64 S.kind, .slice a n c, .slice a' m c'] 50)).alloc (.map #[] 0)).alloc (.cells #[.string s, .slice none 0 0, .map (some (w.heap.size + 1))] 123) := ⟨_, rfl⟩
  have hB0 : Below w.heap.size w W := by rw [hW]; exact (((Below.refl _ _).alloc (Nat.le_refl _) _).alloc (by simp) _).alloc (by simp; omega) _
  have hWs : W.heap.size = w.heap.size + 3 := by rw [hW]; simp
  have hmp : Mp W (w.heap.size + 1) 0 (fun _ _ _ => false) := by
    have h := Mp.made (w.alloc (.cells #[.int .i64 S.kind, .slice a n c, .slice a' m c'] 50))
    have h2 := h.kept ((Below.refl _ _).alloc (Nat.le_refl _) (.cells #[.string s, .slice none 0 0, .map (some (w.heap.size + 1))] 123))
    rw [hW]
    simpa using h2
  have hmt : Mt W (w.heap.size + 2) s (.slice none 0 0) (w.heap.size + 1) := by
    have h := World.rowIs_alloc ((w.alloc (.cells #[.int .i64 S.kind, .slice a n c, .slice a' m c'] 50)).alloc (.map #[] 0)) #[.string s, .slice none 0 0, .map (some (w.heap.size + 1))] 123 (mtf s (.slice none 0 0) (w.heap.size + 1)) (fun i hi => by
      have : i = 0 ∨ i = 1 ∨ i = 2 := by simp at hi; omega
      rcases this with rfl | rfl | rfl <;> rfl)
    rw [hW]
    simpa [Mt] using h
  have hst : St (w.heap.size + 2) s (w.heap.size + 1) W none 0 [] := ⟨hmt, World.ownsRow_nil _ _ _ _⟩
  have x0 : W.cell? ⟨w.heap.size, 0, none⟩ = some (.int .i64 S.kind) := by rw [hW]; simp [go_sem]
  have x1 : W.cell? ⟨w.heap.size, 1, none⟩ = some (.slice a n c) := by rw [hW]; simp [go_sem]
  have x2 : W.cell? ⟨w.heap.size, 2, none⟩ = some (.slice a' m c') := by rw [hW]; simp [go_sem]
  have HADD : Hid (Calls Tryz.prog 69 #[.pointer (some ⟨w.heap.size + 2, 0, none⟩), .agg #[.int .i64 S.kind, .slice a n c, .slice a' m c']] W (AddRes S (w.heap.size + 2) s (w.heap.size + 1) [] none 0 W)) := by
    have h := add_any S d M (w.heap.size + 2) s (w.heap.size + 1) [] none 0 W hf ((hin.lt.mono (fun k hk => by omega)).keep (fun k hk hk' => hB0.block k (by omega))) hcnt (by have := szT_le S; simp; omega) Good.nil (by omega) hst
    rw [hv] at h
    exact h
  have HMP : Hid (Mp W (w.heap.size + 1) 0 (fun _ _ _ => false)) := hmp
  have HB0 : Hid (Below w.heap.size w W) := hB0
  have HWS : Hid (W.heap.size = w.heap.size + 3) := hWs
  have HRUN : Hid (∀ (qs : List Pt) (g' : Option Addr) (c2 : Nat) (w2 : World), St (w.heap.size + 2) s (w.heap.size + 1) w2 g' c2 ([] ++ qs) → Kp (w.heap.size + 2) (.slice none 0 0) (.slice g' ([] ++ qs).length c2) W w2 → AddOk S (w.heap.size + 2) W [] qs →
      Below w.heap.size w w2 ∧ Calls Tryz.prog 70 #[.pointer (some ⟨w.heap.size + 2, 0, none⟩)] w2 (RunRes (w.heap.size + 2) (w.heap.size + 1) s qs w2) ∧ ∀ w3, RunRes (w.heap.size + 2) (w.heap.size + 1) s qs w2 (.returned (.tuple #[])) w3 → Below w.heap.size w w3 ∧ w3.cell? ⟨w.heap.size + 2, 2, none⟩ = some (.map (some (w.heap.size + 1))) ∧
        (Instr.lookup 120 (.map (some (w.heap.size + 1))) (.agg #[.int .i64 ((qs.length - 1 : Nat) : Int), .int .i64 0]) false).run Tryz.prog w3 = .ok (.int .u16 (pw (EB (tx s) S 0) : Int)) w3) := by
    intro qs g' c2 w2 hst2 hkp hok
    rw [List.nil_append] at hst2 hkp
    obtain ⟨o1, o2, o3, ⟨top, o4, o5⟩, o6⟩ := hok
    rw [List.nil_append] at o3 o4
    have hbm : Below (w.heap.size + 2) W w2 := hkp.below (by omega) (fun k hk => by simp [Value.ownBlock] at hk)
    have hb2 : Below w.heap.size w w2 := hB0.trans (hbm.mono (by omega))
    have hok2 : ∀ P ∈ qs, PtOk (w.heap.size + 2) w2 P := fun P hP => ⟨(o6 P hP).1.keep (fun k hk _ => hbm.block k hk), (o6 P hP).2⟩
    obtain ⟨gp, rfl, hrd⟩ := Rd.of hst2 o1 hok2
    have hmp2 : Mp w2 (w.heap.size + 1) 0 (fun _ _ _ => false) := hmp.of_block (hbm.block _ (by omega))
    have hl : qs.length ≤ 4194304 := by have := szT_le S; omega
    refine ⟨hb2, run_any (w.heap.size + 2) (w.heap.size + 1) s hs gp c2 qs hl w2 o3 hrd hmp2, fun w3 hres => ?_⟩
    obtain ⟨_, hg3, N, F, hm3, hk3⟩ := hres
    refine ⟨hb2.grown hg3 hb2.size (fun k hk => by cases hk; omega), cell_keep hmp2.block hg3 hrd.2.2.1, ?_⟩
    have h := hm3.look (p := qs.length - 1) (i := 0) (by omega) (by omega)
    have e : F (qs.length - 1) 0 = EB (tx s) S 0 := by
      funext j
      have := hk3 (qs.length - 1) 0 (Nat.zero_le _) (by omega) top (by simpa using o4) j
      rw [this, o5]
    rw [e] at h
    simpa using h
  rw [hv]
  clear hv hin z1 z2 hB0 hWs hmp hmt hst hf hcnt
  have hmm : ∀ V : World, (Instr.makeMap 120 none).run Tryz.prog V = .ok (.map (some V.heap.size)) (V.alloc (.map #[] 0)) := fun V => by simp [Instr.makeMap]
  go_enter Tryz.func50, Tryz.ntmps50
  go_wp2_with fail
  rw [← hW]
  clear hW
  refine HADD.out.mono ?_
  rintro e w2 ⟨qs, g', c2, rfl, hst2, hkp, hok⟩
  obtain ⟨hb2, hrun, hend⟩ := HRUN.out qs g' c2 w2 hst2 hkp hok
  have HEND : Hid (∀ w3, RunRes (w.heap.size + 2) (w.heap.size + 1) s qs w2 (.returned (.tuple #[])) w3 → Below w.heap.size w w3 ∧ w3.cell? ⟨w.heap.size + 2, 2, none⟩ = some (.map (some (w.heap.size + 1))) ∧
        (Instr.lookup 120 (.map (some (w.heap.size + 1))) (.agg #[.int .i64 ((qs.length - 1 : Nat) : Int), .int .i64 0]) false).run Tryz.prog w3 = .ok (.int .u16 (pw (EB (tx s) S 0) : Int)) w3) := hend
  have HR : Hid (Calls Tryz.prog 70 #[.pointer (some ⟨w.heap.size + 2, 0, none⟩)] w2 (RunRes (w.heap.size + 2) (w.heap.size + 1) s qs w2)) := hrun
  clear hst2 hkp hok hrun hend hb2
  go_wp2_with fail
  refine HR.out.mono ?_
  rintro e w3 ⟨rfl, hres⟩
  obtain ⟨hb3, e2, hlk⟩ := HEND.out w3 ⟨rfl, hres⟩
  clear hres
  go_wp2_with fail
  go_ret
  exact ⟨rfl, hb3⟩
end Go.Proofs.YtplpdikkkbiacaaGreatDoor
namespace Go.Proofs.YtplpdikkkbiacaaGreatDoor
open Go.RowKit
set_option linter.unusedVariables false
set_option linter.unusedSimpArgs false

/-- the greatest number below n that B has, or -1 -/
def topI (B : Nat → Bool) : Nat → Int
  | 0 => -1
  | n + 1 => if B n then (n : Int) else topI B n
theorem topI_lo (B : Nat → Bool) (n : Nat) : -1 ≤ topI B n ∧ topI B n < n := by
  induction n with
  | zero => simp [topI]
  | succ n ih => rw [topI]; split <;> omega
theorem topI_yes {B : Nat → Bool} {n : Nat} (h : B n = true) : topI B (n + 1) = n := by rw [topI, if_pos h]
theorem topI_no {B : Nat → Bool} {n : Nat} (h : B n = false) : topI B (n + 1) = topI B n := by rw [topI, if_neg (by simp [h])]
theorem topI_congr {A B : Nat → Bool} {n : Nat} (h : ∀ j, j < n → A j = B j) : topI A n = topI B n := by
  induction n with
  | zero => rfl
  | succ n ih => rw [topI, topI, h n (by omega), ih (fun j hj => h j (by omega))]
theorem topI_more {B : Nat → Bool} {n m : Nat} (hnm : n ≤ m) (h : ∀ j, n ≤ j → B j = false) : topI B m = topI B n := by
  induction m with
  | zero => rw [show n = 0 by omega]
  | succ m ih =>
    by_cases e : n = m + 1
    · rw [e]
    · rw [topI_no (h m (by omega)), ih (by omega)]

theorem bitLen_wd (B : Nat → Bool) (n : Nat) (hn : n ≤ 16) : (Lib.bitLen (wd B n) : Int) = topI B n + 1 := by
  induction n with
  | zero => rfl
  | succ n ih =>
    have h1 := wd_lt B n
    have h2 := wd_lt B (n + 1)
    have h3 : 2 ^ (n + 1) ≤ 2 ^ 64 := Nat.pow_le_pow_right (by omega) (by omega)
    cases hB : B n with
    | false =>
      rw [topI_no hB, wd, hB, if_neg (by simp), Nat.or_zero]
      exact ih (by omega)
    | true =>
      rw [topI_yes hB]
      have h4 : 2 ^ n ≤ wd B (n + 1) := by
        rw [wd, hB, if_pos rfl]
        exact Nat.right_le_or
      have h5 : wd B (n + 1) / 2 ^ n = 1 := by
        rw [Nat.pow_succ] at h2
        refine Nat.le_antisymm ?_ ?_
        · exact Nat.le_of_lt_succ ((Nat.div_lt_iff_lt_mul (Nat.two_pow_pos n)).2 (by omega))
        · exact (Nat.le_div_iff_mul_le (Nat.two_pow_pos n)).2 (by omega)
      rw [Lib.bitLen_shift n _ h4 (by omega), h5, show Lib.bitLen 1 = 1 from by decide]
      omega
theorem bitLen_pw (B : Nat → Bool) : (Lib.bitLen (pw B) : Int) = topI B 13 + 1 := bitLen_wd B 13 (by omega)

set_option maxHeartbeats 4000000 in
set_option maxRecDepth 100000 in
theorem len16_any (x : Int) (w : World) (h0 : 0 ≤ x) (h1 : x ≤ 65535) :
    Calls Tryz.prog 71 #[.int .u16 x] w fun e w' => e = .returned (.int .i64 (Lib.bitLen x.toNat)) ∧ w' = w := by
  by_cases hx : x < 256
  · have h2 : x ≤ 255 := by omega
    have l := Lib.bitLen_le8' x h0 h2
    have e := Lib.len8_of x h0 h2
    go_enter Tryz.func71, Tryz.ntmps71
    go_wp2
    all_goals (go_ret; refine ⟨congrArg Ending.returned (congrArg (Value.int IntKind.i64) ?_), rfl⟩)
    all_goals omega
  · have h2 : x / 256 ≤ 255 := by omega
    have h3 : 0 ≤ x / 256 := by omega
    have l := Lib.bitLen_le8' (x / 256) h3 h2
    have e := Lib.len8_of (x / 256) h3 h2
    have s := Lib.bitLen_shift8 x.toNat (by omega) (by omega)
    rw [show (x / 256).toNat = x.toNat / 256 by omega] at l e
    have hx' : 256 ≤ x := by omega
    go_enter Tryz.func71, Tryz.ntmps71
    go_wp2
    all_goals (go_ret; refine ⟨congrArg Ending.returned (congrArg (Value.int IntKind.i64) ?_), rfl⟩)
    all_goals omega

set_option maxHeartbeats 400000 in
theorem last_any (B : Nat → Bool) (w : World) : Calls Tryz.prog 51 #[.int .u16 (pw B)] w fun e w' => e = .returned (.int .i64 (topI B 13)) ∧ w' = w := by
  have h := pw_lt B
  have l := topI_lo B 13
  have H39 : Hid (Calls Tryz.prog 71 #[.int .u16 (pw B)] w fun e w' => e = .returned (.int .i64 (topI B 13 + 1)) ∧ w' = w) := by
    have h := len16_any (pw B) w (by omega) (by omega)
    rw [show ((pw B : Int)).toNat = pw B from rfl, bitLen_pw] at h
    exact h
  clear h
  go_enter Tryz.func51, Tryz.ntmps51
  go_wp2_with fail
  refine H39.out.mono ?_
  rintro e w1 ⟨rfl, rfl⟩
  go_wp2
  go_ret
  exact ⟨congrArg Ending.returned (congrArg (Value.int IntKind.i64) (by omega)), rfl⟩
end Go.Proofs.YtplpdikkkbiacaaGreatDoor

