/- the walk of the law of SetParts -/
import Derived.Test.YtjpmdbaalhieoaaDoorCd
import Derived.Test.YtjpmdbaalhieoaaDoorJb
import Derived.Test.YtjpmdbaalhieoaaDoorKk
import Derived.Test.YtjpmdbaalhieoaaDoorJg
namespace Go.Proofs.YtjpmdbaalhieoaaDoor
open Go.RowKit
set_option linter.unusedVariables false
set_option linter.unusedSimpArgs false

theorem choose_of {α : Type} [Inhabited α] {n : Nat} {R : Nat → α → Prop} (h : ∀ i, i < n → ∃ x, R i x) : ∃ G : Nat → α, ∀ i, i < n → R i (G i) :=
  ⟨fun i => if hi : i < n then Classical.choose (h i hi) else default, fun i hi => by
    show R i (if hi : i < n then Classical.choose (h i hi) else default)
    rw [dif_pos hi]; exact Classical.choose_spec (h i hi)⟩

/-- a list of sets lies there, each the spans of its part -/
def SetsAt (w : World) (a : Option Addr) (B : Nat) (L : List (Nat → Bool)) : Prop :=
  (0 < L.length → a = some ⟨B, 0, none⟩) ∧ ∃ N : Nest, SS w B 0 L.length N ∧ ∀ i, i < L.length → N.n i = rlen L i ∧ N.L i = Lor (runs (atL L i) 256) ∧ N.H i = Hir (runs (atL L i) 256)
theorem SetsAt.of {w : World} {a : Option Addr} {B : Nat} {L : List (Nat → Bool)} (ha : 0 < L.length → a = some ⟨B, 0, none⟩)
    (h : ∀ i, i < L.length → ∃ (x : Value) (base : Nat), w.cell? ⟨B, i, none⟩ = some x ∧ SetIs w base x (atL L i)) : SetsAt w a B L := by
  have h2 : ∀ i, i < L.length → ∃ q : Option Addr × Nat × Nat, w.cell? ⟨B, i, none⟩ = some (.slice q.1 (rlen L i) q.2.2) ∧ (0 < rlen L i → q.1 = some ⟨q.2.1, 0, none⟩) ∧ Sp w q.2.1 0 (rlen L i) (Lor (runs (atL L i) 256)) (Hir (runs (atL L i) 256)) := fun i hi => by
    obtain ⟨x, base, hc, hs⟩ := h i hi
    obtain ⟨ax, g, c, rfl, h1, h2⟩ := hs.open
    exact ⟨(ax, g, c), hc, h1, h2⟩
  haveI : Inhabited (Option Addr × Nat × Nat) := ⟨(none, 0, 0)⟩
  obtain ⟨G, hG⟩ := choose_of h2
  exact ⟨ha, { a := fun i => (G i).1, b := fun i => (G i).2.1, off := fun _ => 0, cap := fun i => (G i).2.2, n := rlen L, L := fun i => Lor (runs (atL L i) 256), H := fun i => Hir (runs (atL L i) 256) },
    fun i hi => by have := hG i hi; simpa using this, fun i hi => ⟨rfl, rfl, rfl⟩⟩
theorem SetsAt.below {w w' : World} {a : Option Addr} {B : Nat} {L : List (Nat → Bool)} (h : SetsAt w a B L) (hb : Below w.heap.size w w') : SetsAt w' a B L := by
  obtain ⟨ha, N, hs, hn⟩ := h
  exact ⟨ha, N, hs.below hb, hn⟩
theorem LR.at {W : World} {base g c : Nat} {L : List (Nat → Bool)} {X : List Value} (h : LR W base (.slice (some ⟨g, 0, none⟩) L.length c) L X) : SetsAt W (some ⟨g, 0, none⟩) g L :=
  SetsAt.of (fun _ => rfl) (fun i hi => by
    have hx : i < X.length := by rw [h.len]; exact hi
    have hc := h.head.cellAt i (by omega)
    rw [List.getElem?_eq_getElem hx] at hc
    refine ⟨X[i], base, hc, ?_⟩
    have := h.sets i X[i] L[i] (List.getElem?_eq_getElem hx) (List.getElem?_eq_getElem hi)
    rwa [← atL_get hi] at this)
theorem Lst.at {w : World} {base B : Nat} {L : List (Nat → Bool)} {V : Nat → Value} {a : Option Addr} (ha : 0 < L.length → a = some ⟨B, 0, none⟩) (h : Lst w base B L.length V (rlen L) (rcel L)) : SetsAt w a B L :=
  SetsAt.of ha (fun i hi => ⟨V i, base, h.cell i hi, h.row i hi⟩)
theorem own_same {w w' : World} {base e size n : Nat} {v : Value} {xs : List Value} (h : w.ownsRow base e size v n xs) (hb : ∀ k, base ≤ k → k < w.heap.size → w'.heap[k]? = w.heap[k]?) : w'.ownsRow base e size v n xs := by
  refine ⟨h.1, ?_⟩
  rcases h.2 with h0 | ⟨g, cap, cur, e, h1, h2, r⟩
  · exact .inl h0
  · refine .inr ⟨g, cap, cur, e, h1, ?_, r⟩
    rw [hb g h1 ?_]; exact h2
    rcases Nat.lt_or_ge g w.heap.size with hlt | hge
    · exact hlt
    · rw [Array.getElem?_eq_none hge] at h2; cases h2
theorem Lst.keep {w w' : World} {base B n : Nat} {V : Nat → Value} {m : Nat → Nat} {X : Nat → List Value} (h : Lst w base B n V m X) (hB : 0 < n → base ≤ B) (e : ∀ k, base ≤ k → k < w.heap.size → w'.heap[k]? = w.heap[k]?) : Lst w' base B n V m X :=
  ⟨fun i hi => by
      have hc := h.cell i hi
      rw [World.cell?_of_block (e B (hB (by omega)) (World.block_lt_of_cell? _ _ hc))]; exact hc,
    fun i hi => own_same (h.row i hi) e, h.out, h.apart⟩
theorem Lst.below {w w' : World} {base B n : Nat} {V : Nat → Value} {m : Nat → Nat} {X : Nat → List Value} (h : Lst w base B n V m X) (hB : 0 < n → base ≤ B) (hb : Below w.heap.size w w') : Lst w' base B n V m X :=
  h.keep hB (fun k _ hk => hb.block k hk)

theorem partsOut_len (N : Nest) (n : Nat) : (partsOut N n).length ≤ 256 := by
  unfold partsOut
  by_cases h : okAll N n = true
  · rw [if_pos h, (sortL_perm (partsUp_ok (FN N) n).1).length_eq]
    exact (partsUp_ok (FN N) n).len
  · rw [if_neg h]; simp
theorem tot_rlen (L : List (Nat → Bool)) : ∀ n, tot (rlen L) n ≤ n * 256
  | 0 => by simp [tot]
  | n + 1 => by have := tot_rlen L n; have : rlen L n ≤ 256 := runs_le (atL L n); simp only [tot]; omega

theorem eqSets_any (a a' : Option Addr) (B B' c c' : Nat) (L : List (Nat → Bool)) (w : World) (hl : L.length ≤ 256) (h : SetsAt w a B L) (h' : SetsAt w a' B' L) :
    Calls Tryd.prog 8 #[.slice a L.length c, .slice a' L.length c'] w fun e w' => e = .returned (.bool true) ∧ Below w.heap.size w w' := by
  obtain ⟨ha, N, hs, hn⟩ := h
  obtain ⟨ha', N', hs', hn'⟩ := h'
  refine eqSS_any a a' B 0 c B' 0 c' L.length N N' w ha ha' hs hs' (by omega) (fun i hi => ?_) (fun i hi => ?_)
  · rw [(hn i hi).1]; have := runs_le (atL L i); unfold rlen; omega
  · obtain ⟨e1, e2, e3⟩ := hn i hi
    obtain ⟨f1, f2, f3⟩ := hn' i hi
    rw [e1, e2, e3, f1, f2, f3]
    exact ⟨rfl, fun _ _ => ⟨rfl, rfl⟩⟩
theorem Copy.apart {w : World} {B n : Nat} {N : Nest} {G : Nat → Nat} (h : Copy w B n N G) : ∀ i j, i < n → j < n → i ≠ j → G i ≠ G j := fun i j hi hj hij e => by
  rcases Nat.lt_or_ge i j with g | g
  · have := (h.2 j hj).2.2 i g; omega
  · have := (h.2 i hi).2.2 j (by omega); omega
theorem Copy.below {w w' : World} {B n : Nat} {N : Nest} {G : Nat → Nat} (h : Copy w B n N G) (hb : Below w.heap.size w w') : Copy w' B n N G := h.keep (fun x _ hx => hb.block x hx)
theorem Copy.lists {w : World} {B n : Nat} {N : Nest} {G : Nat → Nat} (h : Copy w B n N G) : Lists w B 34 33 2 n N.n G := ⟨h.1, fun i hi => ⟨_, (h.2 i hi).2.1⟩⟩
theorem eqCopies_any (B B' n : Nat) (N : Nest) (G G' : Nat → Nat) (w : World) (hn : n ≤ 1048576) (hm : ∀ i, i < n → N.n i ≤ 1048576) (h : Copy w B n N G) (h' : Copy w B' n N G') :
    Calls Tryd.prog 8 #[.slice (some ⟨B, 0, none⟩) n n, .slice (some ⟨B', 0, none⟩) n n] w fun e w' => e = .returned (.bool true) ∧ Below w.heap.size w w' :=
  eqSS_any _ _ B 0 n B' 0 n n (cpN N G) (cpN N G') w (fun _ => rfl) (fun _ => rfl) h.ss h'.ss (by omega) (fun i hi => by have := hm i hi; show N.n i ≤ 4194304; omega) (fun i hi => ⟨rfl, fun _ _ => ⟨rfl, rfl⟩⟩)

/-- what the model's SetParts gives -/
def SpecRes (L : List (Nat → Bool)) (w : World) (e : Ending) (w' : World) : Prop := ∃ g c, e = .returned (.slice (some ⟨g, 0, none⟩) L.length c) ∧ SetsAt w' (some ⟨g, 0, none⟩) g L ∧ Below w.heap.size w w'

set_option maxRecDepth 100000 in
set_option maxHeartbeats 4000000 in
theorem lawSetParts (a : Option Addr) (b off cap n : Nat) (N : Nest) (w : World) (ht : TabZ w) (hga : 0 < n → a = some ⟨b, off, none⟩) (hc : SS w b off n N) (hn : n ≤ 9223372036854775807) (hni : ∀ i, i < n → N.n i ≤ 9223372036854775807) :
    Calls Tryd.prog 3 #[.slice a n cap] w fun e w' => e = .returned (.bool true) ∧ Below w.heap.size w w' := by
  have HZ := szSS_any a b off cap n N 1048576 w hga hc (by omega) (by omega) hn hni
  by_cases hb : 1048576 < n + tot N.n n
  · rw [show leftOf 1048576 (n + tot N.n n) = -1 from leftOf_neg (by omega)] at HZ
    clear hc hni
    go_enter Tryd.func3, Tryd.ntmps3
    go_wp2_with fail
    refine HZ.mono ?_
    rintro e w1 ⟨rfl, e1⟩
    subst w1
    go_wp2_with fail
    go_ret
    exact ⟨rfl, Below.refl _ _⟩
  obtain ⟨z, hz⟩ : ∃ z : Nat, n + tot N.n n = z := ⟨_, rfl⟩
  rw [show leftOf 1048576 (n + tot N.n n) = 1048576 - (z : Int) by rw [leftOf_pos (by omega), hz]] at HZ
  have HZ' : Hid (Calls Tryd.prog 4 #[.slice a n cap, .int .i64 1048576] w fun e w' => e = .returned (.int .i64 (1048576 - (z : Int))) ∧ w' = w) := HZ
  have hz1 : ¬ 1048576 - (z : Int) < 0 := by omega
  have hn1 : n ≤ 1048576 := by omega
  have HM : Hid (∀ i, i < n → N.n i ≤ 1048576) := fun i hi => by have := tot_at N.n hi; omega
  have HTT : Hid (tot N.n n ≤ 1048576) := by show tot N.n n ≤ 1048576; omega
  have hw0 : 0 < w.heap.size := World.block_lt_of_cell? _ _ (ht 0 (by omega))
  have HT : Hid (∀ V, Below w.heap.size w V → TabZ V) := fun V hb => ht.below hb
  have HA : Hid (∀ V, Below w.heap.size w V → Calls Tryd.prog 6 #[.slice a n cap] V (ToSSRes n N V)) := fun V hb => toSS_any a b off cap n N V hga (hc.below hb) hn1 HM.out
  obtain ⟨L, hL⟩ : ∃ L, L = partsOut N n := ⟨_, rfl⟩
  have hL256 : L.length ≤ 256 := by rw [hL]; exact partsOut_len N n
  have HTR : Hid (tot (rlen L) L.length ≤ 4194304) := by
    have := tot_rlen L L.length
    have h2 : L.length * 256 ≤ 256 * 256 := Nat.mul_le_mul_right _ hL256
    show tot (rlen L) L.length ≤ 4194304
    omega
  have H5 : Hid (∀ B G V, Copy V B n N G → Calls Tryd.prog 5 #[.slice (some ⟨B, 0, none⟩) n n] V (SpecRes L V)) := fun B G V h => by
    have h1 := specSetParts_any (some ⟨B, 0, none⟩) B 0 n n (cpN N G) V (fun _ => rfl) h.ss (fun i hi => by have := HM.out i hi; show N.n i ≤ 4194304; omega) (by omega)
    refine h1.mono ?_
    rintro e w' ⟨g, c, X', rfl, hlr, hb⟩
    have e1 : partsOut (cpN N G) n = L := by rw [hL]; rfl
    rw [e1] at hlr ⊢
    exact ⟨g, c, rfl, hlr.at, hb⟩
  have H7 : Hid (∀ B G V, Below w.heap.size w V → Copy V B n N G → Calls Tryd.prog 7 #[.slice (some ⟨B, 0, none⟩) n n] V (PartsRes L V)) := fun B G V hb h => by
    have h1 := implSetParts_any (some ⟨B, 0, none⟩) B 0 n n (cpN N G) V (fun _ => rfl) h.ss (fun i hi => by have := HM.out i hi; show N.n i ≤ 4194304; omega) (by omega) (HT.out V hb)
    have e1 : partsOut (cpN N G) n = L := by rw [hL]; rfl
    rwa [e1] at h1
  clear hc hni hz hL ht hb HZ hga
  go_enter Tryd.func3, Tryd.ntmps3
  go_wp2_with fail
  refine HZ'.out.mono ?_
  rintro e w1 ⟨rfl, e1⟩
  subst w1
  go_wp2_with fail
  refine (HA.out _ (Below.refl _ _)).mono ?_
  rintro e w2 ⟨rfl, ⟨G2, hcp2⟩, hb2⟩
  go_wp2_with fail
  refine (H5.out _ _ _ hcp2).mono ?_
  rintro e w3 ⟨gw, cw, rfl, hsw, hb3⟩
  have hB3 := hb2.trans (hb3.mono hb2.size)
  have HSW : Hid (∀ V, Below w3.heap.size w3 V → SetsAt V (some ⟨gw, 0, none⟩) gw L) := fun V hb => hsw.below hb
  clear hcp2 hsw
  go_wp2_with fail
  refine (HA.out _ hB3).mono ?_
  rintro e w4 ⟨rfl, ⟨G4, hcp4⟩, hb4⟩
  have hB4 := hB3.trans (hb4.mono hB3.size)
  have HCP : Hid (Copy w4 w3.heap.size n N G4) := hcp4
  have HB34 : Hid (Below w3.heap.size w3 w4) := hb4
  clear hcp4
  go_wp2_with fail
  refine (H7.out _ _ _ hB4 HCP.out).mono ?_
  rintro e w6 ⟨ag, bg, cg, V, rfl, hag, hlst, hbg, hb6⟩
  have hB6 := hB4.trans (hb6.mono hB4.size)
  have HAG : Hid (0 < L.length → ag = some ⟨bg, 0, none⟩) := hag
  have HLST : Hid (Lst w6 w4.heap.size bg L.length V (rlen L) (rcel L)) := hlst
  have HBG : Hid (0 < L.length → w4.heap.size ≤ bg) := fun h => (hbg h).1
  have HB36 : Hid (Below w3.heap.size w3 w6) := HB34.out.trans (hb6.mono HB34.out.size)
  have HB46 : Hid (Below w4.heap.size w4 w6) := hb6
  clear hag hlst hbg hb6
  go_wp2_with fail
  refine (eqSets_any ag (some ⟨gw, 0, none⟩) bg gw cg cw L w6 hL256 (HLST.out.at HAG.out) (HSW.out w6 HB36.out)).mono ?_
  rintro e w7 ⟨rfl, hb7⟩
  have hB7 := hB6.trans (hb7.mono hB6.size)
  have HB47 : Hid (Below w4.heap.size w4 w7) := HB46.out.trans (hb7.mono HB46.out.size)
  have HB67 : Hid (Below w6.heap.size w6 w7) := hb7
  clear hb7
  go_wp2_with fail
  refine (HA.out _ hB7).mono ?_
  rintro e w8 ⟨rfl, ⟨G8, hcp8⟩, hb8⟩
  have hB8 := hB7.trans (hb8.mono hB7.size)
  have HB48 : Hid (Below w4.heap.size w4 w8) := HB47.out.trans (hb8.mono HB47.out.size)
  have HB68 : Hid (Below w6.heap.size w6 w8) := HB67.out.trans (hb8.mono HB67.out.size)
  have HCP8 : Hid (Copy w8 w7.heap.size n N G8) := hcp8
  clear hcp8 hb8
  go_wp2_with fail
  refine (eqCopies_any w3.heap.size w7.heap.size n N G4 G8 w8 hn1 HM.out (HCP.out.below HB48.out) HCP8.out).mono ?_
  rintro e w9 ⟨rfl, hb9⟩
  have hB9 := hB8.trans (hb9.mono hB8.size)
  have HB49 : Hid (Below w4.heap.size w4 w9) := HB48.out.trans (hb9.mono HB48.out.size)
  have HB69 : Hid (Below w6.heap.size w6 w9) := HB68.out.trans (hb9.mono HB68.out.size)
  have HCP9 : Hid (Copy w9 w3.heap.size n N G4) := HCP.out.below HB49.out
  clear hb9
  go_wp2_with fail
  refine (markPS_any w3.heap.size n n N.n G4 1 w9 HCP9.out.lists HCP9.out.apart (by omega) (by omega) (by omega) (by have := HTT.out; omega)).mono ?_
  rintro e w10 ⟨rfl, hfr⟩
  have hk0 : ¬ ((1 : Int) + 2 * (tot N.n n : Int) < 0) := by omega
  have HG4 : Hid (∀ i, i < n → w3.heap.size < G4 i ∧ G4 i < w4.heap.size) := fun i hi => ⟨(HCP.out.2 i hi).1, (HCP.out.2 i hi).2.1.lt⟩
  have HB910 : Hid (Below w3.heap.size w9 w10) := hfr.below (fun k ⟨i, hi, e⟩ => by have := (HG4.out i hi).1; omega)
  have HS10 : Hid (w9.heap.size = w10.heap.size) := hfr.size.symm
  have HB310 : Hid (Below w3.heap.size w3 w10) := (HB34.out.trans (HB49.out.mono HB34.out.size)).trans HB910.out
  have HB10 : Hid (Below w.heap.size w w10) := hB9.trans (HB910.out.mono hB3.size)
  have HL10 : Hid (Lst w10 w4.heap.size bg L.length V (rlen L) (rcel L)) := HLST.out.keep HBG.out (fun k hk1 hk2 => by
    rw [hfr.block k (fun ⟨i, hi, e⟩ => by have := (HG4.out i hi).2; omega), HB69.out.block k hk2])
  clear hfr
  obtain ⟨kz, hkz⟩ : ∃ kz : Int, kz = 1 + 2 * (tot N.n n : Int) := ⟨_, rfl⟩
  rw [← hkz] at hk0 ⊢
  clear hkz
  go_wp2_with fail
  refine (eqSets_any ag (some ⟨gw, 0, none⟩) bg gw cg cw L w10 hL256 (HL10.out.at HAG.out) (HSW.out w10 HB310.out)).mono ?_
  rintro e w11 ⟨rfl, hb11⟩
  have HB11 : Hid (Below w.heap.size w w11) := HB10.out.trans (hb11.mono HB10.out.size)
  have HB311 : Hid (Below w3.heap.size w3 w11) := HB310.out.trans (hb11.mono HB310.out.size)
  have HS1011 : Hid (w10.heap.size ≤ w11.heap.size) := hb11.size
  have HL11 : Hid (Lst w11 w4.heap.size bg L.length V (rlen L) (rcel L)) := HL10.out.below HBG.out hb11
  clear hb11
  go_wp2_with fail
  refine (markSS_any ag bg cg L.length w4.heap.size V (rlen L) (rcel L) 1 w11 HAG.out HL11.out (by omega) (by omega) (by omega) HTR.out).mono ?_
  rintro e w12 ⟨rfl, hl12, hs12⟩
  have HL12 : Hid (Lst w12 w4.heap.size bg L.length V (rlen L) (markX 1 (rlen L) (rcel L) L.length)) := hl12
  have HS11 : Hid (w4.heap.size ≤ w11.heap.size) := Nat.le_trans HB49.out.size (Nat.le_trans (Nat.le_of_eq HS10.out) HS1011.out)
  have HB1112 : Hid (Below w4.heap.size w11 w12) := hs12.below HS11.out (fun i hi k hk => ((HL11.out.row i hi).lt k hk).1)
  have HB12 : Hid (Below w.heap.size w w12) := HB11.out.trans (HB1112.out.mono hB4.size)
  have HB312 : Hid (Below w3.heap.size w3 w12) := HB311.out.trans (HB1112.out.mono HB34.out.size)
  clear hl12 hs12
  obtain ⟨ym, hym⟩ : ∃ ym : Int, ym = 1 + 2 * (tot (rlen L) L.length : Int) := ⟨_, rfl⟩
  have hy0 : ¬ ym < 0 := by omega
  have hyy : (ym != ym) = false := by simp
  have HHE : Hid (∀ U, Lst U w4.heap.size bg L.length V (rlen L) (markX 1 (rlen L) (rcel L) L.length) → Calls Tryd.prog 10 #[.slice ag L.length cg, .int .i64 1] U fun e w' => e = .returned (.int .i64 ym) ∧ w' = U) := fun U hU => by
    rw [hym]
    exact heldSS_any ag bg cg L.length w4.heap.size V (rlen L) (rcel L) 1 U HAG.out hU (by omega) (by omega) (by omega) HTR.out
  rw [← hym]
  clear hym
  go_wp2_with fail
  refine (HHE.out _ HL12.out).mono ?_
  rintro e w13 ⟨rfl, e13⟩
  subst w13
  go_wp2_with fail
  refine (HA.out _ HB12.out).mono ?_
  rintro e w14 ⟨rfl, ⟨G14, hcp14⟩, hb14⟩
  have HB14 : Hid (Below w.heap.size w w14) := HB12.out.trans (hb14.mono HB12.out.size)
  have HB1214 : Hid (Below w12.heap.size w12 w14) := hb14
  clear hb14
  go_wp2_with fail
  refine (H7.out _ _ _ HB14.out hcp14).mono ?_
  rintro e w15 ⟨ah, bh, ch, V2, rfl, hah, hlst2, _, hb15⟩
  have HB15 : Hid (Below w.heap.size w w15) := HB14.out.trans (hb15.mono HB14.out.size)
  have HB1215 : Hid (Below w12.heap.size w12 w15) := HB1214.out.trans (hb15.mono HB1214.out.size)
  have HSA : Hid (SetsAt w15 ah bh L) := hlst2.at hah
  have HB315 : Hid (Below w3.heap.size w3 w15) := HB312.out.trans (HB1215.out.mono HB312.out.size)
  clear hah hlst2 hb15 hcp14
  go_wp2_with fail
  refine (eqSets_any ah (some ⟨gw, 0, none⟩) bh gw ch cw L w15 hL256 HSA.out (HSW.out w15 HB315.out)).mono ?_
  rintro e w16 ⟨rfl, hb16⟩
  have HB16 : Hid (Below w.heap.size w w16) := HB15.out.trans (hb16.mono HB15.out.size)
  have HL16 : Hid (Lst w16 w4.heap.size bg L.length V (rlen L) (markX 1 (rlen L) (rcel L) L.length)) := HL12.out.below HBG.out (HB1215.out.trans (hb16.mono HB1215.out.size))
  clear hb16
  go_wp2_with fail
  refine (HHE.out _ HL16.out).mono ?_
  rintro e w17 ⟨rfl, e17⟩
  subst w17
  go_wp2_with fail
  go_ret
  exact ⟨rfl, HB16.out⟩
end Go.Proofs.YtjpmdbaalhieoaaDoor

