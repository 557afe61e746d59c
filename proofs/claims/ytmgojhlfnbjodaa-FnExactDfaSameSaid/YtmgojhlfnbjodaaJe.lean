/- the walks of DfaSame, both sides -/
import Derived.Test.YtmgojhlfnbjodaaJd
import Derived.Test.YtmgojhlfnbjodaaWd
import Derived.Deep.RegionHeld
namespace Go.Proofs.Ytmgojhlfnbjodaa
open Go.RowKit
set_option linter.unusedVariables false
set_option linter.unusedSimpArgs false

/-- what is told says whether P -/
def IsB (P : Prop) (w : World) (e : Ending) (w' : World) : Prop := ∃ b : Bool, e = .returned (.bool b) ∧ (b = true ↔ P) ∧ Below w.heap.size w w'
theorem IsB.no {P : Prop} {w w' : World} (h : ¬ P) (hb : Below w.heap.size w w') : IsB P w (.returned (.bool false)) w' := ⟨false, rfl, ⟨fun e => (by cases e), fun e => absurd e h⟩, hb⟩
theorem IsB.yes {P : Prop} {w w' : World} (h : P) (hb : Below w.heap.size w w') : IsB P w (.returned (.bool true)) w' := ⟨true, rfl, ⟨fun _ => h, fun _ => rfl⟩, hb⟩
theorem eqB_iff {n m : Nat} {L H L' H' : Nat → Int} : eqB n L H m L' H' = true ↔ n = m ∧ ∀ i, i < n → L i = L' i ∧ H i = H' i := by
  simp only [eqB, Bool.and_eq_true, beq_iff_eq, List.all_eq_true, List.mem_range]

set_option maxHeartbeats 400000 in
theorem specInts_any (a a' : Option Addr) (b off cap n b' off' cap' m : Nat) (G G' : Nat → Int) (w : World) (hga : 0 < n → a = some ⟨b, off, none⟩) (hc : Ip w b off n G)
    (hga' : 0 < m → a' = some ⟨b', off', none⟩) (hc' : Ip w b' off' m G') (hn : n ≤ 4194304) (hm : m ≤ 4194304) :
    Calls Try.prog 12 #[.slice a n cap, .slice a' m cap'] w (IsB (AEq n G m G') w) := by
  by_cases hnm : n = m
  · subst hnm
    have hnn : ((n : Int) != (n : Int)) = false := by simp
    go_enter Try.func12, Try.ntmps12
    go_wp2
    go_loopw [5] (fun i wr => ∃ k : Nat, k ≤ n ∧ i = .int .i64 k ∧ Hid (∀ j, j < k → G j = G' j) ∧ Below w.heap.size w wr) (fun i _ => n - (intOf i).toNat)
    case atStart => exact ⟨0, Nat.zero_le _, rfl, fun j hj => absurd hj (Nat.not_lt_zero _), Below.refl _ _⟩
    case round =>
      obtain ⟨k, hk, rfl, Hall, hB⟩ := hrel
      by_cases hlt : k < n
      · obtain rfl := hga (by omega)
        obtain rfl := hga' (by omega)
        have hltz : (k : Int) < (n : Int) := by omega
        have c1 := (hc.below hB) k hlt
        have c2 := (hc'.below hB) k hlt
        by_cases he : G k = G' k
        · have hne : (G k != G' k) = false := by simp [he]
          have HE : Hid (G k = G' k) := he
          clear he
          go_wp2_with fail
          go_quiet (fail)
          go_wp2
          go_roundw
          case rel => exact ⟨k + 1, by omega, by go_num, fun j hj => (by by_cases ej : j = k; exact ej ▸ HE.out; exact Hall.out j (by omega)), below_drewN hB _⟩
          case measure => simp [intOf]; omega
        · have hne : (G k != G' k) = true := by simp [he]
          have HE : Hid (¬ G k = G' k) := he
          clear he
          go_wp2_with fail
          go_quiet (fail)
          go_wp2
          go_ret
          exact .no (fun h => HE.out (h.2 k hlt)) (below_drewN hB _)
      · go_wp2
        go_ret
        obtain rfl : k = n := by omega
        exact .yes ⟨rfl, Hall.out⟩ hB
  · have hnn : ((n : Int) != (m : Int)) = true := by simp; omega
    go_enter Try.func12, Try.ntmps12
    go_wp2
    go_ret
    exact .no (fun h => hnm h.1) (Below.refl _ _)

set_option maxHeartbeats 400000 in
theorem implInts_any (a a' : Option Addr) (b off cap n b' off' cap' m : Nat) (G G' : Nat → Int) (w : World) (hga : 0 < n → a = some ⟨b, off, none⟩) (hc : Ip w b off n G)
    (hga' : 0 < m → a' = some ⟨b', off', none⟩) (hc' : Ip w b' off' m G') (hn : n ≤ 4194304) (hm : m ≤ 4194304) :
    Calls Try.prog 20 #[.slice a n cap, .slice a' m cap'] w (IsB (AEq n G m G') w) := by
  by_cases hnm : n = m
  · subst hnm
    have hnn : ((n : Int) != (n : Int)) = false := by simp
    go_enter Try.func20, Try.ntmps20
    go_wp2
    go_loopw [5, 13] (fun _ i wr => ∃ k : Nat, k ≤ n ∧ i = .int .i64 k ∧ Hid (∀ j, j < k → G j = G' j) ∧ Below w.heap.size w wr) (fun _ i _ => n - (intOf i).toNat)
    case atStart => exact ⟨0, Nat.zero_le _, rfl, fun j hj => absurd hj (Nat.not_lt_zero _), Below.refl _ _⟩
    case round =>
      obtain ⟨k, hk, rfl, Hall, hB⟩ := hrel
      by_cases hlt : k < n
      · obtain rfl := hga (by omega)
        obtain rfl := hga' (by omega)
        have hltz : (k : Int) < (n : Int) := by omega
        have c1 := (hc.below hB) k hlt
        have c2 := (hc'.below hB) k hlt
        by_cases he : G k = G' k
        · have hne : (G k != G' k) = false := by simp [he]
          have HE : Hid (G k = G' k) := he
          clear he
          go_wp2_with fail
          go_quiet (fail)
          go_wp2
          go_roundw
          case rel => exact ⟨k + 1, by omega, by go_num, fun j hj => (by by_cases ej : j = k; exact ej ▸ HE.out; exact Hall.out j (by omega)), below_drewN hB _⟩
          case measure => simp [intOf]; omega
        · have hne : (G k != G' k) = true := by simp [he]
          have HE : Hid (¬ G k = G' k) := he
          clear he
          go_wp2_with fail
          go_quiet (fail)
          go_wp2
          go_ret
          exact .no (fun h => HE.out (h.2 k hlt)) (below_drewN hB _)
      · go_wp2
        go_ret
        obtain rfl : k = n := by omega
        exact .yes ⟨rfl, Hall.out⟩ hB
  · have hnn : ((n : Int) != (m : Int)) = true := by simp; omega
    go_enter Try.func20, Try.ntmps20
    go_wp2
    go_ret
    exact .no (fun h => hnm h.1) (Below.refl _ _)

set_option maxHeartbeats 1000000 in
theorem eqFuncI_any (a a' : Option Addr) (b off cap n b' off' cap' m : Nat) (N N' : Nsi) (w : World) (hga : 0 < n → a = some ⟨b, off, none⟩) (hc : IS w b off n N)
    (hga' : 0 < m → a' = some ⟨b', off', none⟩) (hc' : IS w b' off' m N') (hn : n ≤ 4194304) (hm : m ≤ 4194304) (hni : ∀ i, i < n → N.n i ≤ 4194304) (hmi : ∀ i, i < m → N'.n i ≤ 4194304) :
    Calls Try.prog 19 #[.slice a n cap, .slice a' m cap', .func (.func 20) #[] #[]] w (IsB (REq n N m N') w) := by
  by_cases hnm : n = m
  · subst hnm
    have hnn : ((n : Int) != (n : Int)) = false := by simp
    go_enter Try.func19, Try.ntmps19
    go_wp2_with fail
    go_loopw [17] (fun i wr => ∃ k : Nat, k ≤ n ∧ i = .int .i64 k ∧ Hid (∀ j, j < k → AEq (N.n j) (N.G j) (N'.n j) (N'.G j)) ∧ Below w.heap.size w wr) (fun i _ => n - (intOf i).toNat)
    case atStart => exact ⟨0, Nat.zero_le _, rfl, fun j hj => absurd hj (Nat.not_lt_zero _), Below.refl _ _⟩
    case round =>
      obtain ⟨k, hk', rfl, HA, hB⟩ := hrel
      by_cases hlt : k < n
      · obtain rfl := hga (by omega)
        obtain rfl := hga' (by omega)
        have hltz : (k : Int) < (n : Int) := by omega
        obtain ⟨c1, g1, s1⟩ := (hc.below hB) k hlt
        obtain ⟨c2, g2, s2⟩ := (hc'.below hB) k hlt
        have hcall : Hid (∀ W, Below wr.heap.size wr W → Calls Try.prog 20 #[.slice (N.a k) (N.n k) (N.cap k), .slice (N'.a k) (N'.n k) (N'.cap k)] W (IsB (AEq (N.n k) (N.G k) (N'.n k) (N'.G k)) W)) := fun W hW =>
          implInts_any (N.a k) (N'.a k) (N.b k) (N.off k) (N.cap k) (N.n k) (N'.b k) (N'.off k) (N'.cap k) (N'.n k) (N.G k) (N'.G k) W g1 (s1.below hW) g2 (s2.below hW) (hni k hlt) (hmi k hlt)
        go_wp2_with fail
        refine (hcall.out _ (Below.refl _ _)).mono ?_
        rintro e w1 ⟨ok, rfl, hok, hb1⟩
        have HOK : Hid (ok = true ↔ AEq (N.n k) (N.G k) (N'.n k) (N'.G k)) := hok
        clear hok hcall
        cases ok
        · go_wp2_with fail
          go_ret
          exact .no (fun h => by have := HOK.out.2 (h.2 k hlt); cases this) (hB.trans (hb1.mono hB.size))
        · go_wp2_with fail
          go_roundw
          case rel => exact ⟨k + 1, by omega, by go_num, fun j hj => (by by_cases ej : j = k; exact ej ▸ HOK.out.1 (by simp); exact HA.out j (by omega)), hB.trans (hb1.mono hB.size)⟩
          case measure => simp [intOf]; omega
      · go_wp2_with fail
        go_ret
        obtain rfl : k = n := by omega
        exact .yes ⟨rfl, HA.out⟩ hB
  · have hnn : ((n : Int) != (m : Int)) = true := by simp; omega
    go_enter Try.func19, Try.ntmps19
    go_wp2_with fail
    go_ret
    exact .no (fun h => hnm h.1) (Below.refl _ _)
/-- the two sets at k are one -/
def PQ (N N' : Nest) (k : Nat) : Prop := N.n k = N'.n k ∧ ∀ j, j < N.n k → N.L k j = N'.L k j ∧ N.H k j = N'.H k j

set_option maxHeartbeats 1000000 in
theorem eqFuncP_any (a a' : Option Addr) (b off cap n b' off' cap' m : Nat) (N N' : Nest) (w : World) (hga : 0 < n → a = some ⟨b, off, none⟩) (hc : SS w b off n N)
    (hga' : 0 < m → a' = some ⟨b', off', none⟩) (hc' : SS w b' off' m N') (hn : n ≤ 4194304) (hm : m ≤ 4194304) (hni : ∀ i, i < n → N.n i ≤ 4194304) (hmi : ∀ i, i < m → N'.n i ≤ 4194304) :
    Calls Try.prog 17 #[.slice a n cap, .slice a' m cap', .func (.func 18) #[] #[]] w (IsB (PEq n N m N') w) := by
  by_cases hnm : n = m
  · subst hnm
    have hnn : ((n : Int) != (n : Int)) = false := by simp
    go_enter Try.func17, Try.ntmps17
    go_wp2_with fail
    go_loopw [17] (fun i wr => ∃ k : Nat, k ≤ n ∧ i = .int .i64 k ∧ Hid (∀ j, j < k → PQ N N' j) ∧ Below w.heap.size w wr) (fun i _ => n - (intOf i).toNat)
    case atStart => exact ⟨0, Nat.zero_le _, rfl, fun j hj => absurd hj (Nat.not_lt_zero _), Below.refl _ _⟩
    case round =>
      obtain ⟨k, hk', rfl, HA, hB⟩ := hrel
      by_cases hlt : k < n
      · obtain rfl := hga (by omega)
        obtain rfl := hga' (by omega)
        have hltz : (k : Int) < (n : Int) := by omega
        obtain ⟨c1, g1, s1⟩ := (hc.below hB) k hlt
        obtain ⟨c2, g2, s2⟩ := (hc'.below hB) k hlt
        have hcall : Hid (∀ W, Below wr.heap.size wr W → Calls Try.prog 18 #[.slice (N.a k) (N.n k) (N.cap k), .slice (N'.a k) (N'.n k) (N'.cap k)] W (IsB (PQ N N' k) W)) := fun W hW =>
          (implSetSame_any (N.a k) (N'.a k) (N.b k) (N.off k) (N.cap k) (N.n k) (N'.b k) (N'.off k) (N'.cap k) (N'.n k) (N.L k) (N.H k) (N'.L k) (N'.H k) W g1 (s1.below hW) g2 (s2.below hW) (hni k hlt) (hmi k hlt)).mono fun e w' h => ⟨_, h.1, eqB_iff, h.2⟩
        go_wp2_with fail
        refine (hcall.out _ (Below.refl _ _)).mono ?_
        rintro e w1 ⟨ok, rfl, hok, hb1⟩
        have HOK : Hid (ok = true ↔ PQ N N' k) := hok
        clear hok hcall
        cases ok
        · go_wp2_with fail
          go_ret
          exact .no (fun h => by have := HOK.out.2 (h.2 k hlt); cases this) (hB.trans (hb1.mono hB.size))
        · go_wp2_with fail
          go_roundw
          case rel => exact ⟨k + 1, by omega, by go_num, fun j hj => (by by_cases ej : j = k; exact ej ▸ HOK.out.1 (by simp); exact HA.out j (by omega)), hB.trans (hb1.mono hB.size)⟩
          case measure => simp [intOf]; omega
      · go_wp2_with fail
        go_ret
        obtain rfl : k = n := by omega
        exact .yes ⟨rfl, HA.out⟩ hB
  · have hnn : ((n : Int) != (m : Int)) = true := by simp; omega
    go_enter Try.func17, Try.ntmps17
    go_wp2_with fail
    go_ret
    exact .no (fun h => hnm h.1) (Below.refl _ _)

set_option maxHeartbeats 1000000 in
theorem implDfaSame_any (D D' : Dx) (w : World) (h : DIn w D) (h' : DIn w D') (hm : DLe D 4194304) (hm' : DLe D' 4194304) :
    Calls Try.prog 7 #[dv D, dv D'] w (IsB (DEq D D') w) := by
  have H1 : Hid (∀ w1, Below w.heap.size w w1 → Calls Try.prog 17 #[.slice D.pa D.pn D.pc, .slice D'.pa D'.pn D'.pc, .func (.func 18) #[] #[]] w1 (IsB (PEq D.pn D.P D'.pn D'.P) w1)) := fun w1 hb =>
    eqFuncP_any D.pa D'.pa D.pb D.poff D.pc D.pn D'.pb D'.poff D'.pc D'.pn D.P D'.P w1 h.pg (h.p.below hb) h'.pg (h'.p.below hb) hm.p hm'.p hm.pi hm'.pi
  have H2 : Hid (∀ w1, Below w.heap.size w w1 → Calls Try.prog 19 #[.slice D.ra D.rn D.rc, .slice D'.ra D'.rn D'.rc, .func (.func 20) #[] #[]] w1 (IsB (REq D.rn D.R D'.rn D'.R) w1)) := fun w1 hb =>
    eqFuncI_any D.ra D'.ra D.rb D.roff D.rc D.rn D'.rb D'.roff D'.rc D'.rn D.R D'.R w1 h.rg (h.r.below hb) h'.rg (h'.r.below hb) hm.r hm'.r hm.ri hm'.ri
  have H3 : Hid (∀ w1, Below w.heap.size w w1 → Calls Try.prog 20 #[.slice D.aa D.an D.ac, .slice D'.aa D'.an D'.ac] w1 (IsB (AEq D.an D.A D'.an D'.A) w1)) := fun w1 hb =>
    implInts_any D.aa D'.aa D.ab D.aoff D.ac D.an D'.ab D'.aoff D'.ac D'.an D.A D'.A w1 h.ag (h.a.below hb) h'.ag (h'.a.below hb) hm.a hm'.a
  rw [dv, dv]
  clear h h' hm hm'
  have hb0 : Below w.heap.size w ((w.alloc (.cells #[.slice D.pa D.pn D.pc, .slice D.ra D.rn D.rc, .slice D.aa D.an D.ac] 31)).alloc (.cells #[.slice D'.pa D'.pn D'.pc, .slice D'.ra D'.rn D'.rc, .slice D'.aa D'.an D'.ac] 31)) := ((Below.refl _ _).alloc (Nat.le_refl _) _).alloc (by simp) _
  go_enter Try.func7, Try.ntmps7
  go_wp2_with fail
  refine (H1.out _ hb0).mono ?_
  rintro e w1 ⟨ok1, rfl, hok1, hb1⟩
  have HK1 : Hid (ok1 = true ↔ PEq D.pn D.P D'.pn D'.P) := hok1
  obtain ⟨hc1, hf1⟩ := bcell hb1
  have p1 : w1.cell? ⟨w.heap.size, 1, none⟩ = some (.slice D.ra D.rn D.rc) := by rw [hc1 _ _ (by simp <;> omega)]; simp [go_sem]
  have p2 : w1.cell? ⟨w.heap.size, 2, none⟩ = some (.slice D.aa D.an D.ac) := by rw [hc1 _ _ (by simp <;> omega)]; simp [go_sem]
  have q1 : w1.cell? ⟨w.heap.size + 1, 1, none⟩ = some (.slice D'.ra D'.rn D'.rc) := by rw [hc1 _ _ (by simp <;> omega)]; simp [go_sem]
  have q2 : w1.cell? ⟨w.heap.size + 1, 2, none⟩ = some (.slice D'.aa D'.an D'.ac) := by rw [hc1 _ _ (by simp <;> omega)]; simp [go_sem]
  have hB1 := hb0.trans (hb1.mono hb0.size)
  have hz1 : w.heap.size + 2 ≤ w1.heap.size := by have := hb1.size; simp at this; omega
  clear hc1 hf1 hok1
  cases ok1
  · go_wp2_with fail
    go_ret
    exact .no (fun h => by have := HK1.out.2 h.1; cases this) hB1
  go_wp2_with fail
  refine (H2.out _ hB1).mono ?_
  rintro e w2 ⟨ok2, rfl, hok2, hb2⟩
  have HK2 : Hid (ok2 = true ↔ REq D.rn D.R D'.rn D'.R) := hok2
  obtain ⟨hc2, hf2⟩ := bcell hb2
  have p3 : w2.cell? ⟨w.heap.size, 2, none⟩ = some (.slice D.aa D.an D.ac) := by rw [hc2 _ _ (by omega)]; exact p2
  have q3 : w2.cell? ⟨w.heap.size + 1, 2, none⟩ = some (.slice D'.aa D'.an D'.ac) := by rw [hc2 _ _ (by omega)]; exact q2
  have hB2 := hB1.trans (hb2.mono hB1.size)
  clear hc2 hf2 p1 p2 q1 q2 hok2
  cases ok2
  · go_wp2_with fail
    go_ret
    exact .no (fun h => by have := HK2.out.2 h.2.1; cases this) hB2
  go_wp2_with fail
  refine (H3.out _ hB2).mono ?_
  rintro e w3 ⟨ok3, rfl, hok3, hb3⟩
  go_wp2_with fail
  go_ret
  exact ⟨ok3, rfl, hok3.trans ⟨fun h => ⟨HK1.out.1 (by simp), HK2.out.1 (by simp), h⟩, fun h => h.2.2⟩, hB2.trans (hb3.mono hB2.size)⟩

set_option maxHeartbeats 1000000 in
theorem specDfaSame_any (D D' : Dx) (w : World) (h : DIn w D) (h' : DIn w D') (hm : DLe D 4194304) (hm' : DLe D' 4194304) :
    Calls Try.prog 5 #[dv D, dv D'] w (IsB (DEq D D') w) := by
  have H1 : Hid (∀ w1, Below w.heap.size w w1 → SS w1 D.pb D.poff D.pn D.P ∧ SS w1 D'.pb D'.poff D'.pn D'.P ∧ IS w1 D.rb D.roff D.rn D.R ∧ IS w1 D'.rb D'.roff D'.rn D'.R) := fun w1 hb =>
    ⟨h.p.below hb, h'.p.below hb, h.r.below hb, h'.r.below hb⟩
  have H3 : Hid (∀ w1, Below w.heap.size w w1 → Calls Try.prog 12 #[.slice D.aa D.an D.ac, .slice D'.aa D'.an D'.ac] w1 (IsB (AEq D.an D.A D'.an D'.A) w1)) := fun w1 hb =>
    specInts_any D.aa D'.aa D.ab D.aoff D.ac D.an D'.ab D'.aoff D'.ac D'.an D.A D'.A w1 h.ag (h.a.below hb) h'.ag (h'.a.below hb) hm.a hm'.a
  have hpg := h.pg
  have hpg' := h'.pg
  have hrg := h.rg
  have hrg' := h'.rg
  have HM : Hid (DLe D 4194304 ∧ DLe D' 4194304) := ⟨hm, hm'⟩
  have hpn4 := hm.p
  have hrn4 := hm.r
  obtain ⟨pa, pb, poff, pc, pn, P, ra, rb, roff, rc, rn, R, aa, ab, aoff, ac, an, A⟩ := D
  obtain ⟨pa', pb', poff', pc', pn', P', ra', rb', roff', rc', rn', R', aa', ab', aoff', ac', an', A'⟩ := D'
  simp only at H1 H3 hpg hpg' hrg hrg' hpn4 hrn4
  simp only [dv]
  clear h h' hm hm'
  have hb0 : Below w.heap.size w ((w.alloc (.cells #[.slice pa pn pc, .slice ra rn rc, .slice aa an ac] 31)).alloc (.cells #[.slice pa' pn' pc', .slice ra' rn' rc', .slice aa' an' ac'] 31)) := ((Below.refl _ _).alloc (Nat.le_refl _) _).alloc (by simp) _
  by_cases e1 : pn = pn'
  case neg =>
    have hnn : ((pn : Int) != (pn' : Int)) = true := by simp; omega
    go_enter Try.func5, Try.ntmps5
    go_wp2_with fail
    go_ret
    exact .no (fun h => e1 h.1.1) hb0
  subst e1
  have hnn : ((pn : Int) != (pn : Int)) = false := by simp
  by_cases e2 : rn = rn'
  case neg =>
    have hnr : ((rn : Int) != (rn' : Int)) = true := by simp; omega
    go_enter Try.func5, Try.ntmps5
    go_wp2_with fail
    go_ret
    exact .no (fun h => e2 h.2.1.1) hb0
  subst e2
  have hnr : ((rn : Int) != (rn : Int)) = false := by simp
  go_enter Try.func5, Try.ntmps5
  go_wp2_with fail
  refine (H3.out _ hb0).mono ?_
  rintro e w1 ⟨ok1, rfl, hok1, hb1⟩
  have HK1 : Hid (ok1 = true ↔ AEq an A an' A') := hok1
  obtain ⟨hc1, hf1⟩ := bcell hb1
  have p0 : w1.cell? ⟨w.heap.size, 0, none⟩ = some (.slice pa pn pc) := by rw [hc1 _ _ (by simp <;> omega)]; simp [go_sem]
  have p1 : w1.cell? ⟨w.heap.size, 1, none⟩ = some (.slice ra rn rc) := by rw [hc1 _ _ (by simp <;> omega)]; simp [go_sem]
  have q0 : w1.cell? ⟨w.heap.size + 1, 0, none⟩ = some (.slice pa' pn pc') := by rw [hc1 _ _ (by simp <;> omega)]; simp [go_sem]
  have q1 : w1.cell? ⟨w.heap.size + 1, 1, none⟩ = some (.slice ra' rn rc') := by rw [hc1 _ _ (by simp <;> omega)]; simp [go_sem]
  have hB1 := hb0.trans (hb1.mono hb0.size)
  have hz1 : w.heap.size + 2 ≤ w1.heap.size := by have := hb1.size; simp at this; omega
  clear hc1 hf1 hok1 hb1 hb0
  cases ok1
  · go_wp2_with fail
    go_ret
    exact .no (fun h => by have := HK1.out.2 h.2.2; cases this) hB1
  go_wp2_with fail
  have HP : Hid (∀ V, Below w1.heap.size w1 V → V.cell? ⟨w.heap.size, 0, none⟩ = some (.slice pa pn pc) ∧ V.cell? ⟨w.heap.size, 1, none⟩ = some (.slice ra rn rc) ∧ V.cell? ⟨w.heap.size + 1, 0, none⟩ = some (.slice pa' pn pc') ∧ V.cell? ⟨w.heap.size + 1, 1, none⟩ = some (.slice ra' rn rc')) := fun V hV =>
    ⟨((bcell hV).1 _ _ (by omega)).trans p0, ((bcell hV).1 _ _ (by omega)).trans p1, ((bcell hV).1 _ _ (by omega)).trans q0, ((bcell hV).1 _ _ (by omega)).trans q1⟩
  clear p0 p1 q0 q1
  have HB1 : Hid (Below w.heap.size w w1) := hB1
  clear hB1
  go_loopw [5] (fun i wr => ∃ k : Nat, k ≤ pn ∧ i = .int .i64 k ∧ Hid (∀ j, j < k → PQ P P' j) ∧ Below w1.heap.size w1 wr) (fun i _ => pn - (intOf i).toNat)
  case atStart => exact ⟨0, Nat.zero_le _, rfl, fun j hj => absurd hj (Nat.not_lt_zero _), Below.refl _ _⟩
  case round =>
    obtain ⟨k, hk', rfl, HA, hB⟩ := hrel
    obtain ⟨p0, p1, q0, q1⟩ := HP.out _ hB
    by_cases hlt : k < pn
    · obtain rfl := hpg (by omega)
      obtain rfl := hpg' (by omega)
      have hltz : (k : Int) < (pn : Int) := by omega
      have hBw : Below w.heap.size w wr := HB1.out.trans (hB.mono HB1.out.size)
      obtain ⟨t1, t2, t3, t4⟩ := H1.out _ hBw
      obtain ⟨c1, g1, s1⟩ := t1 k hlt
      obtain ⟨c2, g2, s2⟩ := t2 k hlt
      have HC : Hid (Calls Try.prog 13 #[.slice (P.a k) (P.n k) (P.cap k), .slice (P'.a k) (P'.n k) (P'.cap k)] wr.drew (IsB (PQ P P' k) wr.drew)) := by
        have hd : Below wr.heap.size wr wr.drew := (Below.refl _ _).drew
        exact (specSetSame_any (P.a k) (P'.a k) (P.b k) (P.off k) (P.cap k) (P.n k) (P'.b k) (P'.off k) (P'.cap k) (P'.n k) (P.L k) (P.H k) (P'.L k) (P'.H k) _ g1 (s1.below hd) g2 (s2.below hd) (HM.out.1.pi k hlt) (HM.out.2.pi k hlt)).mono fun e w' h => ⟨_, h.1, eqB_iff, h.2⟩
      have HAT : Hid (∀ V, Below wr.drew.heap.size wr.drew V → V.cell? ⟨w.heap.size, 0, none⟩ = some (.slice (some ⟨pb, poff, none⟩) pn pc) ∧ V.cell? ⟨w.heap.size + 1, 0, none⟩ = some (.slice (some ⟨pb', poff', none⟩) pn pc') ∧ V.cell? ⟨pb, poff + k, none⟩ = some (.slice (P.a k) (P.n k) (P.cap k)) ∧ V.cell? ⟨pb', poff' + k, none⟩ = some (.slice (P'.a k) (P'.n k) (P'.cap k))) := fun V hV => by
        have hVV : Below wr.heap.size wr V := (Below.refl _ _).drew.trans hV
        obtain ⟨p0', _, q0', _⟩ := HP.out _ (hB.trans (hVV.mono hB.size))
        exact ⟨p0', q0', (hVV.cell (p := ⟨_, _, none⟩) (World.block_lt_of_cell? _ _ c1)).trans c1, (hVV.cell (p := ⟨_, _, none⟩) (World.block_lt_of_cell? _ _ c2)).trans c2⟩
      clear t1 t2 t3 t4 g1 s1 g2 s2 p1 q1
      go_wp2_with fail
      go_region_held (fun w' => w'.cell? ⟨w.heap.size, 0, none⟩ = some (.slice (some ⟨pb, poff, none⟩) pn pc) ∧ w'.cell? ⟨w.heap.size + 1, 0, none⟩ = some (.slice (some ⟨pb', poff', none⟩) pn pc') ∧ w'.cell? ⟨pb, poff + k, none⟩ = some (.slice (P.a k) (P.n k) (P.cap k)) ∧ w'.cell? ⟨pb', poff' + k, none⟩ = some (.slice (P'.a k) (P'.n k) (P'.cap k))) (go_keep)
        (first | (go_at_call 13; refine HC.out.mono ?_; rintro e w2 ⟨ok2, rfl, hok2, hb2⟩; have HK2 : Hid (ok2 = true ↔ PQ P P' k) := hok2; clear hok2; obtain ⟨z0, z1, z2, z3⟩ := HAT.out w2 hb2))
      all_goals cases ok2
      all_goals go_wp2_with fail
      all_goals try (go_ret; exact .no (fun h => by have := HK2.out.2 (h.1.2 k hlt); cases this) (HB1.out.trans ((hB.drew.trans (hb2.mono hB.drew.size)).mono HB1.out.size)))
      all_goals go_roundw
      case rel => exact ⟨k + 1, by omega, by go_num, fun j hj => (by by_cases ej : j = k; exact ej ▸ HK2.out.1 (by simp); exact HA.out j (by omega)), hB.drew.trans (hb2.mono hB.drew.size)⟩
      case measure => simp [intOf]; omega
    · obtain rfl : k = pn := by omega
      have HPP : Hid (PEq k P k P') := ⟨rfl, HA.out⟩
      clear HA
      go_wp2_with fail
      have hBw : Below w.heap.size w wr := HB1.out.trans (hB.mono HB1.out.size)
      have HB2 : Hid (Below w.heap.size w wr) := hBw
      have HP2 : Hid (∀ V, Below wr.heap.size wr V → V.cell? ⟨w.heap.size, 1, none⟩ = some (.slice ra rn rc) ∧ V.cell? ⟨w.heap.size + 1, 1, none⟩ = some (.slice ra' rn rc')) := fun V hV =>
        ⟨(HP.out _ (hB.trans (hV.mono hB.size))).2.1, (HP.out _ (hB.trans (hV.mono hB.size))).2.2.2⟩
      clear hBw hB HP p0 q0 p1 q1
      go_loopw [6] (fun i wv => ∃ j : Nat, j ≤ rn ∧ i = .int .i64 j ∧ Hid (∀ t, t < j → AEq (R.n t) (R.G t) (R'.n t) (R'.G t)) ∧ Below wr.heap.size wr wv) (fun i _ => rn - (intOf i).toNat)
      case atStart => exact ⟨0, Nat.zero_le _, rfl, fun j hj => absurd hj (Nat.not_lt_zero _), Below.refl _ _⟩
      case round =>
        obtain ⟨j, hj', rfl, HA, hB⟩ := hrel
        obtain ⟨p1, q1⟩ := HP2.out _ hB
        by_cases hlt2 : j < rn
        · obtain rfl := hrg (by omega)
          obtain rfl := hrg' (by omega)
          have hltz2 : (j : Int) < (rn : Int) := by omega
          have hBw : Below w.heap.size w wr := HB2.out.trans (hB.mono HB2.out.size)
          obtain ⟨t1, t2, t3, t4⟩ := H1.out _ hBw
          obtain ⟨c1, g1, s1⟩ := t3 j hlt2
          obtain ⟨c2, g2, s2⟩ := t4 j hlt2
          have HC : Hid (Calls Try.prog 12 #[.slice (R.a j) (R.n j) (R.cap j), .slice (R'.a j) (R'.n j) (R'.cap j)] wr.drew (IsB (AEq (R.n j) (R.G j) (R'.n j) (R'.G j)) wr.drew)) := by
            have hd : Below wr.heap.size wr wr.drew := (Below.refl _ _).drew
            exact specInts_any (R.a j) (R'.a j) (R.b j) (R.off j) (R.cap j) (R.n j) (R'.b j) (R'.off j) (R'.cap j) (R'.n j) (R.G j) (R'.G j) _ g1 (s1.below hd) g2 (s2.below hd) (HM.out.1.ri j hlt2) (HM.out.2.ri j hlt2)
          have HAT : Hid (∀ V, Below wr.drew.heap.size wr.drew V → V.cell? ⟨w.heap.size, 1, none⟩ = some (.slice (some ⟨rb, roff, none⟩) rn rc) ∧ V.cell? ⟨w.heap.size + 1, 1, none⟩ = some (.slice (some ⟨rb', roff', none⟩) rn rc') ∧ V.cell? ⟨rb, roff + j, none⟩ = some (.slice (R.a j) (R.n j) (R.cap j)) ∧ V.cell? ⟨rb', roff' + j, none⟩ = some (.slice (R'.a j) (R'.n j) (R'.cap j))) := fun V hV => by
            have hVV : Below wr.heap.size wr V := (Below.refl _ _).drew.trans hV
            obtain ⟨p1', q1'⟩ := HP2.out _ (hB.trans (hVV.mono hB.size))
            exact ⟨p1', q1', (hVV.cell (p := ⟨_, _, none⟩) (World.block_lt_of_cell? _ _ c1)).trans c1, (hVV.cell (p := ⟨_, _, none⟩) (World.block_lt_of_cell? _ _ c2)).trans c2⟩
          clear t1 t2 t3 t4 g1 s1 g2 s2
          go_wp2_with fail
          go_region_held (fun w' => w'.cell? ⟨w.heap.size, 1, none⟩ = some (.slice (some ⟨rb, roff, none⟩) rn rc) ∧ w'.cell? ⟨w.heap.size + 1, 1, none⟩ = some (.slice (some ⟨rb', roff', none⟩) rn rc') ∧ w'.cell? ⟨rb, roff + j, none⟩ = some (.slice (R.a j) (R.n j) (R.cap j)) ∧ w'.cell? ⟨rb', roff' + j, none⟩ = some (.slice (R'.a j) (R'.n j) (R'.cap j))) (go_keep)
            (first | (go_at_call 12; refine HC.out.mono ?_; rintro e w2 ⟨ok2, rfl, hok2, hb2⟩; have HK2 : Hid (ok2 = true ↔ AEq (R.n j) (R.G j) (R'.n j) (R'.G j)) := hok2; clear hok2; obtain ⟨z0, z1, z2, z3⟩ := HAT.out w2 hb2))
          all_goals cases ok2
          all_goals go_wp2_with fail
          all_goals first
            | (go_roundw
               case rel => exact ⟨j + 1, by omega, by go_num, fun t ht => (by by_cases ej : t = j; exact ej ▸ HK2.out.1 (by simp); exact HA.out t (by omega)), hB.drew.trans (hb2.mono hB.drew.size)⟩
               case measure => simp [intOf]; omega)
            | (go_ret; exact .no (fun h => by have := HK2.out.2 (h.2.1.2 j hlt2); cases this) (HB2.out.trans ((hB.drew.trans (hb2.mono hB.drew.size)).mono HB2.out.size)))
        · obtain rfl : j = rn := by omega
          have HRR : Hid (REq j R j R') := ⟨rfl, HA.out⟩
          clear HA
          go_wp2_with fail
          go_ret
          exact .yes ⟨HPP.out, HRR.out, HK1.out.1 (by simp)⟩ (HB2.out.trans (hB.mono HB2.out.size))
end Go.Proofs.Ytmgojhlfnbjodaa

