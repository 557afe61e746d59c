/- The map of what was gone through: its keys are structs of a pointer and a number; how deep a Rex is; kidListOf. -/
import Derived.Test.YtiphmmgfmiiilaaDoorNg
import Derived.Test.YtiphmmgfmiiilaaDoorTka
import Derived.Laws.StructEq
import Derived.LaidEql
import Derived.MapKept
import Derived.Maps.OwnOps
namespace Go.Proofs.YtiphmmgfmiiilaaDoor
open Go.RowKit Go.Shelf
set_option linter.unusedVariables false
set_option linter.unusedSimpArgs false

/-- a key -/
def keyV (k : Addr × Nat) : Value := .agg #[.pointer (some k.1), .int .i64 (k.2 : Int)]
/-- what a key tells lies in plain blocks -/
def KOk (w : World) (k : Addr × Nat) : Prop := Soft w k.1.block

theorem same_addr {P : Program} {w : World} {a b : Addr} (ha : Soft w a.block) (hb : Soft w b.block) : (sameAddr a b).run P w = .ok (decide (a = b)) w := by
  by_cases e : a = b
  · subst e; rw [run_sameAddr_same]; simp
  · obtain ⟨ca, ta, ha⟩ := ha
    obtain ⟨cb, tb, hb⟩ := hb
    rw [run_sameAddr_other w e ha hb]; simp [e]

/-- the fields of a key -/
structure KeyFields (fs : List Field) (f0 f1 : Field) : Prop where
  all : fs = [f0, f1]
  n0 : f0.name ≠ "_"
  t0 : f0.type = 64
  o0 : f0.offset = 0
  n1 : f1.name ≠ "_"
  t1 : f1.type = 3
  o1 : f1.offset = 1
theorem fieldsK : ∃ f0 f1, KeyFields (Tryd.prog.fieldsOf 66).toList f0 f1 := by
  rw [Program.fieldsOf, Tryd.underlying66]
  exact ⟨_, _, rfl, by decide, rfl, rfl, by decide, rfl, rfl⟩
theorem underK : Tryd.prog.underlying 66 = some (.struct (Tryd.prog.fieldsOf 66)) := by
  rw [Program.fieldsOf, Tryd.underlying66]
theorem stoodK : Tryd.prog.stoodInHeld 66 = false := by kernel_rfl
theorem sizeRx (w : World) : (sizeOf 30).run Tryd.prog w = .ok 3 w := by
  obtain ⟨i0, hi, hz0, hz1, hz2⟩ := info_parts Tryd.info30
  simp [sizeOf, typeInfo, hi, hz1]
theorem partKa (w : World) (a : Addr) (m : Int) : (part 64 #[.pointer (some a), .int .i64 m] 0).run Tryd.prog w = .ok (.pointer (some a)) w := by
  simp [part, isAgg, run_underlying Tryd.underlying64]
theorem partKm (w : World) (a : Addr) (m : Int) : (part 3 #[.pointer (some a), .int .i64 m] 1).run Tryd.prog w = .ok (.int .i64 m) w := by
  simp [part, isAgg, run_underlying Tryd.underlying3]
theorem eqKp {d : Nat} {w : World} {a b : Addr} (ha : Soft w a.block) (hb : Soft w b.block) : (Op.equalIn (d + 1) 64 (.pointer (some a)) (.pointer (some b))).run Tryd.prog w = .ok (decide (a = b)) w := by
  simp [Op.equalIn, run_underlying Tryd.underlying64, sizeRx, same_addr ha hb]
theorem eqKi {d : Nat} {w : World} {x y : Int} : (Op.equalIn (d + 1) 3 (.int .i64 x) (.int .i64 y)).run Tryd.prog w = .ok (x == y) w := by
  simp [Op.equalIn, run_underlying Tryd.underlying3]

/-- two keys, held against each other -/
theorem eqK {w : World} {k k' : Addr × Nat} (h : KOk w k) (h' : KOk w k') : (Op.equal 66 (keyV k) (keyV k')).run Tryd.prog w = .ok (decide (k = k')) w := by
  obtain ⟨a, m⟩ := k
  obtain ⟨a', m'⟩ := k'
  obtain ⟨f0, f1, hf⟩ := fieldsK
  have e1 := eqKp (d := 9998) (w := w) (a := a) (b := a') h h'
  have e3 := eqKi (d := 9998) (w := w) (x := (m : Int)) (y := (m' : Int))
  have hx : decide ((a, m) = (a', m')) = (decide (a = a') && ((m : Int) == (m' : Int))) := by
    rw [Bool.eq_iff_iff]
    simp
    omega
  rw [hx]
  generalize decide (a = a') = x at e1 ⊢
  generalize ((m : Int) == (m' : Int)) = z at e3 ⊢
  rw [Op.equal, Op.maxDepth, keyV, keyV, run_equalIn_agg w 9999 66 _ _ underK stoodK, hf.all]
  simp only [Op.eqFields, hf.n0, hf.n1, hf.t0, hf.t1, hf.o0, hf.o1, ne_eq, not_false_eq_true, if_true, Sem.run_bind, partKa, partKm, Result.andThen_ok, e1]
  cases x <;> cases z <;> simp [partKm, e3]

/-- what is looked for is found just if it is there -/
theorem findK {w : World} {k : Addr × Nat} (h : KOk w k) : ∀ (ks : List ((Addr × Nat) × Nat)) (es : List MapEntry) (i : Nat), (∀ q ∈ ks, KOk w q.1) → es.map (fun e => (e.key, e.val)) = ks.map (fun q => (keyV q.1, Value.int .i64 (q.2 : Int))) →
    ∃ r, (Instr.findAsking 66 (keyV k) es i).run Tryd.prog w = .ok r w ∧ ((r = none ∧ ∀ v, (k, v) ∉ ks) ∨ ∃ j v, r = some (j, .int .i64 ((v : Nat) : Int)) ∧ (k, v) ∈ ks)
  | [], [], i, _, _ => ⟨none, rfl, .inl ⟨rfl, fun v h => (by cases h)⟩⟩
  | [], e :: es, i, _, hm => by simp at hm
  | q :: ks, [], i, _, hm => by simp at hm
  | q :: ks, e :: es, i, hk, hm => by
    simp only [List.map_cons, List.cons.injEq, Prod.mk.injEq] at hm
    obtain ⟨⟨hm1, hm2⟩, hm3⟩ := hm
    obtain ⟨r, h1, h2⟩ := findK h ks es (i + 1) (fun x hx => hk x (by simp [hx])) hm3
    have he := eqK h (hk q (by simp))
    by_cases e1 : k = q.1
    · refine ⟨some (i, e.val), ?_, .inr ⟨i, q.2, by rw [hm2], ?_⟩⟩
      · rw [← e1] at he hm1
        simp [Instr.findAsking, hm1, he]
      · rw [e1]; simp
    · refine ⟨r, ?_, ?_⟩
      · simp [Instr.findAsking, hm1, he, e1, h1]
      · rcases h2 with ⟨hr, hn⟩ | ⟨j, v, hr, hv⟩
        · refine .inl ⟨hr, fun v hv => ?_⟩
          rcases List.mem_cons.1 hv with hv | hv
          · rw [← hv] at e1; exact e1 rfl
          · exact hn v hv
        · exact .inr ⟨j, v, hr, List.mem_cons_of_mem _ hv⟩
theorem keyK {w : World} {k : Addr × Nat} (h : KOk w k) (ks : List ((Addr × Nat) × Nat)) (es : List MapEntry) (hk : ∀ q ∈ ks, KOk w q.1) (hm : es.map (fun e => (e.key, e.val)) = ks.map (fun q => (keyV q.1, Value.int .i64 (q.2 : Int)))) :
    ∃ r, (Instr.findKey 66 (keyV k) es).run Tryd.prog w = .ok r w ∧ ((r = none ∧ ∀ v, (k, v) ∉ ks) ∨ ∃ j v, r = some (j, .int .i64 ((v : Nat) : Int)) ∧ (k, v) ∈ ks) := by
  cases es with
  | nil =>
    cases ks with
    | cons q ks => simp at hm
    | nil => exact ⟨none, by simp [Instr.findKey, run_underlying underK, Instr.findNow], .inl ⟨rfl, fun v h => (by cases h)⟩⟩
  | cons e es =>
    obtain ⟨r, h1, h2⟩ := findK h ks (e :: es) 0 hk hm
    refine ⟨r, ?_, h2⟩
    simp [Instr.findKey, run_underlying underK, Instr.findNow, Instr.sameNow, keyV]
    simpa [keyV] using h1
theorem checkK (c : Bool) (w : World) (k : Addr × Nat) : (Instr.checkKey c 10000 66 (keyV k)).run Tryd.prog w = .ok () w := by
  obtain ⟨a, m⟩ := k
  obtain ⟨f0, f1, hf⟩ := fieldsK
  have h43 : ∀ (n : Nat) (p : Option Addr), (Instr.checkKey c (n + 1) 64 (.pointer p)).run Tryd.prog w = .ok () w := fun n p => by simp [Instr.checkKey, run_underlying Tryd.underlying64]
  have h3 : ∀ n : Nat, (Instr.checkKey c (n + 1) 3 (.int .i64 (m : Int))).run Tryd.prog w = .ok () w := fun n => by simp [Instr.checkKey, run_underlying Tryd.underlying3]
  have key : ∀ n : Nat, (Instr.checkKey c (n + 1 + 1) 66 (keyV (a, m))).run Tryd.prog w = .ok () w := fun n => by
    rw [Instr.checkKey]
    simp only [Sem.run_bind, run_underlying underK, Result.andThen_ok, keyV]
    rw [← Array.forIn_toList, hf.all]
    simp [hf.n0, hf.n1, hf.t0, hf.t1, hf.o0, hf.o1, partKa, partKm, h43, h3]
  exact key 9998

/-- the map holds just these -/
def Km (w : World) (b : Nat) (ks : List ((Addr × Nat) × Nat)) : Prop := ∃ es c, w.heap[b]? = some (.map es c) ∧ es.toList.map (fun e => (e.key, e.val)) = ks.reverse.map (fun q => (keyV q.1, Value.int .i64 (q.2 : Int)))
theorem Km.of_block {w w' : World} {b : Nat} {ks : List ((Addr × Nat) × Nat)} (h : Km w b ks) (e : w'.heap[b]? = w.heap[b]?) : Km w' b ks := by
  obtain ⟨es, c, h1, h2⟩ := h
  exact ⟨es, c, e.trans h1, h2⟩
theorem Km.lt {w : World} {b : Nat} {ks : List ((Addr × Nat) × Nat)} (h : Km w b ks) : b < w.heap.size := by
  obtain ⟨es, c, h1, h2⟩ := h
  rcases Nat.lt_or_ge b w.heap.size with h' | h'
  · exact h'
  · simp [Array.getElem?_eq_none h'] at h1
theorem Km.below {w w' : World} {b : Nat} {ks : List ((Addr × Nat) × Nat)} (h : Km w b ks) (hb : Below w.heap.size w w') : Km w' b ks := h.of_block (hb.block b h.lt)
theorem Km.made (w : World) : Km (w.alloc (.map #[] 0)) w.heap.size [] := ⟨#[], 0, by show (w.heap.push _)[w.heap.size]? = _; simp, rfl⟩

theorem zeroI (w : World) : (zeroValue 3).run Tryd.prog w = .ok (.int .i64 0) w := by
  have h : (Tryd.prog.info? 3).map (fun i => (i.zero, i.size, i.bytes)) = some (some (.int .i64 0), 1, 8) := by kernel_rfl
  obtain ⟨i0, hi, hz0, hz1, hz2⟩ := info_parts h
  simp [zeroValue, typeInfo, hi, hz0]

theorem Km.look {w : World} {b : Nat} {ks : List ((Addr × Nat) × Nat)} (h : Km w b ks) (hk : ∀ q ∈ ks, KOk w q.1) {k : Addr × Nat} (h' : KOk w k) :
    ((Instr.lookup 54 (.map (some b)) (keyV k) true).run Tryd.prog w = .ok (.tuple #[.int .i64 0, .bool false]) w ∧ ∀ v, (k, v) ∉ ks) ∨ ∃ v : Nat, (Instr.lookup 54 (.map (some b)) (keyV k) true).run Tryd.prog w = .ok (.tuple #[.int .i64 (v : Int), .bool true]) w ∧ (k, v) ∈ ks := by
  obtain ⟨es, c, h1, h2⟩ := h
  obtain ⟨r, hr, hh⟩ := keyK h' ks.reverse es.toList (fun q hq => hk q (List.mem_reverse.1 hq)) h2
  simp only [List.mem_reverse] at hh
  rcases hh with ⟨rfl, hn⟩ | ⟨j, v, rfl, hv⟩
  · refine .inl ⟨?_, hn⟩
    simp [Instr.lookup, run_underlying Tryd.underlying54, MapKept.run_getObj_map h1, checkK, hr, zeroI]
  · refine .inr ⟨v, ?_, hv⟩
    simp [Instr.lookup, run_underlying Tryd.underlying54, MapKept.run_getObj_map h1, checkK, hr]

theorem Km.put {w : World} {b : Nat} {ks : List ((Addr × Nat) × Nat)} (h : Km w b ks) (hk : ∀ q ∈ ks, KOk w q.1) {k : Addr × Nat} (h' : KOk w k) (hm : ∀ v, (k, v) ∉ ks) (v : Nat) :
    ∃ w', (Instr.mapUpdate 54 (.map (some b)) (keyV k) (.int .i64 (v : Int))).run Tryd.prog w = .ok () w' ∧ Km w' b ((k, v) :: ks) ∧ w.grownBy w' (some b) := by
  have hlt := h.lt
  obtain ⟨es, c, h1, h2⟩ := h
  obtain ⟨r, hr, hh⟩ := keyK h' ks.reverse es.toList (fun q hq => hk q (List.mem_reverse.1 hq)) h2
  simp only [List.mem_reverse] at hh
  rcases hh with ⟨rfl, hn⟩ | ⟨j, v', rfl, hv⟩
  · refine ⟨{ w with heap := w.heap.setIfInBounds b (.map (es.push { key := keyV k, val := .int .i64 (v : Int), born := c }) (c + 1)) }, ?_, ⟨es.push { key := keyV k, val := .int .i64 (v : Int), born := c }, c + 1, by simp [Array.getElem?_setIfInBounds, hlt], ?_⟩, ⟨rfl, rfl, rfl, by simp, fun j hj hne => ?_⟩⟩
    · simp [Instr.mapUpdate, run_underlying Tryd.underlying54, MapKept.run_getObj_map h1, checkK, hr, setObj, Sem.run, h1]
    · simp [h2]
    · have : j ≠ b := fun e => hne (by rw [e])
      simp [Array.getElem?_setIfInBounds, Ne.symm this]
  · exact absurd hv (hm v')

/-- how many are around the deepest part -/
def maxN (f : Nat → Nat) : Nat → Nat
  | 0 => 0
  | k + 1 => max (maxN f k) (f k)
theorem maxN_congr {f g : Nat → Nat} : ∀ {m : Nat}, (∀ i, i < m → f i = g i) → maxN f m = maxN g m
  | 0, _ => rfl
  | m + 1, h => by simp only [maxN, maxN_congr (m := m) (fun i hi => h i (by omega)), h m (by omega)]
theorem maxN_lt {f : Nat → Nat} {d : Nat} : ∀ {m : Nat}, 0 < d → (maxN f m < d ↔ ∀ i, i < m → f i < d)
  | 0, h => by simp [maxN, h]
  | m + 1, h => by
    simp only [maxN, Nat.max_lt, maxN_lt (m := m) h]
    refine ⟨fun ⟨h1, h2⟩ i hi => ?_, fun hh => ⟨fun i hi => hh i (by omega), hh m (by omega)⟩⟩
    by_cases e : i = m
    · subst e; exact h2
    · exact h1 i (by omega)
def hgt : Sh → Nat
  | .node _ _ _ _ m kids => maxN (fun i => if hi : i < m then 1 + hgt (kids ⟨i, hi⟩) else 0) m
theorem hgt_mk (kind : Int) (n : Nat) (L H : Nat → Int) (m : Nat) (K : Nat → Sh) : hgt (.mk kind n L H m K) = maxN (fun i => 1 + hgt (K i)) m := by
  simp only [Sh.mk, hgt]
  exact maxN_congr (fun i hi => by rw [dif_pos hi])
theorem hgt_at (S : Sh) : hgt S = maxN (fun i => 1 + hgt (S.kidAt i)) S.m := by
  obtain ⟨kind, n, L, H, m, kids⟩ := S
  simp only [hgt]
  exact maxN_congr (fun i hi => by rw [dif_pos hi, Sh.kidAt, dif_pos (show i < (Sh.node kind n L H m kids).m from hi)])
/-- all parts are as they must be -/
def allB : Sh → Bool
  | .node kind n L H m kids => goodB kind n L H m && (List.range m).all fun i => if hi : i < m then allB (kids ⟨i, hi⟩) else true
theorem allB_at (S : Sh) : allB S = true ↔ goodS S = true ∧ ∀ i, i < S.m → allB (S.kidAt i) = true := by
  obtain ⟨kind, n, L, H, m, kids⟩ := S
  simp only [allB, Bool.and_eq_true, List.all_eq_true, List.mem_range]
  refine and_congr Iff.rfl ⟨fun h i hi => ?_, fun h i hi => ?_⟩
  · have := h i hi
    rw [dif_pos hi] at this
    rw [Sh.kidAt, dif_pos (show i < (Sh.node kind n L H m kids).m from hi)]
    exact this
  · have := h i hi
    rw [Sh.kidAt, dif_pos (show i < (Sh.node kind n L H m kids).m from hi)] at this
    rw [dif_pos hi]
    exact this
theorem form_iff (S : Sh) : ∀ d, formB d S = true ↔ allB S = true ∧ hgt S < d := by
  induction S using Sh.ind with
  | h kind n L H m K ih =>
    intro d
    cases d with
    | zero => simp [formB]
    | succ d =>
      rw [formB_mk, allB_at, hgt_mk, Bool.and_eq_true, List.all_eq_true, maxN_lt (by omega)]
      refine ⟨fun ⟨h1, h2⟩ => ⟨⟨h1, fun i hi => ?_⟩, fun i hi => ?_⟩, fun ⟨⟨h1, h2⟩, h3⟩ => ⟨h1, fun i hi => ?_⟩⟩
      · rw [Sh.kidAt_mk kind n L H m K hi]
        exact ((ih i hi d).1 (h2 i (List.mem_range.2 hi))).1
      · have := ((ih i hi d).1 (h2 i (List.mem_range.2 hi))).2
        omega
      · have hi := List.mem_range.1 hi
        have e1 := h2 i hi
        rw [Sh.kidAt_mk kind n L H m K hi] at e1
        have e2 := h3 i hi
        exact (ih i hi d).2 ⟨e1, by omega⟩
end Go.Proofs.YtiphmmgfmiiilaaDoor

