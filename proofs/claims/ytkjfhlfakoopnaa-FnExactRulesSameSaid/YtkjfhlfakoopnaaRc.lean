/- The map of the pairs of lists that were met: its keys are structs of two pointers and a number. -/
import Derived.Test.YtkjfhlfakoopnaaRb
import Derived.Laws.StructEq
import Derived.LaidEql
import Derived.MapKept
namespace Go.Proofs.Ytkjfhlfakoopnaa
open Go.RowKit
set_option linter.unusedVariables false
set_option linter.unusedSimpArgs false

/-- a key -/
def keyV (k : Addr × Addr × Nat) : Value := .agg #[.pointer (some k.1), .pointer (some k.2.1), .int .i64 (k.2.2 : Int)]
/-- what a key tells lies in plain blocks -/
def KOk (w : World) (k : Addr × Addr × Nat) : Prop := Soft w k.1.block ∧ Soft w k.2.1.block

theorem same_addr {P : Program} {w : World} {a b : Addr} (ha : Soft w a.block) (hb : Soft w b.block) : (sameAddr a b).run P w = .ok (decide (a = b)) w := by
  by_cases e : a = b
  · subst e; rw [run_sameAddr_same]; simp
  · obtain ⟨ca, ta, ha⟩ := ha
    obtain ⟨cb, tb, hb⟩ := hb
    rw [run_sameAddr_other w e ha hb]; simp [e]

/-- the fields of a key -/
structure KeyFields (fs : List Field) (f0 f1 f2 : Field) : Prop where
  all : fs = [f0, f1, f2]
  n0 : f0.name ≠ "_"
  t0 : f0.type = 52
  o0 : f0.offset = 0
  n1 : f1.name ≠ "_"
  t1 : f1.type = 52
  o1 : f1.offset = 1
  n2 : f2.name ≠ "_"
  t2 : f2.type = 3
  o2 : f2.offset = 2
theorem fields45 : ∃ f0 f1 f2, KeyFields (Try.prog.fieldsOf 54).toList f0 f1 f2 := by
  rw [Program.fieldsOf, Try.underlying54]
  exact ⟨_, _, _, rfl, by decide, rfl, rfl, by decide, rfl, rfl, by decide, rfl, rfl⟩
theorem under45 : Try.prog.underlying 54 = some (.struct (Try.prog.fieldsOf 54)) := by
  rw [Program.fieldsOf, Try.underlying54]
theorem stood45 : Try.prog.stoodInHeld 54 = false := by kernel_rfl
theorem size31 (w : World) : (sizeOf 38).run Try.prog w = .ok 3 w := by
  obtain ⟨i0, hi, hz0, hz1, hz2⟩ := info_parts Try.info38
  simp [sizeOf, typeInfo, hi, hz1]
theorem part43a (w : World) (a b : Addr) (m : Int) : (part 52 #[.pointer (some a), .pointer (some b), .int .i64 m] 0).run Try.prog w = .ok (.pointer (some a)) w := by
  simp [part, isAgg, run_underlying Try.underlying52]
theorem part43b (w : World) (a b : Addr) (m : Int) : (part 52 #[.pointer (some a), .pointer (some b), .int .i64 m] 1).run Try.prog w = .ok (.pointer (some b)) w := by
  simp [part, isAgg, run_underlying Try.underlying52]
theorem part3 (w : World) (a b : Addr) (m : Int) : (part 3 #[.pointer (some a), .pointer (some b), .int .i64 m] 2).run Try.prog w = .ok (.int .i64 m) w := by
  simp [part, isAgg, run_underlying Try.underlying3]
theorem eq43 {d : Nat} {w : World} {a b : Addr} (ha : Soft w a.block) (hb : Soft w b.block) : (Op.equalIn (d + 1) 52 (.pointer (some a)) (.pointer (some b))).run Try.prog w = .ok (decide (a = b)) w := by
  simp [Op.equalIn, run_underlying Try.underlying52, size31, same_addr ha hb]
theorem eq3 {d : Nat} {w : World} {x y : Int} : (Op.equalIn (d + 1) 3 (.int .i64 x) (.int .i64 y)).run Try.prog w = .ok (x == y) w := by
  simp [Op.equalIn, run_underlying Try.underlying3]

/-- two keys, held against each other -/
theorem eq45 {w : World} {k k' : Addr × Addr × Nat} (h : KOk w k) (h' : KOk w k') : (Op.equal 54 (keyV k) (keyV k')).run Try.prog w = .ok (decide (k = k')) w := by
  obtain ⟨a, b, m⟩ := k
  obtain ⟨a', b', m'⟩ := k'
  obtain ⟨f0, f1, f2, hf⟩ := fields45
  have e1 := eq43 (d := 9998) h.1 h'.1
  have e2 := eq43 (d := 9998) h.2 h'.2
  have e3 := eq3 (d := 9998) (w := w) (x := (m : Int)) (y := (m' : Int))
  simp only at e1 e2
  have hx : decide ((a, b, m) = (a', b', m')) = (decide (a = a') && (decide (b = b') && ((m : Int) == (m' : Int)))) := by
    rw [Bool.eq_iff_iff]
    simp
    omega
  rw [hx]
  generalize decide (a = a') = x at e1 ⊢
  generalize decide (b = b') = y at e2 ⊢
  generalize ((m : Int) == (m' : Int)) = z at e3 ⊢
  rw [Op.equal, Op.maxDepth, keyV, keyV, run_equalIn_agg w 9999 54 _ _ under45 stood45, hf.all]
  simp only [Op.eqFields, hf.n0, hf.n1, hf.n2, hf.t0, hf.t1, hf.t2, hf.o0, hf.o1, hf.o2, ne_eq, not_false_eq_true, if_true, Sem.run_bind, part43a, part43b, part3, Result.andThen_ok, e1]
  cases x <;> cases y <;> cases z <;> simp [part43b, part3, e2, e3]

/-- what is looked for is found just if it is there -/
theorem find45 {w : World} {k : Addr × Addr × Nat} (h : KOk w k) : ∀ (ks : List (Addr × Addr × Nat)) (es : List MapEntry) (i : Nat), (∀ q ∈ ks, KOk w q) → es.map (fun e => (e.key, e.val)) = ks.map (fun q => (keyV q, Value.agg #[])) →
    ∃ r, (Instr.findAsking 54 (keyV k) es i).run Try.prog w = .ok r w ∧ (k ∈ ks → ∃ j, r = some (j, .agg #[])) ∧ (k ∉ ks → r = none)
  | [], [], i, _, _ => ⟨none, rfl, fun h => (by cases h), fun _ => rfl⟩
  | [], e :: es, i, _, hm => by simp at hm
  | q :: ks, [], i, _, hm => by simp at hm
  | q :: ks, e :: es, i, hk, hm => by
    simp only [List.map_cons, List.cons.injEq, Prod.mk.injEq] at hm
    obtain ⟨⟨hm1, hm2⟩, hm3⟩ := hm
    obtain ⟨r, h1, h2, h3⟩ := find45 h ks es (i + 1) (fun x hx => hk x (by simp [hx])) hm3
    have he := eq45 h (hk q (by simp))
    by_cases e1 : k = q
    · subst e1
      refine ⟨some (i, e.val), ?_, fun _ => ⟨i, by rw [hm2]⟩, fun hn => absurd (by simp) hn⟩
      simp [Instr.findAsking, hm1, he]
    · refine ⟨r, ?_, fun hn => h2 (by simpa [e1] using hn), fun hn => h3 (fun hh => hn (by simp [hh]))⟩
      simp [Instr.findAsking, hm1, he, e1, h1]
theorem key45 {w : World} {k : Addr × Addr × Nat} (h : KOk w k) (ks : List (Addr × Addr × Nat)) (es : List MapEntry) (hk : ∀ q ∈ ks, KOk w q) (hm : es.map (fun e => (e.key, e.val)) = ks.map (fun q => (keyV q, Value.agg #[]))) :
    ∃ r, (Instr.findKey 54 (keyV k) es).run Try.prog w = .ok r w ∧ (k ∈ ks → ∃ j, r = some (j, .agg #[])) ∧ (k ∉ ks → r = none) := by
  cases es with
  | nil =>
    cases ks with
    | cons q ks => simp at hm
    | nil => exact ⟨none, by simp [Instr.findKey, run_underlying under45, Instr.findNow], fun h => (by cases h), fun _ => rfl⟩
  | cons e es =>
    obtain ⟨r, h1, h2⟩ := find45 h ks (e :: es) 0 hk hm
    refine ⟨r, ?_, h2⟩
    simp [Instr.findKey, run_underlying under45, Instr.findNow, Instr.sameNow, keyV] 
    simpa [keyV] using h1
theorem check45 (c : Bool) (w : World) (k : Addr × Addr × Nat) : (Instr.checkKey c 10000 54 (keyV k)).run Try.prog w = .ok () w := by
  obtain ⟨a, b, m⟩ := k
  obtain ⟨f0, f1, f2, hf⟩ := fields45
  have h43 : ∀ (n : Nat) (p : Option Addr), (Instr.checkKey c (n + 1) 52 (.pointer p)).run Try.prog w = .ok () w := fun n p => by simp [Instr.checkKey, run_underlying Try.underlying52]
  have h3 : ∀ n : Nat, (Instr.checkKey c (n + 1) 3 (.int .i64 (m : Int))).run Try.prog w = .ok () w := fun n => by simp [Instr.checkKey, run_underlying Try.underlying3]
  have key : ∀ n : Nat, (Instr.checkKey c (n + 1 + 1) 54 (keyV (a, b, m))).run Try.prog w = .ok () w := fun n => by
    rw [Instr.checkKey]
    simp only [Sem.run_bind, run_underlying under45, Result.andThen_ok, keyV]
    rw [← Array.forIn_toList, hf.all]
    simp [hf.n0, hf.n1, hf.n2, hf.t0, hf.t1, hf.t2, hf.o0, hf.o1, hf.o2, part43a, part43b, part3, h43, h3]
  exact key 9998
end Go.Proofs.Ytkjfhlfakoopnaa

