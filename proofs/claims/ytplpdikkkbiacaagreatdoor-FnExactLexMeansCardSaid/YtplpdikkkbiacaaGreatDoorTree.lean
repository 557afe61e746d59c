/- What a Rex is: its shape, and where it lies in memory; no Go text is walked here. -/
import Derived.Test.YtplpdikkkbiacaaGreatDoorWc
import Derived.Test.YtplpdikkkbiacaaGreatDoorPan
namespace Go.Proofs.YtplpdikkkbiacaaGreatDoor
open Go.RowKit
set_option linter.unusedVariables false
set_option linter.unusedSimpArgs false

/-- the shape of a Rex: its kind, n spans, m kids -/
structure Sh where node ::
  kind : Int
  n : Nat
  L : Nat → Int
  H : Nat → Int
  m : Nat
  kids : Fin m → Sh
/-- a shape, its kids told by their places -/
def Sh.mk (kind : Int) (n : Nat) (L H : Nat → Int) (m : Nat) (K : Nat → Sh) : Sh := .node kind n L H m (fun i => K i.1)
theorem Sh.mk_kind (kind : Int) (n : Nat) (L H : Nat → Int) (m : Nat) (K : Nat → Sh) : (Sh.mk kind n L H m K).kind = kind := rfl

theorem Sh.cases (S : Sh) : ∃ (kind : Int) (n : Nat) (L H : Nat → Int) (m : Nat) (K : Nat → Sh), S = Sh.mk kind n L H m K ∧ ∀ i (hi : i < S.m), S.kids ⟨i, hi⟩ = K i := by
  obtain ⟨kind, n, L, H, m, kids⟩ := S
  refine ⟨kind, n, L, H, m, fun i => if hi : i < m then kids ⟨i, hi⟩ else .node 0 0 L H 0 (fun i => absurd i.2 (Nat.not_lt_zero _)), ?_, fun i hi => by simp only at hi ⊢; rw [dif_pos hi]⟩
  simp only [Sh.mk]
  congr 1
  funext i
  simp

theorem Sh.ind {motive : Sh → Prop} (h : ∀ kind n L H m (K : Nat → Sh), (∀ i, i < m → motive (K i)) → motive (Sh.mk kind n L H m K)) (S : Sh) : motive S := by
  induction S with
  | node kind n L H m kids ih =>
    obtain ⟨kind', n', L', H', m', K, e, hK⟩ := Sh.cases (.node kind n L H m kids)
    have em : m = m' := congrArg Sh.m e
    rw [e]
    refine h _ _ _ _ _ _ (fun i hi => ?_)
    rw [← hK i (show i < m by omega)]
    exact ih _

/-- where it lies: by the places of a part within it, the slice of its set, the slice of its kids -/
def Mx : Type := List Nat → Value × Value
def Mx.sv (M : Mx) : Value := (M []).1
def Mx.kv (M : Mx) : Value := (M []).2
def Mx.kid (M : Mx) (i : Nat) : Mx := fun p => M (i :: p)
def Mx.mk (sv kv : Value) (K : Nat → Mx) : Mx := fun p => match p with
  | [] => (sv, kv)
  | i :: q => K i q
def Mx.no : Mx := fun _ => (.slice none 0 0, .slice none 0 0)
theorem Mx.mk_sv (sv kv : Value) (K : Nat → Mx) : (Mx.mk sv kv K).sv = sv := rfl
theorem Mx.mk_kv (sv kv : Value) (K : Nat → Mx) : (Mx.mk sv kv K).kv = kv := rfl
theorem Mx.mk_kid (sv kv : Value) (K : Nat → Mx) (i : Nat) : (Mx.mk sv kv K).kid i = K i := rfl
theorem Mx.cases (M : Mx) : ∃ sv kv K, M = Mx.mk sv kv K := ⟨M.sv, M.kv, M.kid, by funext p; cases p <;> rfl⟩

/-- a Rex as a value -/
def vx (S : Sh) (M : Mx) : Value := .agg #[.int .i64 S.kind, M.sv, M.kv]

/-- the three cells of a Rex in memory -/
def Kid (w : World) (b o : Nat) (S : Sh) (M : Mx) : Prop :=
  w.cell? ⟨b, o, none⟩ = some (.int .i64 S.kind) ∧ w.cell? ⟨b, o + 1, none⟩ = some M.sv ∧ w.cell? ⟨b, o + 2, none⟩ = some M.kv

/-- the Rex of that shape lies there, in blocks of B -/
def In (B : Nat → Prop) (w : World) : Sh → Mx → Prop
  | .node _ n L H m kids, M => ∃ (a : Option Addr) (b off cap : Nat) (a' : Option Addr) (b' off' cap' : Nat),
      M.sv = .slice a n cap ∧ (0 < n → a = some ⟨b, off, none⟩ ∧ B b) ∧ Sp w b off n L H ∧ n ≤ 9223372036854775807 ∧
      M.kv = .slice a' m cap' ∧ (0 < m → a' = some ⟨b', off', none⟩ ∧ B b') ∧ m ≤ 9223372036854775807 ∧
      ∀ i (hi : i < m), Kid w b' (off' + i * 3) (kids ⟨i, hi⟩) (M.kid i) ∧ In B w (kids ⟨i, hi⟩) (M.kid i)

theorem Sp.keep {B : Nat → Prop} {w w' : World} {b off n : Nat} {L H : Nat → Int} (h : Sp w b off n L H) (hB : 0 < n → B b) (hk : ∀ k, B k → k < w.heap.size → w'.heap[k]? = w.heap[k]?) : Sp w' b off n L H := by
  intro i hi
  obtain ⟨h1, h2⟩ := h i hi
  have e := hk b (hB (by omega)) (World.block_lt_of_cell? _ _ h1)
  exact ⟨(World.cell?_of_block (w := w) (a := ⟨b, _, none⟩) e).trans h1, (World.cell?_of_block (w := w) (a := ⟨b, _, none⟩) e).trans h2⟩

theorem Kid.keep {w w' : World} {b o : Nat} {S : Sh} {M : Mx} (h : Kid w b o S M) (e : b < w.heap.size → w'.heap[b]? = w.heap[b]?) : Kid w' b o S M := by
  obtain ⟨h1, h2, h3⟩ := h
  have e := e (World.block_lt_of_cell? _ _ h1)
  exact ⟨(World.cell?_of_block (w := w) (a := ⟨b, _, none⟩) e).trans h1, (World.cell?_of_block (w := w) (a := ⟨b, _, none⟩) e).trans h2, (World.cell?_of_block (w := w) (a := ⟨b, _, none⟩) e).trans h3⟩

theorem In.keep {B : Nat → Prop} {w w' : World} (hk : ∀ k, B k → k < w.heap.size → w'.heap[k]? = w.heap[k]?) {S : Sh} : ∀ {M : Mx}, In B w S M → In B w' S M := by
  induction S using Sh.ind with
  | h kind n L H m K ih =>
    rintro M ⟨a, b, off, cap, a', b', off', cap', e1, hn, hs, hl, e2, hm, hl', h⟩
    exact ⟨a, b, off, cap, a', b', off', cap', e1, hn, hs.keep (fun h => (hn h).2) hk, hl, e2, hm, hl', fun i hi => ⟨(h i hi).1.keep (hk b' (hm (by omega)).2), ih i hi (h i hi).2⟩⟩

theorem In.below {B : Nat → Prop} {w w' : World} {S : Sh} {M : Mx} (h : In B w S M) (hb : Below w.heap.size w w') : In B w' S M :=
  h.keep (fun k _ hk => hb.block k hk)

theorem In.mono {B B' : Nat → Prop} {w : World} (hB : ∀ k, B k → B' k) {S : Sh} : ∀ {M : Mx}, In B w S M → In B' w S M := by
  induction S using Sh.ind with
  | h kind n L H m K ih =>
    rintro M ⟨a, b, off, cap, a', b', off', cap', e1, hn, hs, hl, e2, hm, hl', h⟩
    exact ⟨a, b, off, cap, a', b', off', cap', e1, fun x => ⟨(hn x).1, hB _ (hn x).2⟩, hs, hl, e2, fun x => ⟨(hm x).1, hB _ (hm x).2⟩, hl', fun i hi => ⟨(h i hi).1, ih i hi (h i hi).2⟩⟩

def sumN (f : Nat → Nat) : Nat → Nat
  | 0 => 0
  | k + 1 => sumN f k + f k

theorem sumN_le {f : Nat → Nat} : ∀ {k m : Nat}, k ≤ m → sumN f k ≤ sumN f m
  | k, 0, h => by obtain rfl : k = 0 := by omega
                  exact Nat.le_refl _
  | k, m + 1, h => by
    by_cases e : k = m + 1
    · subst e; exact Nat.le_refl _
    · have := sumN_le (f := f) (show k ≤ m by omega)
      simp only [sumN]; omega
theorem sumN_at {f : Nat → Nat} {i m : Nat} (h : i < m) : sumN f i + f i ≤ sumN f m := sumN_le (f := f) (k := i + 1) h

theorem sumN_congr {f g : Nat → Nat} : ∀ {m : Nat}, (∀ i, i < m → f i = g i) → sumN f m = sumN g m
  | 0, _ => rfl
  | m + 1, h => by simp only [sumN, sumN_congr (m := m) (fun i hi => h i (by omega)), h m (by omega)]

/-- how much a Rex holds: spans and kids, all the way down -/
def cnt : Sh → Nat
  | .node _ n _ _ m kids => n + m + sumN (fun i => if hi : i < m then cnt (kids ⟨i, hi⟩) else 0) m
theorem cnt_mk (kind : Int) (n : Nat) (L H : Nat → Int) (m : Nat) (K : Nat → Sh) : cnt (.mk kind n L H m K) = n + m + sumN (fun i => cnt (K i)) m := by
  simp only [Sh.mk, cnt]
  rw [sumN_congr (g := fun i => cnt (K i)) (fun i hi => by rw [dif_pos hi])]

/-- what the size's function answers: what is left, or -1 -/
def leftOf (left : Int) (c : Nat) : Int := if left < c then -1 else left - c

end Go.Proofs.YtplpdikkkbiacaaGreatDoor

