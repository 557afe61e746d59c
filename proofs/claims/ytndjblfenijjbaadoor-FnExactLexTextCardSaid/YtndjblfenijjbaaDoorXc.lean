/- the walk of the law of LexSame -/
import Derived.Test.YtndjblfenijjbaaDoorXb
namespace Go.Proofs.YtndjblfenijjbaaDoor
open Go.RowKit
set_option linter.unusedVariables false
set_option linter.unusedSimpArgs false

/-- a copy of tokens: what comes of it -/
def ToTk (n : Nat) (K : Nat → Tk) (w : World) (e : Ending) (w' : World) : Prop :=
  ∃ g, e = .returned (.slice (some ⟨g, 0, none⟩) n n) ∧ w'.rowIs g 31 (n * 3) (flat3 K) ∧ w.heap.size ≤ g ∧ Below w.heap.size w w'
theorem toTk_any (a : Option Addr) (b off cap n : Nat) (K : Nat → Tk) (w : World) (hga : 0 < n → a = some ⟨b, off, none⟩) (hc : TkIn w b off n K) (hn : n ≤ 1048576) :
    Calls Tryd.prog 6 #[.slice a n cap] w (ToTk n K w) :=
  (toTokS_any a b off cap n K w hga hc hn).mono fun e w' ⟨h1, h2, h3⟩ => ⟨_, h1, h2, Nat.le_refl _, h3⟩

end Go.Proofs.YtndjblfenijjbaaDoor

