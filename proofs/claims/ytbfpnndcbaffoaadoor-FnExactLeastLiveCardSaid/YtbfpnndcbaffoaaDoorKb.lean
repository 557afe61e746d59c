/- the walks of l8Acc, l8To, numberAt, nextBy, differs, behind -/
import Derived.Test.YtbfpnndcbaffoaaDoorKa
import Derived.Test.YtbfpnndcbaffoaaDoorJq
import Derived.Test.YtbfpnndcbaffoaaDoorJf
import Derived.Deep.RegionHeld
namespace Go.Proofs.YtbfpnndcbaffoaaDoor
open Go.RowKit
set_option linter.unusedVariables false
set_option linter.unusedSimpArgs false

theorem bk_has {D : Dx} (h : DOk D) {k : Nat} (hk : k < D.pn) : Sb D.P k (bk D k) = true := by
  obtain ⟨r, hr⟩ := first_exists (Sb D.P k)
  have h0 := hr.pos (h.1.1 k hk).ne
  have e := bk_eq hr h0
  rcases hr with ⟨g, _⟩ | ⟨x, h1, h2, h3, _⟩
  · omega
  · have : x = bk D k := by omega
    rw [← this]; exact h3
theorem NextOf.bk {D : Dx} (h : DOk D) {s k : Nat} (hk : k < D.pn) {r : Int} (hr : NextOf D s (bk D k : Int) r) : r = D.R.G s k := by
  have hb := bk_has h hk
  exact hr.unique h (.inl ⟨k, hk, hb, rfl⟩)

end Go.Proofs.YtbfpnndcbaffoaaDoor

