/- Split from VlMath. -/
import Derived.Test.YtmgbhicogmclgaaTvMath
namespace Go.Proofs.Ytmgbhicogmclgaa
set_option linter.unusedVariables false
set_option linter.unusedSimpArgs false

/-- Not deeper than n. -/
def DpN : Nat → Tr → Prop
  | 0, _ => False
  | n + 1, t => ∀ e ∈ t.es, ∀ x ∈ e.2, DpN n x
end Go.Proofs.Ytmgbhicogmclgaa
