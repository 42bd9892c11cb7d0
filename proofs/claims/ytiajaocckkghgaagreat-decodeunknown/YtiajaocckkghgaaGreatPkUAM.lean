/- Part 13 of what the proof stands on. -/
import Derived.Test.YtiajaocckkghgaaGreatPkUAL
import Derived.RegionTactic
import Derived.ChangeAlike
namespace Go.Proofs.YtiajaocckkghgaaGreat
end Go.Proofs.YtiajaocckkghgaaGreat
