/- Part 13 of what the proof stands on. -/
import Derived.Test.YtiajaocckkghgabGreatPkLAL
import Derived.RegionTactic
import Derived.ChangeAlike
namespace Go.Proofs.YtiajaocckkghgabGreat
end Go.Proofs.YtiajaocckkghgabGreat
