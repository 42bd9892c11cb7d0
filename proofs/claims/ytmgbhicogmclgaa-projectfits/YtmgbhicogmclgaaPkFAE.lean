/- Part 5 of what the proof stands on. -/
import Derived.Test.YtmgbhicogmclgaaPkFAD
namespace Go.Proofs.Ytmgbhicogmclgaa
set_option maxHeartbeats 8000000
end Go.Proofs.Ytmgbhicogmclgaa
