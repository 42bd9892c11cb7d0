/- Part 7 of what the proof stands on. -/
import Derived.Test.YtdkolhfpfimeoabPkHAF
namespace Go.Proofs.Ytdkolhfpfimeoab
set_option maxHeartbeats 8000000
end Go.Proofs.Ytdkolhfpfimeoab
