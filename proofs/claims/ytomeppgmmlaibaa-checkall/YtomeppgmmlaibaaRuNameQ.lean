/- Whether a text is a name, or a key, reckoned over its list of bytes. -/
import Derived.Test.YtomeppgmmlaibaaRuAllMath
namespace Go.Proofs.Ytomeppgmmlaibaa
open Go.RowKit
def keyK (l : List UInt8) : Bool := [[115, 99, 104, 101, 109, 97], [109, 101, 115, 115, 97, 103, 101], [101, 110, 117, 109], [99, 97, 108, 108], [114, 101, 116, 117, 114, 110, 115], [114, 101, 115, 101, 114, 118, 101, 100],
  [111, 112, 116, 105, 111, 110, 97, 108], [114, 101, 112, 101, 97, 116, 101, 100], [105, 110, 116, 51, 50], [105, 110, 116, 54, 52], [98, 111, 111, 108], [116, 101, 120, 116], [98, 121, 116, 101, 115]].any fun (k : List UInt8) => l == k
def nameK (l : List UInt8) : Bool := decide (1 ≤ countN l ∧ countN l ≤ 20) && !keyK l && okFrom true ((runesOf l).getD [])
theorem keyB_eq (s : ByteArray) : keyB s = keyK s.data.toList := by unfold keyB keyK; rw [ByteArray.toList_eq]
theorem nameB_eq (s : ByteArray) : nameB s = nameK s.data.toList := by unfold nameB nameK; rw [keyB_eq]
end Go.Proofs.Ytomeppgmmlaibaa
