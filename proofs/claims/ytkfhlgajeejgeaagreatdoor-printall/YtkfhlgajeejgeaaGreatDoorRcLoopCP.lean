/- The codes of three loops of the reference's Canon: the elements put in, each from behind. -/
import Derived.Test.YtkfhlgajeejgeaaGreatDoorRcMathP
import Derived.Test.YtkfhlgajeejgeaaGreatDoorPkF
import Derived.Test.YtkfhlgajeejgeaaGreatDoorPkD
import Derived.BigQuiet
import Derived.Maps.AppendAt
import Derived.Shelf.RegionOpenPlain
namespace Go.Proofs.YtkfhlgajeejgeaaGreatDoor
open Go.ChangeShapes Go.WideShapes Go.ChangeAt Go.RowKit
set_option linter.unusedVariables false
set_option linter.unusedSimpArgs false
set_option maxRecDepth 20000

/-- The code of a block. -/
def blkOf (n : Nat) : Code → Option Code
  | .block i b => if i = n then some b else blkOf n b
  | .seq a b => (blkOf n a).orElse fun _ => blkOf n b
  | .cond _ a b => (blkOf n a).orElse fun _ => blkOf n b
  | .loop b => blkOf n b
  | .scope b => blkOf n b
  | _ => none
end Go.Proofs.YtkfhlgajeejgeaaGreatDoor
