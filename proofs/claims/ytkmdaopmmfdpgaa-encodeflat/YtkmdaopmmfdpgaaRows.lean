/-
  NARROWER THAN 'FOR EVERY INPUT', by the rows' own cells (each row's printed sentence says how): EncodeAll: loops · EncodeRises: loops · EncodeFlat: loops · EncodeJoins: loops · EncodeRest: loops.
  DERIVED. THE GIVEN ROWS OF THIS SEAT. 6 by the template 'for every input the law returns true; each argument reads behind the call as it read before'; 0 by the template 'total and deterministic' (their statements: YtkmdaopmmfdpgaaTotals.lean).
  GIVEN WITH THE SEED: the statements are not yours to turn. If you find one false, say at which input.
  Laid BY PROGRAM, IN A SANDBOX (cutbox-rows.mjs): the forced cells as the released guide's own fill.sh prints them over the translation 0113d59ad643675d… (all of the seat's roots in one cut). By AI agents, Wed Nov 11 2026. No macro, syntax, notation, axiom, sorry.
-/
import Derived.Test.YtkmdaopmmfdpgaaChecked
import GoSem.Claim
import GoSem.ClaimJoined
import GoSem.ClaimMapViews
import Derived.JoinedTies
import Derived.KernelRfl
namespace Go.Proofs.Ytkmdaopmmfdpgaa
/- THE CELL 'sum', in the pinned program and in every row, IS THE sha256 OF THE DUMP (.gsa) THAT YtkmdaopmmfdpgaaProg.lean LOADS. Nothing in Lean hashes anything: it is a label: what it is worth is what the hold of that sum in a sandbox is worth. -/
noncomputable def Try.pinned : Pinned := { name := "ytkmdaopmmfdpgaa", sum := "0113d59ad643675d30b191f77f1527b69dd8d4edde664d03340ece40f3b6d065", checked := Try.checked }
namespace Rows
def none {H : Type} : Left H := { results := [], args := [] }

/-- 'concordatlaw11.EncodeAll': WHATEVER THE INPUT: true; the input reads as it did. -/
def encodeAllSpec : ChangeSpec := { name := "encodeAll", fn := fun _ => fun
  | [d] => { results := [.lit (.bool true)], args := [d] }
  | _ => none }
def encodeAllRow : OpenClaim := { program := "ytkmdaopmmfdpgaa", sum := "0113d59ad643675d30b191f77f1527b69dd8d4edde664d03340ece40f3b6d065", func := "concordat/concordatlaw11.EncodeAll", spec := "encodeAll", unfollowed := true, recurses := true, loops := true, plainKeys := false, apart := false }
def EncodeAllSaid : Prop := encodeAllRow.holds Try.pinned (OpenSpec.ofChange encodeAllSpec)

/-- ITS FALSE NEIGHBOUR: 'it returns false'. Refute it at one input. -/
def encodeAllWrong : ChangeSpec := { name := "encodeAll", fn := fun _ => fun
  | [d] => { results := [.lit (.bool false)], args := [d] }
  | _ => none }
def EncodeAllWrongFalsely : Prop := encodeAllRow.holds Try.pinned (OpenSpec.ofChange encodeAllWrong)

/-- 'concordatlaw11.EncodeRises': WHATEVER THE INPUT: true; the input reads as it did. -/
def encodeRisesSpec : ChangeSpec := { name := "encodeRises", fn := fun _ => fun
  | [d] => { results := [.lit (.bool true)], args := [d] }
  | _ => none }
def encodeRisesRow : OpenClaim := { program := "ytkmdaopmmfdpgaa", sum := "0113d59ad643675d30b191f77f1527b69dd8d4edde664d03340ece40f3b6d065", func := "concordat/concordatlaw11.EncodeRises", spec := "encodeRises", unfollowed := true, recurses := true, loops := true, plainKeys := false, apart := false }
def EncodeRisesSaid : Prop := encodeRisesRow.holds Try.pinned (OpenSpec.ofChange encodeRisesSpec)

/-- ITS FALSE NEIGHBOUR: 'it returns false'. Refute it at one input. -/
def encodeRisesWrong : ChangeSpec := { name := "encodeRises", fn := fun _ => fun
  | [d] => { results := [.lit (.bool false)], args := [d] }
  | _ => none }
def EncodeRisesWrongFalsely : Prop := encodeRisesRow.holds Try.pinned (OpenSpec.ofChange encodeRisesWrong)

/-- 'concordatlaw11.EncodeFlat': WHATEVER THE INPUT: true; the input reads as it did. -/
def encodeFlatSpec : ChangeSpec := { name := "encodeFlat", fn := fun _ => fun
  | [d1, d2] => { results := [.lit (.bool true)], args := [d1, d2] }
  | _ => none }
def encodeFlatRow : OpenClaim := { program := "ytkmdaopmmfdpgaa", sum := "0113d59ad643675d30b191f77f1527b69dd8d4edde664d03340ece40f3b6d065", func := "concordat/concordatlaw11.EncodeFlat", spec := "encodeFlat", unfollowed := true, recurses := true, loops := true, plainKeys := false, apart := false }
def EncodeFlatSaid : Prop := encodeFlatRow.holds Try.pinned (OpenSpec.ofChange encodeFlatSpec)

/-- ITS FALSE NEIGHBOUR: 'it returns false'. Refute it at one input. -/
def encodeFlatWrong : ChangeSpec := { name := "encodeFlat", fn := fun _ => fun
  | [d1, d2] => { results := [.lit (.bool false)], args := [d1, d2] }
  | _ => none }
def EncodeFlatWrongFalsely : Prop := encodeFlatRow.holds Try.pinned (OpenSpec.ofChange encodeFlatWrong)

/-- 'concordatlaw11.EncodeJoins': WHATEVER THE INPUT: true; the input reads as it did. -/
def encodeJoinsSpec : ChangeSpec := { name := "encodeJoins", fn := fun _ => fun
  | [d1, d2] => { results := [.lit (.bool true)], args := [d1, d2] }
  | _ => none }
def encodeJoinsRow : OpenClaim := { program := "ytkmdaopmmfdpgaa", sum := "0113d59ad643675d30b191f77f1527b69dd8d4edde664d03340ece40f3b6d065", func := "concordat/concordatlaw11.EncodeJoins", spec := "encodeJoins", unfollowed := true, recurses := true, loops := true, plainKeys := false, apart := false }
def EncodeJoinsSaid : Prop := encodeJoinsRow.holds Try.pinned (OpenSpec.ofChange encodeJoinsSpec)

/-- ITS FALSE NEIGHBOUR: 'it returns false'. Refute it at one input. -/
def encodeJoinsWrong : ChangeSpec := { name := "encodeJoins", fn := fun _ => fun
  | [d1, d2] => { results := [.lit (.bool false)], args := [d1, d2] }
  | _ => none }
def EncodeJoinsWrongFalsely : Prop := encodeJoinsRow.holds Try.pinned (OpenSpec.ofChange encodeJoinsWrong)

/-- 'concordatlaw11.EncodeBig': WHATEVER THE INPUT: true; the input reads as it did. -/
def encodeBigSpec : ChangeSpec := { name := "encodeBig", fn := fun _ => fun
  | [] => { results := [.lit (.bool true)], args := [] }
  | _ => none }
def encodeBigRow : OpenClaim := { program := "ytkmdaopmmfdpgaa", sum := "0113d59ad643675d30b191f77f1527b69dd8d4edde664d03340ece40f3b6d065", func := "concordat/concordatlaw11.EncodeBig", spec := "encodeBig", unfollowed := true, recurses := true, plainKeys := false, apart := false }
def EncodeBigSaid : Prop := encodeBigRow.holds Try.pinned (OpenSpec.ofChange encodeBigSpec)

/-- ITS FALSE NEIGHBOUR: 'it returns false'. Refute it at one input. -/
def encodeBigWrong : ChangeSpec := { name := "encodeBig", fn := fun _ => fun
  | [] => { results := [.lit (.bool false)], args := [] }
  | _ => none }
def EncodeBigWrongFalsely : Prop := encodeBigRow.holds Try.pinned (OpenSpec.ofChange encodeBigWrong)

/-- 'concordatlaw11.EncodeRest': WHATEVER THE INPUT: true; the input reads as it did. -/
def encodeRestSpec : ChangeSpec := { name := "encodeRest", fn := fun _ => fun
  | [d] => { results := [.lit (.bool true)], args := [d] }
  | _ => none }
def encodeRestRow : OpenClaim := { program := "ytkmdaopmmfdpgaa", sum := "0113d59ad643675d30b191f77f1527b69dd8d4edde664d03340ece40f3b6d065", func := "concordat/concordatlaw11.EncodeRest", spec := "encodeRest", unfollowed := true, recurses := true, loops := true, plainKeys := false, apart := false }
def EncodeRestSaid : Prop := encodeRestRow.holds Try.pinned (OpenSpec.ofChange encodeRestSpec)

/-- ITS FALSE NEIGHBOUR: 'it returns false'. Refute it at one input. -/
def encodeRestWrong : ChangeSpec := { name := "encodeRest", fn := fun _ => fun
  | [d] => { results := [.lit (.bool false)], args := [d] }
  | _ => none }
def EncodeRestWrongFalsely : Prop := encodeRestRow.holds Try.pinned (OpenSpec.ofChange encodeRestWrong)

/- THE SECOND FORM. 'bulk': how many values and letters a reading holds, each counted each time it is reached (what is shared counts as often as it is met; a slice's spare places count too). A statement '..UptoSaid' is the law's where the arguments, and the package variables that the reading takes, are together of bulk at most 1048576: NARROWER than '..Said'. Prove '..Said' where nothing that the law and all that it calls make is longer than what came in: it says more and counts as full. Else prove '..UptoSaid'. A law counts once. -/
mutual
def uptoBulk {H : Type} : DataW H → Nat
  | .lit (.string bytes) => bytes.length + 1
  | .lit _ => 1
  | .nil => 1
  | .ptr d => uptoBulk d + 1
  | .slice elems spare => uptoBulkAll elems + uptoBulkAll spare + 1
  | .agg parts => uptoBulkAll parts + 1
  | .iface _ d => uptoBulk d + 1
  | .map entries => uptoBulkEntries entries + 1
  | .held _ => 1
def uptoBulkAll {H : Type} : List (DataW H) → Nat
  | [] => 0
  | d :: r => uptoBulk d + uptoBulkAll r
def uptoBulkEntries {H : Type} : List (Lit × DataW H) → Nat
  | [] => 0
  | x :: r => uptoBulkEntry x + uptoBulkEntries r
def uptoBulkEntry {H : Type} : Lit × DataW H → Nat
  | (.string bytes, d) => bytes.length + uptoBulk d + 1
  | (_, d) => uptoBulk d + 1
 end
def uptoSmall : (H : Type) → List (DataW H) → Bool := fun _ ds => decide (uptoBulkAll ds ≤ 1048576)
def OpenSpec.upto (s : _root_.Go.ChangeSpec) : _root_.Go.OpenSpec := { _root_.Go.OpenSpec.ofChange s with cond := some uptoSmall }

/-- 'concordatlaw11.EncodeAll', WHERE WHAT IT READS IS OF BULK AT MOST 1048576: true; the input reads as it did. -/
def encodeAllUptoRow : OpenClaim := { program := "ytkmdaopmmfdpgaa", sum := "0113d59ad643675d30b191f77f1527b69dd8d4edde664d03340ece40f3b6d065", func := "concordat/concordatlaw11.EncodeAll", spec := "encodeAll", unfollowed := true, recurses := true, loops := true, plainKeys := false, apart := false, narrowed := true }
def EncodeAllUptoSaid : Prop := encodeAllUptoRow.holds Try.pinned (OpenSpec.upto encodeAllSpec)

/-- 'concordatlaw11.EncodeRises', WHERE WHAT IT READS IS OF BULK AT MOST 1048576: true; the input reads as it did. -/
def encodeRisesUptoRow : OpenClaim := { program := "ytkmdaopmmfdpgaa", sum := "0113d59ad643675d30b191f77f1527b69dd8d4edde664d03340ece40f3b6d065", func := "concordat/concordatlaw11.EncodeRises", spec := "encodeRises", unfollowed := true, recurses := true, loops := true, plainKeys := false, apart := false, narrowed := true }
def EncodeRisesUptoSaid : Prop := encodeRisesUptoRow.holds Try.pinned (OpenSpec.upto encodeRisesSpec)

/-- 'concordatlaw11.EncodeFlat', WHERE WHAT IT READS IS OF BULK AT MOST 1048576: true; the input reads as it did. -/
def encodeFlatUptoRow : OpenClaim := { program := "ytkmdaopmmfdpgaa", sum := "0113d59ad643675d30b191f77f1527b69dd8d4edde664d03340ece40f3b6d065", func := "concordat/concordatlaw11.EncodeFlat", spec := "encodeFlat", unfollowed := true, recurses := true, loops := true, plainKeys := false, apart := false, narrowed := true }
def EncodeFlatUptoSaid : Prop := encodeFlatUptoRow.holds Try.pinned (OpenSpec.upto encodeFlatSpec)

/-- 'concordatlaw11.EncodeJoins', WHERE WHAT IT READS IS OF BULK AT MOST 1048576: true; the input reads as it did. -/
def encodeJoinsUptoRow : OpenClaim := { program := "ytkmdaopmmfdpgaa", sum := "0113d59ad643675d30b191f77f1527b69dd8d4edde664d03340ece40f3b6d065", func := "concordat/concordatlaw11.EncodeJoins", spec := "encodeJoins", unfollowed := true, recurses := true, loops := true, plainKeys := false, apart := false, narrowed := true }
def EncodeJoinsUptoSaid : Prop := encodeJoinsUptoRow.holds Try.pinned (OpenSpec.upto encodeJoinsSpec)

/-- 'concordatlaw11.EncodeBig', WHERE WHAT IT READS IS OF BULK AT MOST 1048576: true; the input reads as it did. -/
def encodeBigUptoRow : OpenClaim := { program := "ytkmdaopmmfdpgaa", sum := "0113d59ad643675d30b191f77f1527b69dd8d4edde664d03340ece40f3b6d065", func := "concordat/concordatlaw11.EncodeBig", spec := "encodeBig", unfollowed := true, recurses := true, plainKeys := false, apart := false, narrowed := true }
def EncodeBigUptoSaid : Prop := encodeBigUptoRow.holds Try.pinned (OpenSpec.upto encodeBigSpec)

/-- 'concordatlaw11.EncodeRest', WHERE WHAT IT READS IS OF BULK AT MOST 1048576: true; the input reads as it did. -/
def encodeRestUptoRow : OpenClaim := { program := "ytkmdaopmmfdpgaa", sum := "0113d59ad643675d30b191f77f1527b69dd8d4edde664d03340ece40f3b6d065", func := "concordat/concordatlaw11.EncodeRest", spec := "encodeRest", unfollowed := true, recurses := true, loops := true, plainKeys := false, apart := false, narrowed := true }
def EncodeRestUptoSaid : Prop := encodeRestUptoRow.holds Try.pinned (OpenSpec.upto encodeRestSpec)

end Rows
end Go.Proofs.Ytkmdaopmmfdpgaa
