/-
  No cell of these rows narrows 'for every input' (looked for: loops, veiled, ifaces, maps, wideKeys, modest, calm, conditions, laid).
  DERIVED. THE GIVEN ROWS OF THIS SEAT. 3 by the template 'for every input the law returns true; each argument reads behind the call as it read before'; 0 by the template 'total and deterministic' (their statements: YtiajaocckkghgabGreatTotals.lean).
  GIVEN WITH THE SEED: the statements are not yours to turn. If you find one false, say at which input.
  Laid BY PROGRAM, IN A SANDBOX (cutbox-rows.mjs): the forced cells as the released guide's own fill.sh prints them over the translation 37404bc363e21253… (all of the seat's roots in one cut). By AI agents, Wed Nov 11 2026. No macro, syntax, notation, axiom, sorry.
-/
import Derived.Test.YtiajaocckkghgabGreatChecked
import GoSem.Claim
import GoSem.ClaimJoined
import GoSem.ClaimMapViews
import Derived.JoinedTies
import Derived.KernelRfl
namespace Go.Proofs.YtiajaocckkghgabGreat
/- THE CELL 'sum', in the pinned program and in every row, IS THE sha256 OF THE DUMP (.gsa) THAT YtiajaocckkghgabGreatProg.lean LOADS. Nothing in Lean hashes anything: it is a label: what it is worth is what the hold of that sum in a sandbox is worth. -/
noncomputable def Tryz.pinned : Pinned := { name := "ytiajaocckkghgabgreat", sum := "37404bc363e2125386deda8c53046b1d7517455d18bec165385a63c85d597245", checked := Tryz.checked }
namespace Rows
def none {H : Type} : Left H := { results := [], args := [] }

/-- 'concordatlaw12.DecodeShuffled': WHATEVER THE INPUT: true; the input reads as it did. -/
def decodeShuffledSpec : ChangeSpec := { name := "decodeShuffled", fn := fun _ => fun
  | [d1, d2, d3, d4] => { results := [.lit (.bool true)], args := [d1, d2, d3, d4] }
  | _ => none }
def decodeShuffledRow : OpenClaim := { program := "ytiajaocckkghgabgreat", sum := "37404bc363e2125386deda8c53046b1d7517455d18bec165385a63c85d597245", func := "concordat/concordatlaw12.DecodeShuffled", spec := "decodeShuffled", unfollowed := true, recurses := true, plainKeys := false, apart := false }
def DecodeShuffledSaid : Prop := decodeShuffledRow.holds Tryz.pinned (OpenSpec.ofChange decodeShuffledSpec)

/-- ITS FALSE NEIGHBOUR: 'it returns false'. Refute it at one input. -/
def decodeShuffledWrong : ChangeSpec := { name := "decodeShuffled", fn := fun _ => fun
  | [d1, d2, d3, d4] => { results := [.lit (.bool false)], args := [d1, d2, d3, d4] }
  | _ => none }
def DecodeShuffledWrongFalsely : Prop := decodeShuffledRow.holds Tryz.pinned (OpenSpec.ofChange decodeShuffledWrong)

/-- 'concordatlaw12.DecodeDeep': WHATEVER THE INPUT: true; the input reads as it did. -/
def decodeDeepSpec : ChangeSpec := { name := "decodeDeep", fn := fun _ => fun
  | [d] => { results := [.lit (.bool true)], args := [d] }
  | _ => none }
def decodeDeepRow : OpenClaim := { program := "ytiajaocckkghgabgreat", sum := "37404bc363e2125386deda8c53046b1d7517455d18bec165385a63c85d597245", func := "concordat/concordatlaw12.DecodeDeep", spec := "decodeDeep", unfollowed := true, recurses := true, plainKeys := false, apart := false }
def DecodeDeepSaid : Prop := decodeDeepRow.holds Tryz.pinned (OpenSpec.ofChange decodeDeepSpec)

/-- ITS FALSE NEIGHBOUR: 'it returns false'. Refute it at one input. -/
def decodeDeepWrong : ChangeSpec := { name := "decodeDeep", fn := fun _ => fun
  | [d] => { results := [.lit (.bool false)], args := [d] }
  | _ => none }
def DecodeDeepWrongFalsely : Prop := decodeDeepRow.holds Tryz.pinned (OpenSpec.ofChange decodeDeepWrong)

/-- 'concordatlaw12.DecodeLists': WHATEVER THE INPUT: true; the input reads as it did. -/
def decodeListsSpec : ChangeSpec := { name := "decodeLists", fn := fun _ => fun
  | [d1, d2] => { results := [.lit (.bool true)], args := [d1, d2] }
  | _ => none }
def decodeListsRow : OpenClaim := { program := "ytiajaocckkghgabgreat", sum := "37404bc363e2125386deda8c53046b1d7517455d18bec165385a63c85d597245", func := "concordat/concordatlaw12.DecodeLists", spec := "decodeLists", unfollowed := true, recurses := true, plainKeys := false, apart := false }
def DecodeListsSaid : Prop := decodeListsRow.holds Tryz.pinned (OpenSpec.ofChange decodeListsSpec)

/-- ITS FALSE NEIGHBOUR: 'it returns false'. Refute it at one input. -/
def decodeListsWrong : ChangeSpec := { name := "decodeLists", fn := fun _ => fun
  | [d1, d2] => { results := [.lit (.bool false)], args := [d1, d2] }
  | _ => none }
def DecodeListsWrongFalsely : Prop := decodeListsRow.holds Tryz.pinned (OpenSpec.ofChange decodeListsWrong)

/- THE SECOND FORM. 'bulk': how many values and letters a reading holds, each counted each time it is reached (what is shared counts as often as it is met; a slice's spare places count too). A statement '..UptoSaid' is the law's where the arguments, and the package variables that the reading takes, are together of bulk at most 1048576: NARROWER than '..Said'. Prove '..Said' where nothing that the law and all that it calls make is longer than what came in: it says more and counts as full. Else prove '..UptoSaid'. A law counts once. -/
mutual
def uptoBulk {H : Type} : DataW H → Nat
  | .lit (.string bytes) => bytes.length + 1
  | .lit _ => 1
  | .nil => 1
  | .ptr d => uptoBulk d + 1
  | .slice elems spare => uptoBulkAll elems + uptoBulkAll spare + 1
  | .agg parts => uptoBulkAll parts + 1
  | .iface _ d => uptoBulk d + 1
  | .map entries => uptoBulkEntries entries + 1
  | .held _ => 1
def uptoBulkAll {H : Type} : List (DataW H) → Nat
  | [] => 0
  | d :: r => uptoBulk d + uptoBulkAll r
def uptoBulkEntries {H : Type} : List (Lit × DataW H) → Nat
  | [] => 0
  | x :: r => uptoBulkEntry x + uptoBulkEntries r
def uptoBulkEntry {H : Type} : Lit × DataW H → Nat
  | (.string bytes, d) => bytes.length + uptoBulk d + 1
  | (_, d) => uptoBulk d + 1
 end
def uptoSmall : (H : Type) → List (DataW H) → Bool := fun _ ds => decide (uptoBulkAll ds ≤ 1048576)
def OpenSpec.upto (s : _root_.Go.ChangeSpec) : _root_.Go.OpenSpec := { _root_.Go.OpenSpec.ofChange s with cond := some uptoSmall }

/-- 'concordatlaw12.DecodeShuffled', WHERE WHAT IT READS IS OF BULK AT MOST 1048576: true; the input reads as it did. -/
def decodeShuffledUptoRow : OpenClaim := { program := "ytiajaocckkghgabgreat", sum := "37404bc363e2125386deda8c53046b1d7517455d18bec165385a63c85d597245", func := "concordat/concordatlaw12.DecodeShuffled", spec := "decodeShuffled", unfollowed := true, recurses := true, plainKeys := false, apart := false, narrowed := true }
def DecodeShuffledUptoSaid : Prop := decodeShuffledUptoRow.holds Tryz.pinned (OpenSpec.upto decodeShuffledSpec)

/-- 'concordatlaw12.DecodeDeep', WHERE WHAT IT READS IS OF BULK AT MOST 1048576: true; the input reads as it did. -/
def decodeDeepUptoRow : OpenClaim := { program := "ytiajaocckkghgabgreat", sum := "37404bc363e2125386deda8c53046b1d7517455d18bec165385a63c85d597245", func := "concordat/concordatlaw12.DecodeDeep", spec := "decodeDeep", unfollowed := true, recurses := true, plainKeys := false, apart := false, narrowed := true }
def DecodeDeepUptoSaid : Prop := decodeDeepUptoRow.holds Tryz.pinned (OpenSpec.upto decodeDeepSpec)

/-- 'concordatlaw12.DecodeLists', WHERE WHAT IT READS IS OF BULK AT MOST 1048576: true; the input reads as it did. -/
def decodeListsUptoRow : OpenClaim := { program := "ytiajaocckkghgabgreat", sum := "37404bc363e2125386deda8c53046b1d7517455d18bec165385a63c85d597245", func := "concordat/concordatlaw12.DecodeLists", spec := "decodeLists", unfollowed := true, recurses := true, plainKeys := false, apart := false, narrowed := true }
def DecodeListsUptoSaid : Prop := decodeListsUptoRow.holds Tryz.pinned (OpenSpec.upto decodeListsSpec)

end Rows
end Go.Proofs.YtiajaocckkghgabGreat
