/-
  NARROWER THAN 'FOR EVERY INPUT', by the rows' own cells (each row's printed sentence says how): ValueChecks: loops · ValueBack: loops · ValueNodes: loops · ValueAsserts: loops · ValueApart: loops.
  DERIVED. THE GIVEN ROWS OF THIS SEAT. 6 by the template 'for every input the law returns true; each argument reads behind the call as it read before'; 0 by the template 'total and deterministic' (their statements: YtgedelgdjcnogaaTotals.lean).
  GIVEN WITH THE SEED: the statements are not yours to turn. If you find one false, say at which input.
  Laid BY PROGRAM, IN A SANDBOX (cutbox-rows.mjs): the forced cells as the released guide's own fill.sh prints them over the translation 72574c15816e9424… (all of the seat's roots in one cut). By AI agents, Wed Nov 11 2026. No macro, syntax, notation, axiom, sorry.
-/
import Derived.Test.YtgedelgdjcnogaaChecked
import GoSem.Claim
import GoSem.ClaimJoined
import GoSem.ClaimMapViews
import Derived.JoinedTies
import Derived.KernelRfl
namespace Go.Proofs.Ytgedelgdjcnogaa
/- THE CELL 'sum', in the pinned program and in every row, IS THE sha256 OF THE DUMP (.gsa) THAT YtgedelgdjcnogaaProg.lean LOADS. Nothing in Lean hashes anything: it is a label: what it is worth is what the hold of that sum in a sandbox is worth. -/
noncomputable def Try.pinned : Pinned := { name := "ytgedelgdjcnogaa", sum := "72574c15816e94242b3d39cd269d44b099d231be544af2e2f92974237c1a8141", checked := Try.checked }
namespace Rows
def none {H : Type} : Left H := { results := [], args := [] }

/-- 'concordatlaw09.ValueChecks': WHATEVER THE INPUT: true; the input reads as it did. -/
def valueChecksSpec : ChangeSpec := { name := "valueChecks", fn := fun _ => fun
  | [d1, d2] => { results := [.lit (.bool true)], args := [d1, d2] }
  | _ => none }
def valueChecksRow : OpenClaim := { program := "ytgedelgdjcnogaa", sum := "72574c15816e94242b3d39cd269d44b099d231be544af2e2f92974237c1a8141", func := "concordat/concordatlaw09.ValueChecks", spec := "valueChecks", unfollowed := true, recurses := true, loops := true, plainKeys := false, apart := false }
def ValueChecksSaid : Prop := valueChecksRow.holds Try.pinned (OpenSpec.ofChange valueChecksSpec)

/-- ITS FALSE NEIGHBOUR: 'it returns false'. Refute it at one input. -/
def valueChecksWrong : ChangeSpec := { name := "valueChecks", fn := fun _ => fun
  | [d1, d2] => { results := [.lit (.bool false)], args := [d1, d2] }
  | _ => none }
def ValueChecksWrongFalsely : Prop := valueChecksRow.holds Try.pinned (OpenSpec.ofChange valueChecksWrong)

/-- 'concordatlaw09.ValueBack': WHATEVER THE INPUT: true; the input reads as it did. -/
def valueBackSpec : ChangeSpec := { name := "valueBack", fn := fun _ => fun
  | [d] => { results := [.lit (.bool true)], args := [d] }
  | _ => none }
def valueBackRow : OpenClaim := { program := "ytgedelgdjcnogaa", sum := "72574c15816e94242b3d39cd269d44b099d231be544af2e2f92974237c1a8141", func := "concordat/concordatlaw09.ValueBack", spec := "valueBack", unfollowed := true, recurses := true, loops := true, plainKeys := false, apart := false }
def ValueBackSaid : Prop := valueBackRow.holds Try.pinned (OpenSpec.ofChange valueBackSpec)

/-- ITS FALSE NEIGHBOUR: 'it returns false'. Refute it at one input. -/
def valueBackWrong : ChangeSpec := { name := "valueBack", fn := fun _ => fun
  | [d] => { results := [.lit (.bool false)], args := [d] }
  | _ => none }
def ValueBackWrongFalsely : Prop := valueBackRow.holds Try.pinned (OpenSpec.ofChange valueBackWrong)

/-- 'concordatlaw09.ValueNodes': WHATEVER THE INPUT: true; the input reads as it did. -/
def valueNodesSpec : ChangeSpec := { name := "valueNodes", fn := fun _ => fun
  | [d1, d2] => { results := [.lit (.bool true)], args := [d1, d2] }
  | _ => none }
def valueNodesRow : OpenClaim := { program := "ytgedelgdjcnogaa", sum := "72574c15816e94242b3d39cd269d44b099d231be544af2e2f92974237c1a8141", func := "concordat/concordatlaw09.ValueNodes", spec := "valueNodes", unfollowed := true, recurses := true, loops := true, plainKeys := false, apart := false }
def ValueNodesSaid : Prop := valueNodesRow.holds Try.pinned (OpenSpec.ofChange valueNodesSpec)

/-- ITS FALSE NEIGHBOUR: 'it returns false'. Refute it at one input. -/
def valueNodesWrong : ChangeSpec := { name := "valueNodes", fn := fun _ => fun
  | [d1, d2] => { results := [.lit (.bool false)], args := [d1, d2] }
  | _ => none }
def ValueNodesWrongFalsely : Prop := valueNodesRow.holds Try.pinned (OpenSpec.ofChange valueNodesWrong)

/-- 'concordatlaw09.ValueAsserts': WHATEVER THE INPUT: true; the input reads as it did. -/
def valueAssertsSpec : ChangeSpec := { name := "valueAsserts", fn := fun _ => fun
  | [d] => { results := [.lit (.bool true)], args := [d] }
  | _ => none }
def valueAssertsRow : OpenClaim := { program := "ytgedelgdjcnogaa", sum := "72574c15816e94242b3d39cd269d44b099d231be544af2e2f92974237c1a8141", func := "concordat/concordatlaw09.ValueAsserts", spec := "valueAsserts", unfollowed := true, recurses := true, loops := true, plainKeys := false, apart := false }
def ValueAssertsSaid : Prop := valueAssertsRow.holds Try.pinned (OpenSpec.ofChange valueAssertsSpec)

/-- ITS FALSE NEIGHBOUR: 'it returns false'. Refute it at one input. -/
def valueAssertsWrong : ChangeSpec := { name := "valueAsserts", fn := fun _ => fun
  | [d] => { results := [.lit (.bool false)], args := [d] }
  | _ => none }
def ValueAssertsWrongFalsely : Prop := valueAssertsRow.holds Try.pinned (OpenSpec.ofChange valueAssertsWrong)

/-- 'concordatlaw09.ValueApart': WHATEVER THE INPUT: true; the input reads as it did. -/
def valueApartSpec : ChangeSpec := { name := "valueApart", fn := fun _ => fun
  | [d] => { results := [.lit (.bool true)], args := [d] }
  | _ => none }
def valueApartRow : OpenClaim := { program := "ytgedelgdjcnogaa", sum := "72574c15816e94242b3d39cd269d44b099d231be544af2e2f92974237c1a8141", func := "concordat/concordatlaw09.ValueApart", spec := "valueApart", unfollowed := true, recurses := true, loops := true, plainKeys := false, apart := false }
def ValueApartSaid : Prop := valueApartRow.holds Try.pinned (OpenSpec.ofChange valueApartSpec)

/-- ITS FALSE NEIGHBOUR: 'it returns false'. Refute it at one input. -/
def valueApartWrong : ChangeSpec := { name := "valueApart", fn := fun _ => fun
  | [d] => { results := [.lit (.bool false)], args := [d] }
  | _ => none }
def ValueApartWrongFalsely : Prop := valueApartRow.holds Try.pinned (OpenSpec.ofChange valueApartWrong)

/-- 'concordatlaw09.ValueDepths': WHATEVER THE INPUT: true; the input reads as it did. -/
def valueDepthsSpec : ChangeSpec := { name := "valueDepths", fn := fun _ => fun
  | [d] => { results := [.lit (.bool true)], args := [d] }
  | _ => none }
def valueDepthsRow : OpenClaim := { program := "ytgedelgdjcnogaa", sum := "72574c15816e94242b3d39cd269d44b099d231be544af2e2f92974237c1a8141", func := "concordat/concordatlaw09.ValueDepths", spec := "valueDepths", unfollowed := true, recurses := true, plainKeys := false, apart := false }
def ValueDepthsSaid : Prop := valueDepthsRow.holds Try.pinned (OpenSpec.ofChange valueDepthsSpec)

/-- ITS FALSE NEIGHBOUR: 'it returns false'. Refute it at one input. -/
def valueDepthsWrong : ChangeSpec := { name := "valueDepths", fn := fun _ => fun
  | [d] => { results := [.lit (.bool false)], args := [d] }
  | _ => none }
def ValueDepthsWrongFalsely : Prop := valueDepthsRow.holds Try.pinned (OpenSpec.ofChange valueDepthsWrong)

/- THE SECOND FORM. 'bulk': how many values and letters a reading holds, each counted each time it is reached (what is shared counts as often as it is met; a slice's spare places count too). A statement '..UptoSaid' is the law's where the arguments, and the package variables that the reading takes, are together of bulk at most 1048576: NARROWER than '..Said'. Prove '..Said' where nothing that the law and all that it calls make is longer than what came in: it says more and counts as full. Else prove '..UptoSaid'. A law counts once. -/
mutual
def uptoBulk {H : Type} : DataW H → Nat
  | .lit (.string bytes) => bytes.length + 1
  | .lit _ => 1
  | .nil => 1
  | .ptr d => uptoBulk d + 1
  | .slice elems spare => uptoBulkAll elems + uptoBulkAll spare + 1
  | .agg parts => uptoBulkAll parts + 1
  | .iface _ d => uptoBulk d + 1
  | .map entries => uptoBulkEntries entries + 1
  | .held _ => 1
def uptoBulkAll {H : Type} : List (DataW H) → Nat
  | [] => 0
  | d :: r => uptoBulk d + uptoBulkAll r
def uptoBulkEntries {H : Type} : List (Lit × DataW H) → Nat
  | [] => 0
  | x :: r => uptoBulkEntry x + uptoBulkEntries r
def uptoBulkEntry {H : Type} : Lit × DataW H → Nat
  | (.string bytes, d) => bytes.length + uptoBulk d + 1
  | (_, d) => uptoBulk d + 1
 end
def uptoSmall : (H : Type) → List (DataW H) → Bool := fun _ ds => decide (uptoBulkAll ds ≤ 1048576)
def OpenSpec.upto (s : _root_.Go.ChangeSpec) : _root_.Go.OpenSpec := { _root_.Go.OpenSpec.ofChange s with cond := some uptoSmall }

/-- 'concordatlaw09.ValueChecks', WHERE WHAT IT READS IS OF BULK AT MOST 1048576: true; the input reads as it did. -/
def valueChecksUptoRow : OpenClaim := { program := "ytgedelgdjcnogaa", sum := "72574c15816e94242b3d39cd269d44b099d231be544af2e2f92974237c1a8141", func := "concordat/concordatlaw09.ValueChecks", spec := "valueChecks", unfollowed := true, recurses := true, loops := true, plainKeys := false, apart := false, narrowed := true }
def ValueChecksUptoSaid : Prop := valueChecksUptoRow.holds Try.pinned (OpenSpec.upto valueChecksSpec)

/-- 'concordatlaw09.ValueBack', WHERE WHAT IT READS IS OF BULK AT MOST 1048576: true; the input reads as it did. -/
def valueBackUptoRow : OpenClaim := { program := "ytgedelgdjcnogaa", sum := "72574c15816e94242b3d39cd269d44b099d231be544af2e2f92974237c1a8141", func := "concordat/concordatlaw09.ValueBack", spec := "valueBack", unfollowed := true, recurses := true, loops := true, plainKeys := false, apart := false, narrowed := true }
def ValueBackUptoSaid : Prop := valueBackUptoRow.holds Try.pinned (OpenSpec.upto valueBackSpec)

/-- 'concordatlaw09.ValueNodes', WHERE WHAT IT READS IS OF BULK AT MOST 1048576: true; the input reads as it did. -/
def valueNodesUptoRow : OpenClaim := { program := "ytgedelgdjcnogaa", sum := "72574c15816e94242b3d39cd269d44b099d231be544af2e2f92974237c1a8141", func := "concordat/concordatlaw09.ValueNodes", spec := "valueNodes", unfollowed := true, recurses := true, loops := true, plainKeys := false, apart := false, narrowed := true }
def ValueNodesUptoSaid : Prop := valueNodesUptoRow.holds Try.pinned (OpenSpec.upto valueNodesSpec)

/-- 'concordatlaw09.ValueAsserts', WHERE WHAT IT READS IS OF BULK AT MOST 1048576: true; the input reads as it did. -/
def valueAssertsUptoRow : OpenClaim := { program := "ytgedelgdjcnogaa", sum := "72574c15816e94242b3d39cd269d44b099d231be544af2e2f92974237c1a8141", func := "concordat/concordatlaw09.ValueAsserts", spec := "valueAsserts", unfollowed := true, recurses := true, loops := true, plainKeys := false, apart := false, narrowed := true }
def ValueAssertsUptoSaid : Prop := valueAssertsUptoRow.holds Try.pinned (OpenSpec.upto valueAssertsSpec)

/-- 'concordatlaw09.ValueApart', WHERE WHAT IT READS IS OF BULK AT MOST 1048576: true; the input reads as it did. -/
def valueApartUptoRow : OpenClaim := { program := "ytgedelgdjcnogaa", sum := "72574c15816e94242b3d39cd269d44b099d231be544af2e2f92974237c1a8141", func := "concordat/concordatlaw09.ValueApart", spec := "valueApart", unfollowed := true, recurses := true, loops := true, plainKeys := false, apart := false, narrowed := true }
def ValueApartUptoSaid : Prop := valueApartUptoRow.holds Try.pinned (OpenSpec.upto valueApartSpec)

/-- 'concordatlaw09.ValueDepths', WHERE WHAT IT READS IS OF BULK AT MOST 1048576: true; the input reads as it did. -/
def valueDepthsUptoRow : OpenClaim := { program := "ytgedelgdjcnogaa", sum := "72574c15816e94242b3d39cd269d44b099d231be544af2e2f92974237c1a8141", func := "concordat/concordatlaw09.ValueDepths", spec := "valueDepths", unfollowed := true, recurses := true, plainKeys := false, apart := false, narrowed := true }
def ValueDepthsUptoSaid : Prop := valueDepthsUptoRow.holds Try.pinned (OpenSpec.upto valueDepthsSpec)

end Rows
end Go.Proofs.Ytgedelgdjcnogaa
