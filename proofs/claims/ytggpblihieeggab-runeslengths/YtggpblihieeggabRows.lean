/-
  No cell of these rows narrows 'for every input' (looked for: loops, veiled, ifaces, maps, wideKeys, modest, calm, conditions, laid).
  DERIVED. THE GIVEN ROWS OF THIS SEAT. 2 by the template 'for every input the law returns true; each argument reads behind the call as it read before'; 0 by the template 'total and deterministic' (their statements: YtggpblihieeggabTotals.lean).
  GIVEN WITH THE SEED: the statements are not yours to turn. If you find one false, say at which input.
  Laid BY PROGRAM, IN A SANDBOX (cutbox-rows.mjs): the forced cells as the released guide's own fill.sh prints them over the translation 962d1d2e9110cace… (all of the seat's roots in one cut). By AI agents, Wed Nov 11 2026. No macro, syntax, notation, axiom, sorry.
-/
import Derived.Test.YtggpblihieeggabChecked
import GoSem.Claim
import GoSem.ClaimJoined
import GoSem.ClaimMapViews
import Derived.JoinedTies
import Derived.KernelRfl
namespace Go.Proofs.Ytggpblihieeggab
/- THE CELL 'sum', in the pinned program and in every row, IS THE sha256 OF THE DUMP (.gsa) THAT YtggpblihieeggabProg.lean LOADS. Nothing in Lean hashes anything: it is a label: what it is worth is what the hold of that sum in a sandbox is worth. -/
noncomputable def Try.pinned : Pinned := { name := "ytggpblihieeggab", sum := "962d1d2e9110cace0d28b7d2f0e3326d77ea7a8993a395175e1c070c21a677d0", checked := Try.checked }
namespace Rows
def none {H : Type} : Left H := { results := [], args := [] }

/-- 'concordatlaw01.RunesKeys': WHATEVER THE INPUT: true; the input reads as it did. -/
def runesKeysSpec : ChangeSpec := { name := "runesKeys", fn := fun _ => fun
  | [] => { results := [.lit (.bool true)], args := [] }
  | _ => none }
def runesKeysRow : OpenClaim := { program := "ytggpblihieeggab", sum := "962d1d2e9110cace0d28b7d2f0e3326d77ea7a8993a395175e1c070c21a677d0", func := "concordat/concordatlaw01.RunesKeys", spec := "runesKeys", apart := false }
def RunesKeysSaid : Prop := runesKeysRow.holds Try.pinned (OpenSpec.ofChange runesKeysSpec)

/-- ITS FALSE NEIGHBOUR: 'it returns false'. Refute it at one input. -/
def runesKeysWrong : ChangeSpec := { name := "runesKeys", fn := fun _ => fun
  | [] => { results := [.lit (.bool false)], args := [] }
  | _ => none }
def RunesKeysWrongFalsely : Prop := runesKeysRow.holds Try.pinned (OpenSpec.ofChange runesKeysWrong)

/-- 'concordatlaw01.RunesLengths': WHATEVER THE INPUT: true; the input reads as it did. -/
def runesLengthsSpec : ChangeSpec := { name := "runesLengths", fn := fun _ => fun
  | [] => { results := [.lit (.bool true)], args := [] }
  | _ => none }
def runesLengthsRow : OpenClaim := { program := "ytggpblihieeggab", sum := "962d1d2e9110cace0d28b7d2f0e3326d77ea7a8993a395175e1c070c21a677d0", func := "concordat/concordatlaw01.RunesLengths", spec := "runesLengths", apart := false }
def RunesLengthsSaid : Prop := runesLengthsRow.holds Try.pinned (OpenSpec.ofChange runesLengthsSpec)

/-- ITS FALSE NEIGHBOUR: 'it returns false'. Refute it at one input. -/
def runesLengthsWrong : ChangeSpec := { name := "runesLengths", fn := fun _ => fun
  | [] => { results := [.lit (.bool false)], args := [] }
  | _ => none }
def RunesLengthsWrongFalsely : Prop := runesLengthsRow.holds Try.pinned (OpenSpec.ofChange runesLengthsWrong)

/- THE SECOND FORM. 'bulk': how many values and letters a reading holds, each counted each time it is reached (what is shared counts as often as it is met; a slice's spare places count too). A statement '..UptoSaid' is the law's where the arguments, and the package variables that the reading takes, are together of bulk at most 1048576: NARROWER than '..Said'. Prove '..Said' where nothing that the law and all that it calls make is longer than what came in: it says more and counts as full. Else prove '..UptoSaid'. A law counts once. -/
mutual
def uptoBulk {H : Type} : DataW H → Nat
  | .lit (.string bytes) => bytes.length + 1
  | .lit _ => 1
  | .nil => 1
  | .ptr d => uptoBulk d + 1
  | .slice elems spare => uptoBulkAll elems + uptoBulkAll spare + 1
  | .agg parts => uptoBulkAll parts + 1
  | .iface _ d => uptoBulk d + 1
  | .map entries => uptoBulkEntries entries + 1
  | .held _ => 1
def uptoBulkAll {H : Type} : List (DataW H) → Nat
  | [] => 0
  | d :: r => uptoBulk d + uptoBulkAll r
def uptoBulkEntries {H : Type} : List (Lit × DataW H) → Nat
  | [] => 0
  | x :: r => uptoBulkEntry x + uptoBulkEntries r
def uptoBulkEntry {H : Type} : Lit × DataW H → Nat
  | (.string bytes, d) => bytes.length + uptoBulk d + 1
  | (_, d) => uptoBulk d + 1
 end
def uptoSmall : (H : Type) → List (DataW H) → Bool := fun _ ds => decide (uptoBulkAll ds ≤ 1048576)
def OpenSpec.upto (s : _root_.Go.ChangeSpec) : _root_.Go.OpenSpec := { _root_.Go.OpenSpec.ofChange s with cond := some uptoSmall }

/-- 'concordatlaw01.RunesKeys', WHERE WHAT IT READS IS OF BULK AT MOST 1048576: true; the input reads as it did. -/
def runesKeysUptoRow : OpenClaim := { program := "ytggpblihieeggab", sum := "962d1d2e9110cace0d28b7d2f0e3326d77ea7a8993a395175e1c070c21a677d0", func := "concordat/concordatlaw01.RunesKeys", spec := "runesKeys", apart := false, narrowed := true }
def RunesKeysUptoSaid : Prop := runesKeysUptoRow.holds Try.pinned (OpenSpec.upto runesKeysSpec)

/-- 'concordatlaw01.RunesLengths', WHERE WHAT IT READS IS OF BULK AT MOST 1048576: true; the input reads as it did. -/
def runesLengthsUptoRow : OpenClaim := { program := "ytggpblihieeggab", sum := "962d1d2e9110cace0d28b7d2f0e3326d77ea7a8993a395175e1c070c21a677d0", func := "concordat/concordatlaw01.RunesLengths", spec := "runesLengths", apart := false, narrowed := true }
def RunesLengthsUptoSaid : Prop := runesLengthsUptoRow.holds Try.pinned (OpenSpec.upto runesLengthsSpec)

end Rows
end Go.Proofs.Ytggpblihieeggab
