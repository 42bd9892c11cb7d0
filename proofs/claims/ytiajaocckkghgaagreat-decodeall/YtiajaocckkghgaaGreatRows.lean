/-
  NARROWER THAN 'FOR EVERY INPUT', by the rows' own cells (each row's printed sentence says how): DecodeTrees: loops.
  DERIVED. THE GIVEN ROWS OF THIS SEAT. 6 by the template 'for every input the law returns true; each argument reads behind the call as it read before'; 0 by the template 'total and deterministic' (their statements: YtiajaocckkghgaaGreatTotals.lean).
  GIVEN WITH THE SEED: the statements are not yours to turn. If you find one false, say at which input.
  Laid BY PROGRAM, IN A SANDBOX (cutbox-rows.mjs): the forced cells as the released guide's own fill.sh prints them over the translation 4e030fe262008e3e… (all of the seat's roots in one cut). By AI agents, Wed Nov 11 2026. No macro, syntax, notation, axiom, sorry.
-/
import Derived.Test.YtiajaocckkghgaaGreatChecked
import GoSem.Claim
import GoSem.ClaimJoined
import GoSem.ClaimMapViews
import Derived.JoinedTies
import Derived.KernelRfl
namespace Go.Proofs.YtiajaocckkghgaaGreat
/- THE CELL 'sum', in the pinned program and in every row, IS THE sha256 OF THE DUMP (.gsa) THAT YtiajaocckkghgaaGreatProg.lean LOADS. Nothing in Lean hashes anything: it is a label: what it is worth is what the hold of that sum in a sandbox is worth. -/
noncomputable def Tryz.pinned : Pinned := { name := "ytiajaocckkghgaagreat", sum := "4e030fe262008e3eedb8a378ed50682a5a140b445e9e735acce3d11638e02e54", checked := Tryz.checked }
namespace Rows
def none {H : Type} : Left H := { results := [], args := [] }

/-- 'concordatlaw12.DecodeAll': WHATEVER THE INPUT: true; the input reads as it did. -/
def decodeAllSpec : ChangeSpec := { name := "decodeAll", fn := fun _ => fun
  | [d1, d2, d3] => { results := [.lit (.bool true)], args := [d1, d2, d3] }
  | _ => none }
def decodeAllRow : OpenClaim := { program := "ytiajaocckkghgaagreat", sum := "4e030fe262008e3eedb8a378ed50682a5a140b445e9e735acce3d11638e02e54", func := "concordat/concordatlaw12.DecodeAll", spec := "decodeAll", unfollowed := true, recurses := true, plainKeys := false, apart := false }
def DecodeAllSaid : Prop := decodeAllRow.holds Tryz.pinned (OpenSpec.ofChange decodeAllSpec)

/-- ITS FALSE NEIGHBOUR: 'it returns false'. Refute it at one input. -/
def decodeAllWrong : ChangeSpec := { name := "decodeAll", fn := fun _ => fun
  | [d1, d2, d3] => { results := [.lit (.bool false)], args := [d1, d2, d3] }
  | _ => none }
def DecodeAllWrongFalsely : Prop := decodeAllRow.holds Tryz.pinned (OpenSpec.ofChange decodeAllWrong)

/-- 'concordatlaw12.DecodeTrees': WHATEVER THE INPUT: true; the input reads as it did. -/
def decodeTreesSpec : ChangeSpec := { name := "decodeTrees", fn := fun _ => fun
  | [d1, d2, d3] => { results := [.lit (.bool true)], args := [d1, d2, d3] }
  | _ => none }
def decodeTreesRow : OpenClaim := { program := "ytiajaocckkghgaagreat", sum := "4e030fe262008e3eedb8a378ed50682a5a140b445e9e735acce3d11638e02e54", func := "concordat/concordatlaw12.DecodeTrees", spec := "decodeTrees", unfollowed := true, recurses := true, loops := true, plainKeys := false, apart := false }
def DecodeTreesSaid : Prop := decodeTreesRow.holds Tryz.pinned (OpenSpec.ofChange decodeTreesSpec)

/-- ITS FALSE NEIGHBOUR: 'it returns false'. Refute it at one input. -/
def decodeTreesWrong : ChangeSpec := { name := "decodeTrees", fn := fun _ => fun
  | [d1, d2, d3] => { results := [.lit (.bool false)], args := [d1, d2, d3] }
  | _ => none }
def DecodeTreesWrongFalsely : Prop := decodeTreesRow.holds Tryz.pinned (OpenSpec.ofChange decodeTreesWrong)

/-- 'concordatlaw12.DecodeBack': WHATEVER THE INPUT: true; the input reads as it did. -/
def decodeBackSpec : ChangeSpec := { name := "decodeBack", fn := fun _ => fun
  | [d1, d2, d3] => { results := [.lit (.bool true)], args := [d1, d2, d3] }
  | _ => none }
def decodeBackRow : OpenClaim := { program := "ytiajaocckkghgaagreat", sum := "4e030fe262008e3eedb8a378ed50682a5a140b445e9e735acce3d11638e02e54", func := "concordat/concordatlaw12.DecodeBack", spec := "decodeBack", unfollowed := true, recurses := true, plainKeys := false, apart := false }
def DecodeBackSaid : Prop := decodeBackRow.holds Tryz.pinned (OpenSpec.ofChange decodeBackSpec)

/-- ITS FALSE NEIGHBOUR: 'it returns false'. Refute it at one input. -/
def decodeBackWrong : ChangeSpec := { name := "decodeBack", fn := fun _ => fun
  | [d1, d2, d3] => { results := [.lit (.bool false)], args := [d1, d2, d3] }
  | _ => none }
def DecodeBackWrongFalsely : Prop := decodeBackRow.holds Tryz.pinned (OpenSpec.ofChange decodeBackWrong)

/-- 'concordatlaw12.DecodeAgain': WHATEVER THE INPUT: true; the input reads as it did. -/
def decodeAgainSpec : ChangeSpec := { name := "decodeAgain", fn := fun _ => fun
  | [d1, d2, d3] => { results := [.lit (.bool true)], args := [d1, d2, d3] }
  | _ => none }
def decodeAgainRow : OpenClaim := { program := "ytiajaocckkghgaagreat", sum := "4e030fe262008e3eedb8a378ed50682a5a140b445e9e735acce3d11638e02e54", func := "concordat/concordatlaw12.DecodeAgain", spec := "decodeAgain", unfollowed := true, recurses := true, plainKeys := false, apart := false }
def DecodeAgainSaid : Prop := decodeAgainRow.holds Tryz.pinned (OpenSpec.ofChange decodeAgainSpec)

/-- ITS FALSE NEIGHBOUR: 'it returns false'. Refute it at one input. -/
def decodeAgainWrong : ChangeSpec := { name := "decodeAgain", fn := fun _ => fun
  | [d1, d2, d3] => { results := [.lit (.bool false)], args := [d1, d2, d3] }
  | _ => none }
def DecodeAgainWrongFalsely : Prop := decodeAgainRow.holds Tryz.pinned (OpenSpec.ofChange decodeAgainWrong)

/-- 'concordatlaw12.DecodeLast': WHATEVER THE INPUT: true; the input reads as it did. -/
def decodeLastSpec : ChangeSpec := { name := "decodeLast", fn := fun _ => fun
  | [d1, d2, d3, d4] => { results := [.lit (.bool true)], args := [d1, d2, d3, d4] }
  | _ => none }
def decodeLastRow : OpenClaim := { program := "ytiajaocckkghgaagreat", sum := "4e030fe262008e3eedb8a378ed50682a5a140b445e9e735acce3d11638e02e54", func := "concordat/concordatlaw12.DecodeLast", spec := "decodeLast", unfollowed := true, recurses := true, plainKeys := false, apart := false }
def DecodeLastSaid : Prop := decodeLastRow.holds Tryz.pinned (OpenSpec.ofChange decodeLastSpec)

/-- ITS FALSE NEIGHBOUR: 'it returns false'. Refute it at one input. -/
def decodeLastWrong : ChangeSpec := { name := "decodeLast", fn := fun _ => fun
  | [d1, d2, d3, d4] => { results := [.lit (.bool false)], args := [d1, d2, d3, d4] }
  | _ => none }
def DecodeLastWrongFalsely : Prop := decodeLastRow.holds Tryz.pinned (OpenSpec.ofChange decodeLastWrong)

/-- 'concordatlaw12.DecodeUnknown': WHATEVER THE INPUT: true; the input reads as it did. -/
def decodeUnknownSpec : ChangeSpec := { name := "decodeUnknown", fn := fun _ => fun
  | [d] => { results := [.lit (.bool true)], args := [d] }
  | _ => none }
def decodeUnknownRow : OpenClaim := { program := "ytiajaocckkghgaagreat", sum := "4e030fe262008e3eedb8a378ed50682a5a140b445e9e735acce3d11638e02e54", func := "concordat/concordatlaw12.DecodeUnknown", spec := "decodeUnknown", unfollowed := true, recurses := true, plainKeys := false, apart := false }
def DecodeUnknownSaid : Prop := decodeUnknownRow.holds Tryz.pinned (OpenSpec.ofChange decodeUnknownSpec)

/-- ITS FALSE NEIGHBOUR: 'it returns false'. Refute it at one input. -/
def decodeUnknownWrong : ChangeSpec := { name := "decodeUnknown", fn := fun _ => fun
  | [d] => { results := [.lit (.bool false)], args := [d] }
  | _ => none }
def DecodeUnknownWrongFalsely : Prop := decodeUnknownRow.holds Tryz.pinned (OpenSpec.ofChange decodeUnknownWrong)

/- THE SECOND FORM. 'bulk': how many values and letters a reading holds, each counted each time it is reached (what is shared counts as often as it is met; a slice's spare places count too). A statement '..UptoSaid' is the law's where the arguments, and the package variables that the reading takes, are together of bulk at most 1048576: NARROWER than '..Said'. Prove '..Said' where nothing that the law and all that it calls make is longer than what came in: it says more and counts as full. Else prove '..UptoSaid'. A law counts once. -/
mutual
def uptoBulk {H : Type} : DataW H → Nat
  | .lit (.string bytes) => bytes.length + 1
  | .lit _ => 1
  | .nil => 1
  | .ptr d => uptoBulk d + 1
  | .slice elems spare => uptoBulkAll elems + uptoBulkAll spare + 1
  | .agg parts => uptoBulkAll parts + 1
  | .iface _ d => uptoBulk d + 1
  | .map entries => uptoBulkEntries entries + 1
  | .held _ => 1
def uptoBulkAll {H : Type} : List (DataW H) → Nat
  | [] => 0
  | d :: r => uptoBulk d + uptoBulkAll r
def uptoBulkEntries {H : Type} : List (Lit × DataW H) → Nat
  | [] => 0
  | x :: r => uptoBulkEntry x + uptoBulkEntries r
def uptoBulkEntry {H : Type} : Lit × DataW H → Nat
  | (.string bytes, d) => bytes.length + uptoBulk d + 1
  | (_, d) => uptoBulk d + 1
 end
def uptoSmall : (H : Type) → List (DataW H) → Bool := fun _ ds => decide (uptoBulkAll ds ≤ 1048576)
def OpenSpec.upto (s : _root_.Go.ChangeSpec) : _root_.Go.OpenSpec := { _root_.Go.OpenSpec.ofChange s with cond := some uptoSmall }

/-- 'concordatlaw12.DecodeAll', WHERE WHAT IT READS IS OF BULK AT MOST 1048576: true; the input reads as it did. -/
def decodeAllUptoRow : OpenClaim := { program := "ytiajaocckkghgaagreat", sum := "4e030fe262008e3eedb8a378ed50682a5a140b445e9e735acce3d11638e02e54", func := "concordat/concordatlaw12.DecodeAll", spec := "decodeAll", unfollowed := true, recurses := true, plainKeys := false, apart := false, narrowed := true }
def DecodeAllUptoSaid : Prop := decodeAllUptoRow.holds Tryz.pinned (OpenSpec.upto decodeAllSpec)

/-- 'concordatlaw12.DecodeTrees', WHERE WHAT IT READS IS OF BULK AT MOST 1048576: true; the input reads as it did. -/
def decodeTreesUptoRow : OpenClaim := { program := "ytiajaocckkghgaagreat", sum := "4e030fe262008e3eedb8a378ed50682a5a140b445e9e735acce3d11638e02e54", func := "concordat/concordatlaw12.DecodeTrees", spec := "decodeTrees", unfollowed := true, recurses := true, loops := true, plainKeys := false, apart := false, narrowed := true }
def DecodeTreesUptoSaid : Prop := decodeTreesUptoRow.holds Tryz.pinned (OpenSpec.upto decodeTreesSpec)

/-- 'concordatlaw12.DecodeBack', WHERE WHAT IT READS IS OF BULK AT MOST 1048576: true; the input reads as it did. -/
def decodeBackUptoRow : OpenClaim := { program := "ytiajaocckkghgaagreat", sum := "4e030fe262008e3eedb8a378ed50682a5a140b445e9e735acce3d11638e02e54", func := "concordat/concordatlaw12.DecodeBack", spec := "decodeBack", unfollowed := true, recurses := true, plainKeys := false, apart := false, narrowed := true }
def DecodeBackUptoSaid : Prop := decodeBackUptoRow.holds Tryz.pinned (OpenSpec.upto decodeBackSpec)

/-- 'concordatlaw12.DecodeAgain', WHERE WHAT IT READS IS OF BULK AT MOST 1048576: true; the input reads as it did. -/
def decodeAgainUptoRow : OpenClaim := { program := "ytiajaocckkghgaagreat", sum := "4e030fe262008e3eedb8a378ed50682a5a140b445e9e735acce3d11638e02e54", func := "concordat/concordatlaw12.DecodeAgain", spec := "decodeAgain", unfollowed := true, recurses := true, plainKeys := false, apart := false, narrowed := true }
def DecodeAgainUptoSaid : Prop := decodeAgainUptoRow.holds Tryz.pinned (OpenSpec.upto decodeAgainSpec)

/-- 'concordatlaw12.DecodeLast', WHERE WHAT IT READS IS OF BULK AT MOST 1048576: true; the input reads as it did. -/
def decodeLastUptoRow : OpenClaim := { program := "ytiajaocckkghgaagreat", sum := "4e030fe262008e3eedb8a378ed50682a5a140b445e9e735acce3d11638e02e54", func := "concordat/concordatlaw12.DecodeLast", spec := "decodeLast", unfollowed := true, recurses := true, plainKeys := false, apart := false, narrowed := true }
def DecodeLastUptoSaid : Prop := decodeLastUptoRow.holds Tryz.pinned (OpenSpec.upto decodeLastSpec)

/-- 'concordatlaw12.DecodeUnknown', WHERE WHAT IT READS IS OF BULK AT MOST 1048576: true; the input reads as it did. -/
def decodeUnknownUptoRow : OpenClaim := { program := "ytiajaocckkghgaagreat", sum := "4e030fe262008e3eedb8a378ed50682a5a140b445e9e735acce3d11638e02e54", func := "concordat/concordatlaw12.DecodeUnknown", spec := "decodeUnknown", unfollowed := true, recurses := true, plainKeys := false, apart := false, narrowed := true }
def DecodeUnknownUptoSaid : Prop := decodeUnknownUptoRow.holds Tryz.pinned (OpenSpec.upto decodeUnknownSpec)

end Rows
end Go.Proofs.YtiajaocckkghgaaGreat
