/-
  NARROWER THAN 'FOR EVERY INPUT', by the rows' own cells (each row's printed sentence says how): ValidAll: loops.
  DERIVED. THE GIVEN ROWS OF THIS SEAT. 4 by the template 'for every input the law returns true; each argument reads behind the call as it read before'; 0 by the template 'total and deterministic' (their statements: YtfnjbbaphmmjlaaGreatTotals.lean).
  GIVEN WITH THE SEED: the statements are not yours to turn. If you find one false, say at which input.
  Laid BY PROGRAM, IN A SANDBOX (cutbox-rows.mjs): the forced cells as the released guide's own fill.sh prints them over the translation 7550facf8309d881… (all of the seat's roots in one cut). By AI agents, Wed Nov 11 2026. No macro, syntax, notation, axiom, sorry.
-/
import Derived.Test.YtfnjbbaphmmjlaaGreatChecked
import GoSem.Claim
import GoSem.ClaimJoined
import GoSem.ClaimMapViews
import Derived.JoinedTies
import Derived.KernelRfl
namespace Go.Proofs.YtfnjbbaphmmjlaaGreat
/- THE CELL 'sum', in the pinned program and in every row, IS THE sha256 OF THE DUMP (.gsa) THAT YtfnjbbaphmmjlaaGreatProg.lean LOADS. Nothing in Lean hashes anything: it is a label: what it is worth is what the hold of that sum in a sandbox is worth. -/
noncomputable def Tryz.pinned : Pinned := { name := "ytfnjbbaphmmjlaagreat", sum := "7550facf8309d88100a0d8c8ed913f10a49649fab6be1257638806209fc08c3f", checked := Tryz.checked }
namespace Rows
def none {H : Type} : Left H := { results := [], args := [] }

/-- 'concordatlaw10.ValidAll': WHATEVER THE INPUT: true; the input reads as it did. -/
def validAllSpec : ChangeSpec := { name := "validAll", fn := fun _ => fun
  | [d1, d2, d3, d4, d5, d6] => { results := [.lit (.bool true)], args := [d1, d2, d3, d4, d5, d6] }
  | _ => none }
def validAllRow : OpenClaim := { program := "ytfnjbbaphmmjlaagreat", sum := "7550facf8309d88100a0d8c8ed913f10a49649fab6be1257638806209fc08c3f", func := "concordat/concordatlaw10.ValidAll", spec := "validAll", unfollowed := true, recurses := true, loops := true, plainKeys := false, apart := false }
def ValidAllSaid : Prop := validAllRow.holds Tryz.pinned (OpenSpec.ofChange validAllSpec)

/-- ITS FALSE NEIGHBOUR: 'it returns false'. Refute it at one input. -/
def validAllWrong : ChangeSpec := { name := "validAll", fn := fun _ => fun
  | [d1, d2, d3, d4, d5, d6] => { results := [.lit (.bool false)], args := [d1, d2, d3, d4, d5, d6] }
  | _ => none }
def ValidAllWrongFalsely : Prop := validAllRow.holds Tryz.pinned (OpenSpec.ofChange validAllWrong)

/-- 'concordatlaw10.ValidFits': WHATEVER THE INPUT: true; the input reads as it did. -/
def validFitsSpec : ChangeSpec := { name := "validFits", fn := fun _ => fun
  | [d1, d2, d3, d4] => { results := [.lit (.bool true)], args := [d1, d2, d3, d4] }
  | _ => none }
def validFitsRow : OpenClaim := { program := "ytfnjbbaphmmjlaagreat", sum := "7550facf8309d88100a0d8c8ed913f10a49649fab6be1257638806209fc08c3f", func := "concordat/concordatlaw10.ValidFits", spec := "validFits", unfollowed := true, recurses := true, plainKeys := false, apart := false }
def ValidFitsSaid : Prop := validFitsRow.holds Tryz.pinned (OpenSpec.ofChange validFitsSpec)

/-- ITS FALSE NEIGHBOUR: 'it returns false'. Refute it at one input. -/
def validFitsWrong : ChangeSpec := { name := "validFits", fn := fun _ => fun
  | [d1, d2, d3, d4] => { results := [.lit (.bool false)], args := [d1, d2, d3, d4] }
  | _ => none }
def ValidFitsWrongFalsely : Prop := validFitsRow.holds Tryz.pinned (OpenSpec.ofChange validFitsWrong)

/-- 'concordatlaw10.ValidGets': WHATEVER THE INPUT: true; the input reads as it did. -/
def validGetsSpec : ChangeSpec := { name := "validGets", fn := fun _ => fun
  | [d1, d2, d3] => { results := [.lit (.bool true)], args := [d1, d2, d3] }
  | _ => none }
def validGetsRow : OpenClaim := { program := "ytfnjbbaphmmjlaagreat", sum := "7550facf8309d88100a0d8c8ed913f10a49649fab6be1257638806209fc08c3f", func := "concordat/concordatlaw10.ValidGets", spec := "validGets", unfollowed := true, recurses := true, plainKeys := false, apart := false }
def ValidGetsSaid : Prop := validGetsRow.holds Tryz.pinned (OpenSpec.ofChange validGetsSpec)

/-- ITS FALSE NEIGHBOUR: 'it returns false'. Refute it at one input. -/
def validGetsWrong : ChangeSpec := { name := "validGets", fn := fun _ => fun
  | [d1, d2, d3] => { results := [.lit (.bool false)], args := [d1, d2, d3] }
  | _ => none }
def ValidGetsWrongFalsely : Prop := validGetsRow.holds Tryz.pinned (OpenSpec.ofChange validGetsWrong)

/-- 'concordatlaw10.ValidOther': WHATEVER THE INPUT: true; the input reads as it did. -/
def validOtherSpec : ChangeSpec := { name := "validOther", fn := fun _ => fun
  | [d1, d2, d3, d4] => { results := [.lit (.bool true)], args := [d1, d2, d3, d4] }
  | _ => none }
def validOtherRow : OpenClaim := { program := "ytfnjbbaphmmjlaagreat", sum := "7550facf8309d88100a0d8c8ed913f10a49649fab6be1257638806209fc08c3f", func := "concordat/concordatlaw10.ValidOther", spec := "validOther", unfollowed := true, recurses := true, plainKeys := false, apart := false }
def ValidOtherSaid : Prop := validOtherRow.holds Tryz.pinned (OpenSpec.ofChange validOtherSpec)

/-- ITS FALSE NEIGHBOUR: 'it returns false'. Refute it at one input. -/
def validOtherWrong : ChangeSpec := { name := "validOther", fn := fun _ => fun
  | [d1, d2, d3, d4] => { results := [.lit (.bool false)], args := [d1, d2, d3, d4] }
  | _ => none }
def ValidOtherWrongFalsely : Prop := validOtherRow.holds Tryz.pinned (OpenSpec.ofChange validOtherWrong)

/- THE SECOND FORM. 'bulk': how many values and letters a reading holds, each counted each time it is reached (what is shared counts as often as it is met; a slice's spare places count too). A statement '..UptoSaid' is the law's where the arguments, and the package variables that the reading takes, are together of bulk at most 1048576: NARROWER than '..Said'. Prove '..Said' where nothing that the law and all that it calls make is longer than what came in: it says more and counts as full. Else prove '..UptoSaid'. A law counts once. -/
mutual
def uptoBulk {H : Type} : DataW H → Nat
  | .lit (.string bytes) => bytes.length + 1
  | .lit _ => 1
  | .nil => 1
  | .ptr d => uptoBulk d + 1
  | .slice elems spare => uptoBulkAll elems + uptoBulkAll spare + 1
  | .agg parts => uptoBulkAll parts + 1
  | .iface _ d => uptoBulk d + 1
  | .map entries => uptoBulkEntries entries + 1
  | .held _ => 1
def uptoBulkAll {H : Type} : List (DataW H) → Nat
  | [] => 0
  | d :: r => uptoBulk d + uptoBulkAll r
def uptoBulkEntries {H : Type} : List (Lit × DataW H) → Nat
  | [] => 0
  | x :: r => uptoBulkEntry x + uptoBulkEntries r
def uptoBulkEntry {H : Type} : Lit × DataW H → Nat
  | (.string bytes, d) => bytes.length + uptoBulk d + 1
  | (_, d) => uptoBulk d + 1
 end
def uptoSmall : (H : Type) → List (DataW H) → Bool := fun _ ds => decide (uptoBulkAll ds ≤ 1048576)
def OpenSpec.upto (s : _root_.Go.ChangeSpec) : _root_.Go.OpenSpec := { _root_.Go.OpenSpec.ofChange s with cond := some uptoSmall }

/-- 'concordatlaw10.ValidAll', WHERE WHAT IT READS IS OF BULK AT MOST 1048576: true; the input reads as it did. -/
def validAllUptoRow : OpenClaim := { program := "ytfnjbbaphmmjlaagreat", sum := "7550facf8309d88100a0d8c8ed913f10a49649fab6be1257638806209fc08c3f", func := "concordat/concordatlaw10.ValidAll", spec := "validAll", unfollowed := true, recurses := true, loops := true, plainKeys := false, apart := false, narrowed := true }
def ValidAllUptoSaid : Prop := validAllUptoRow.holds Tryz.pinned (OpenSpec.upto validAllSpec)

/-- 'concordatlaw10.ValidFits', WHERE WHAT IT READS IS OF BULK AT MOST 1048576: true; the input reads as it did. -/
def validFitsUptoRow : OpenClaim := { program := "ytfnjbbaphmmjlaagreat", sum := "7550facf8309d88100a0d8c8ed913f10a49649fab6be1257638806209fc08c3f", func := "concordat/concordatlaw10.ValidFits", spec := "validFits", unfollowed := true, recurses := true, plainKeys := false, apart := false, narrowed := true }
def ValidFitsUptoSaid : Prop := validFitsUptoRow.holds Tryz.pinned (OpenSpec.upto validFitsSpec)

/-- 'concordatlaw10.ValidGets', WHERE WHAT IT READS IS OF BULK AT MOST 1048576: true; the input reads as it did. -/
def validGetsUptoRow : OpenClaim := { program := "ytfnjbbaphmmjlaagreat", sum := "7550facf8309d88100a0d8c8ed913f10a49649fab6be1257638806209fc08c3f", func := "concordat/concordatlaw10.ValidGets", spec := "validGets", unfollowed := true, recurses := true, plainKeys := false, apart := false, narrowed := true }
def ValidGetsUptoSaid : Prop := validGetsUptoRow.holds Tryz.pinned (OpenSpec.upto validGetsSpec)

/-- 'concordatlaw10.ValidOther', WHERE WHAT IT READS IS OF BULK AT MOST 1048576: true; the input reads as it did. -/
def validOtherUptoRow : OpenClaim := { program := "ytfnjbbaphmmjlaagreat", sum := "7550facf8309d88100a0d8c8ed913f10a49649fab6be1257638806209fc08c3f", func := "concordat/concordatlaw10.ValidOther", spec := "validOther", unfollowed := true, recurses := true, plainKeys := false, apart := false, narrowed := true }
def ValidOtherUptoSaid : Prop := validOtherUptoRow.holds Tryz.pinned (OpenSpec.upto validOtherSpec)

end Rows
end Go.Proofs.YtfnjbbaphmmjlaaGreat
