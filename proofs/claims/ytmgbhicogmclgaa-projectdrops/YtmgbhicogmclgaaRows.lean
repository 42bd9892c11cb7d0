/-
  NARROWER THAN 'FOR EVERY INPUT', by the rows' own cells (each row's printed sentence says how): ProjectFits: loops.
  DERIVED. THE GIVEN ROWS OF THIS SEAT. 4 by the template 'for every input the law returns true; each argument reads behind the call as it read before'; 0 by the template 'total and deterministic' (their statements: YtmgbhicogmclgaaTotals.lean).
  GIVEN WITH THE SEED: the statements are not yours to turn. If you find one false, say at which input.
  Laid BY PROGRAM, IN A SANDBOX (cutbox-rows.mjs): the forced cells as the released guide's own fill.sh prints them over the translation 332352173eba881b… (all of the seat's roots in one cut). By AI agents, Wed Nov 11 2026. No macro, syntax, notation, axiom, sorry.
-/
import Derived.Test.YtmgbhicogmclgaaChecked
import GoSem.Claim
import GoSem.ClaimJoined
import GoSem.ClaimMapViews
import Derived.JoinedTies
import Derived.KernelRfl
namespace Go.Proofs.Ytmgbhicogmclgaa
/- THE CELL 'sum', in the pinned program and in every row, IS THE sha256 OF THE DUMP (.gsa) THAT YtmgbhicogmclgaaProg.lean LOADS. Nothing in Lean hashes anything: it is a label: what it is worth is what the hold of that sum in a sandbox is worth. -/
noncomputable def Try.pinned : Pinned := { name := "ytmgbhicogmclgaa", sum := "332352173eba881bf7a7665adaf6b2871dc7292aeed0067bf5b1691fef4b0622", checked := Try.checked }
namespace Rows
def none {H : Type} : Left H := { results := [], args := [] }

/-- 'concordatlaw13.ProjectFits': WHATEVER THE INPUT: true; the input reads as it did. -/
def projectFitsSpec : ChangeSpec := { name := "projectFits", fn := fun _ => fun
  | [d1, d2, d3] => { results := [.lit (.bool true)], args := [d1, d2, d3] }
  | _ => none }
def projectFitsRow : OpenClaim := { program := "ytmgbhicogmclgaa", sum := "332352173eba881bf7a7665adaf6b2871dc7292aeed0067bf5b1691fef4b0622", func := "concordat/concordatlaw13.ProjectFits", spec := "projectFits", unfollowed := true, recurses := true, loops := true, plainKeys := false, apart := false }
def ProjectFitsSaid : Prop := projectFitsRow.holds Try.pinned (OpenSpec.ofChange projectFitsSpec)

/-- ITS FALSE NEIGHBOUR: 'it returns false'. Refute it at one input. -/
def projectFitsWrong : ChangeSpec := { name := "projectFits", fn := fun _ => fun
  | [d1, d2, d3] => { results := [.lit (.bool false)], args := [d1, d2, d3] }
  | _ => none }
def ProjectFitsWrongFalsely : Prop := projectFitsRow.holds Try.pinned (OpenSpec.ofChange projectFitsWrong)

/-- 'concordatlaw13.ProjectKeeps': WHATEVER THE INPUT: true; the input reads as it did. -/
def projectKeepsSpec : ChangeSpec := { name := "projectKeeps", fn := fun _ => fun
  | [d1, d2, d3] => { results := [.lit (.bool true)], args := [d1, d2, d3] }
  | _ => none }
def projectKeepsRow : OpenClaim := { program := "ytmgbhicogmclgaa", sum := "332352173eba881bf7a7665adaf6b2871dc7292aeed0067bf5b1691fef4b0622", func := "concordat/concordatlaw13.ProjectKeeps", spec := "projectKeeps", unfollowed := true, recurses := true, plainKeys := false, apart := false }
def ProjectKeepsSaid : Prop := projectKeepsRow.holds Try.pinned (OpenSpec.ofChange projectKeepsSpec)

/-- ITS FALSE NEIGHBOUR: 'it returns false'. Refute it at one input. -/
def projectKeepsWrong : ChangeSpec := { name := "projectKeeps", fn := fun _ => fun
  | [d1, d2, d3] => { results := [.lit (.bool false)], args := [d1, d2, d3] }
  | _ => none }
def ProjectKeepsWrongFalsely : Prop := projectKeepsRow.holds Try.pinned (OpenSpec.ofChange projectKeepsWrong)

/-- 'concordatlaw13.ProjectDrops': WHATEVER THE INPUT: true; the input reads as it did. -/
def projectDropsSpec : ChangeSpec := { name := "projectDrops", fn := fun _ => fun
  | [d1, d2, d3, d4] => { results := [.lit (.bool true)], args := [d1, d2, d3, d4] }
  | _ => none }
def projectDropsRow : OpenClaim := { program := "ytmgbhicogmclgaa", sum := "332352173eba881bf7a7665adaf6b2871dc7292aeed0067bf5b1691fef4b0622", func := "concordat/concordatlaw13.ProjectDrops", spec := "projectDrops", unfollowed := true, recurses := true, plainKeys := false, apart := false }
def ProjectDropsSaid : Prop := projectDropsRow.holds Try.pinned (OpenSpec.ofChange projectDropsSpec)

/-- ITS FALSE NEIGHBOUR: 'it returns false'. Refute it at one input. -/
def projectDropsWrong : ChangeSpec := { name := "projectDrops", fn := fun _ => fun
  | [d1, d2, d3, d4] => { results := [.lit (.bool false)], args := [d1, d2, d3, d4] }
  | _ => none }
def ProjectDropsWrongFalsely : Prop := projectDropsRow.holds Try.pinned (OpenSpec.ofChange projectDropsWrong)

/-- 'concordatlaw13.ProjectClamps': WHATEVER THE INPUT: true; the input reads as it did. -/
def projectClampsSpec : ChangeSpec := { name := "projectClamps", fn := fun _ => fun
  | [d1, d2] => { results := [.lit (.bool true)], args := [d1, d2] }
  | _ => none }
def projectClampsRow : OpenClaim := { program := "ytmgbhicogmclgaa", sum := "332352173eba881bf7a7665adaf6b2871dc7292aeed0067bf5b1691fef4b0622", func := "concordat/concordatlaw13.ProjectClamps", spec := "projectClamps", plainKeys := false, apart := false }
def ProjectClampsSaid : Prop := projectClampsRow.holds Try.pinned (OpenSpec.ofChange projectClampsSpec)

/-- ITS FALSE NEIGHBOUR: 'it returns false'. Refute it at one input. -/
def projectClampsWrong : ChangeSpec := { name := "projectClamps", fn := fun _ => fun
  | [d1, d2] => { results := [.lit (.bool false)], args := [d1, d2] }
  | _ => none }
def ProjectClampsWrongFalsely : Prop := projectClampsRow.holds Try.pinned (OpenSpec.ofChange projectClampsWrong)

/- THE SECOND FORM. 'bulk': how many values and letters a reading holds, each counted each time it is reached (what is shared counts as often as it is met; a slice's spare places count too). A statement '..UptoSaid' is the law's where the arguments, and the package variables that the reading takes, are together of bulk at most 1048576: NARROWER than '..Said'. Prove '..Said' where nothing that the law and all that it calls make is longer than what came in: it says more and counts as full. Else prove '..UptoSaid'. A law counts once. -/
mutual
def uptoBulk {H : Type} : DataW H → Nat
  | .lit (.string bytes) => bytes.length + 1
  | .lit _ => 1
  | .nil => 1
  | .ptr d => uptoBulk d + 1
  | .slice elems spare => uptoBulkAll elems + uptoBulkAll spare + 1
  | .agg parts => uptoBulkAll parts + 1
  | .iface _ d => uptoBulk d + 1
  | .map entries => uptoBulkEntries entries + 1
  | .held _ => 1
def uptoBulkAll {H : Type} : List (DataW H) → Nat
  | [] => 0
  | d :: r => uptoBulk d + uptoBulkAll r
def uptoBulkEntries {H : Type} : List (Lit × DataW H) → Nat
  | [] => 0
  | x :: r => uptoBulkEntry x + uptoBulkEntries r
def uptoBulkEntry {H : Type} : Lit × DataW H → Nat
  | (.string bytes, d) => bytes.length + uptoBulk d + 1
  | (_, d) => uptoBulk d + 1
 end
def uptoSmall : (H : Type) → List (DataW H) → Bool := fun _ ds => decide (uptoBulkAll ds ≤ 1048576)
def OpenSpec.upto (s : _root_.Go.ChangeSpec) : _root_.Go.OpenSpec := { _root_.Go.OpenSpec.ofChange s with cond := some uptoSmall }

/-- 'concordatlaw13.ProjectFits', WHERE WHAT IT READS IS OF BULK AT MOST 1048576: true; the input reads as it did. -/
def projectFitsUptoRow : OpenClaim := { program := "ytmgbhicogmclgaa", sum := "332352173eba881bf7a7665adaf6b2871dc7292aeed0067bf5b1691fef4b0622", func := "concordat/concordatlaw13.ProjectFits", spec := "projectFits", unfollowed := true, recurses := true, loops := true, plainKeys := false, apart := false, narrowed := true }
def ProjectFitsUptoSaid : Prop := projectFitsUptoRow.holds Try.pinned (OpenSpec.upto projectFitsSpec)

/-- 'concordatlaw13.ProjectKeeps', WHERE WHAT IT READS IS OF BULK AT MOST 1048576: true; the input reads as it did. -/
def projectKeepsUptoRow : OpenClaim := { program := "ytmgbhicogmclgaa", sum := "332352173eba881bf7a7665adaf6b2871dc7292aeed0067bf5b1691fef4b0622", func := "concordat/concordatlaw13.ProjectKeeps", spec := "projectKeeps", unfollowed := true, recurses := true, plainKeys := false, apart := false, narrowed := true }
def ProjectKeepsUptoSaid : Prop := projectKeepsUptoRow.holds Try.pinned (OpenSpec.upto projectKeepsSpec)

/-- 'concordatlaw13.ProjectDrops', WHERE WHAT IT READS IS OF BULK AT MOST 1048576: true; the input reads as it did. -/
def projectDropsUptoRow : OpenClaim := { program := "ytmgbhicogmclgaa", sum := "332352173eba881bf7a7665adaf6b2871dc7292aeed0067bf5b1691fef4b0622", func := "concordat/concordatlaw13.ProjectDrops", spec := "projectDrops", unfollowed := true, recurses := true, plainKeys := false, apart := false, narrowed := true }
def ProjectDropsUptoSaid : Prop := projectDropsUptoRow.holds Try.pinned (OpenSpec.upto projectDropsSpec)

/-- 'concordatlaw13.ProjectClamps', WHERE WHAT IT READS IS OF BULK AT MOST 1048576: true; the input reads as it did. -/
def projectClampsUptoRow : OpenClaim := { program := "ytmgbhicogmclgaa", sum := "332352173eba881bf7a7665adaf6b2871dc7292aeed0067bf5b1691fef4b0622", func := "concordat/concordatlaw13.ProjectClamps", spec := "projectClamps", plainKeys := false, apart := false, narrowed := true }
def ProjectClampsUptoSaid : Prop := projectClampsUptoRow.holds Try.pinned (OpenSpec.upto projectClampsSpec)

end Rows
end Go.Proofs.Ytmgbhicogmclgaa
