/-
  No cell of these rows narrows 'for every input' (looked for: loops, veiled, ifaces, maps, wideKeys, modest, calm, conditions, laid).
  DERIVED. THE GIVEN ROWS OF THIS SEAT. 6 by the template 'for every input the law returns true; each argument reads behind the call as it read before'; 0 by the template 'total and deterministic' (their statements: YtdkolhfpfimeoaaTotals.lean).
  GIVEN WITH THE SEED: the statements are not yours to turn. If you find one false, say at which input.
  Laid BY PROGRAM, IN A SANDBOX (cutbox-rows.mjs): the forced cells as the released guide's own fill.sh prints them over the translation ad60415dbf770bb7… (all of the seat's roots in one cut). By AI agents, Wed Nov 11 2026. No macro, syntax, notation, axiom, sorry.
-/
import Derived.Test.YtdkolhfpfimeoaaChecked
import GoSem.Claim
import GoSem.ClaimJoined
import GoSem.ClaimMapViews
import Derived.JoinedTies
import Derived.KernelRfl
namespace Go.Proofs.Ytdkolhfpfimeoaa
/- THE CELL 'sum', in the pinned program and in every row, IS THE sha256 OF THE DUMP (.gsa) THAT YtdkolhfpfimeoaaProg.lean LOADS. Nothing in Lean hashes anything: it is a label: what it is worth is what the hold of that sum in a sandbox is worth. -/
noncomputable def Try.pinned : Pinned := { name := "ytdkolhfpfimeoaa", sum := "ad60415dbf770bb74f9ce58948c44f7426b41677760e7c3b78af018dda835597", checked := Try.checked }
namespace Rows
def none {H : Type} : Left H := { results := [], args := [] }

/-- 'concordatlaw14.CompatAll': WHATEVER THE INPUT: true; the input reads as it did. -/
def compatAllSpec : ChangeSpec := { name := "compatAll", fn := fun _ => fun
  | [d1, d2, d3, d4] => { results := [.lit (.bool true)], args := [d1, d2, d3, d4] }
  | _ => none }
def compatAllRow : OpenClaim := { program := "ytdkolhfpfimeoaa", sum := "ad60415dbf770bb74f9ce58948c44f7426b41677760e7c3b78af018dda835597", func := "concordat/concordatlaw14.CompatAll", spec := "compatAll", unfollowed := true, recurses := true, plainKeys := false, apart := false }
def CompatAllSaid : Prop := compatAllRow.holds Try.pinned (OpenSpec.ofChange compatAllSpec)

/-- ITS FALSE NEIGHBOUR: 'it returns false'. Refute it at one input. -/
def compatAllWrong : ChangeSpec := { name := "compatAll", fn := fun _ => fun
  | [d1, d2, d3, d4] => { results := [.lit (.bool false)], args := [d1, d2, d3, d4] }
  | _ => none }
def CompatAllWrongFalsely : Prop := compatAllRow.holds Try.pinned (OpenSpec.ofChange compatAllWrong)

/-- 'concordatlaw14.CompatSelf': WHATEVER THE INPUT: true; the input reads as it did. -/
def compatSelfSpec : ChangeSpec := { name := "compatSelf", fn := fun _ => fun
  | [d] => { results := [.lit (.bool true)], args := [d] }
  | _ => none }
def compatSelfRow : OpenClaim := { program := "ytdkolhfpfimeoaa", sum := "ad60415dbf770bb74f9ce58948c44f7426b41677760e7c3b78af018dda835597", func := "concordat/concordatlaw14.CompatSelf", spec := "compatSelf", unfollowed := true, recurses := true, plainKeys := false, apart := false }
def CompatSelfSaid : Prop := compatSelfRow.holds Try.pinned (OpenSpec.ofChange compatSelfSpec)

/-- ITS FALSE NEIGHBOUR: 'it returns false'. Refute it at one input. -/
def compatSelfWrong : ChangeSpec := { name := "compatSelf", fn := fun _ => fun
  | [d] => { results := [.lit (.bool false)], args := [d] }
  | _ => none }
def CompatSelfWrongFalsely : Prop := compatSelfRow.holds Try.pinned (OpenSpec.ofChange compatSelfWrong)

/-- 'concordatlaw14.CompatChains': WHATEVER THE INPUT: true; the input reads as it did. -/
def compatChainsSpec : ChangeSpec := { name := "compatChains", fn := fun _ => fun
  | [d1, d2, d3] => { results := [.lit (.bool true)], args := [d1, d2, d3] }
  | _ => none }
def compatChainsRow : OpenClaim := { program := "ytdkolhfpfimeoaa", sum := "ad60415dbf770bb74f9ce58948c44f7426b41677760e7c3b78af018dda835597", func := "concordat/concordatlaw14.CompatChains", spec := "compatChains", unfollowed := true, recurses := true, plainKeys := false, apart := false }
def CompatChainsSaid : Prop := compatChainsRow.holds Try.pinned (OpenSpec.ofChange compatChainsSpec)

/-- ITS FALSE NEIGHBOUR: 'it returns false'. Refute it at one input. -/
def compatChainsWrong : ChangeSpec := { name := "compatChains", fn := fun _ => fun
  | [d1, d2, d3] => { results := [.lit (.bool false)], args := [d1, d2, d3] }
  | _ => none }
def CompatChainsWrongFalsely : Prop := compatChainsRow.holds Try.pinned (OpenSpec.ofChange compatChainsWrong)

/-- 'concordatlaw14.CompatGrows': WHATEVER THE INPUT: true; the input reads as it did. -/
def compatGrowsSpec : ChangeSpec := { name := "compatGrows", fn := fun _ => fun
  | [d1, d2, d3, d4] => { results := [.lit (.bool true)], args := [d1, d2, d3, d4] }
  | _ => none }
def compatGrowsRow : OpenClaim := { program := "ytdkolhfpfimeoaa", sum := "ad60415dbf770bb74f9ce58948c44f7426b41677760e7c3b78af018dda835597", func := "concordat/concordatlaw14.CompatGrows", spec := "compatGrows", unfollowed := true, recurses := true, plainKeys := false, apart := false }
def CompatGrowsSaid : Prop := compatGrowsRow.holds Try.pinned (OpenSpec.ofChange compatGrowsSpec)

/-- ITS FALSE NEIGHBOUR: 'it returns false'. Refute it at one input. -/
def compatGrowsWrong : ChangeSpec := { name := "compatGrows", fn := fun _ => fun
  | [d1, d2, d3, d4] => { results := [.lit (.bool false)], args := [d1, d2, d3, d4] }
  | _ => none }
def CompatGrowsWrongFalsely : Prop := compatGrowsRow.holds Try.pinned (OpenSpec.ofChange compatGrowsWrong)

/-- 'concordatlaw14.CompatBreaks': WHATEVER THE INPUT: true; the input reads as it did. -/
def compatBreaksSpec : ChangeSpec := { name := "compatBreaks", fn := fun _ => fun
  | [d1, d2, d3, d4] => { results := [.lit (.bool true)], args := [d1, d2, d3, d4] }
  | _ => none }
def compatBreaksRow : OpenClaim := { program := "ytdkolhfpfimeoaa", sum := "ad60415dbf770bb74f9ce58948c44f7426b41677760e7c3b78af018dda835597", func := "concordat/concordatlaw14.CompatBreaks", spec := "compatBreaks", unfollowed := true, recurses := true, plainKeys := false, apart := false }
def CompatBreaksSaid : Prop := compatBreaksRow.holds Try.pinned (OpenSpec.ofChange compatBreaksSpec)

/-- ITS FALSE NEIGHBOUR: 'it returns false'. Refute it at one input. -/
def compatBreaksWrong : ChangeSpec := { name := "compatBreaks", fn := fun _ => fun
  | [d1, d2, d3, d4] => { results := [.lit (.bool false)], args := [d1, d2, d3, d4] }
  | _ => none }
def CompatBreaksWrongFalsely : Prop := compatBreaksRow.holds Try.pinned (OpenSpec.ofChange compatBreaksWrong)

/-- 'concordatlaw14.CompatTypes': WHATEVER THE INPUT: true; the input reads as it did. -/
def compatTypesSpec : ChangeSpec := { name := "compatTypes", fn := fun _ => fun
  | [] => { results := [.lit (.bool true)], args := [] }
  | _ => none }
def compatTypesRow : OpenClaim := { program := "ytdkolhfpfimeoaa", sum := "ad60415dbf770bb74f9ce58948c44f7426b41677760e7c3b78af018dda835597", func := "concordat/concordatlaw14.CompatTypes", spec := "compatTypes", unfollowed := true, recurses := true, plainKeys := false, apart := false }
def CompatTypesSaid : Prop := compatTypesRow.holds Try.pinned (OpenSpec.ofChange compatTypesSpec)

/-- ITS FALSE NEIGHBOUR: 'it returns false'. Refute it at one input. -/
def compatTypesWrong : ChangeSpec := { name := "compatTypes", fn := fun _ => fun
  | [] => { results := [.lit (.bool false)], args := [] }
  | _ => none }
def CompatTypesWrongFalsely : Prop := compatTypesRow.holds Try.pinned (OpenSpec.ofChange compatTypesWrong)

/- THE SECOND FORM. 'bulk': how many values and letters a reading holds, each counted each time it is reached (what is shared counts as often as it is met; a slice's spare places count too). A statement '..UptoSaid' is the law's where the arguments, and the package variables that the reading takes, are together of bulk at most 1048576: NARROWER than '..Said'. Prove '..Said' where nothing that the law and all that it calls make is longer than what came in: it says more and counts as full. Else prove '..UptoSaid'. A law counts once. -/
mutual
def uptoBulk {H : Type} : DataW H → Nat
  | .lit (.string bytes) => bytes.length + 1
  | .lit _ => 1
  | .nil => 1
  | .ptr d => uptoBulk d + 1
  | .slice elems spare => uptoBulkAll elems + uptoBulkAll spare + 1
  | .agg parts => uptoBulkAll parts + 1
  | .iface _ d => uptoBulk d + 1
  | .map entries => uptoBulkEntries entries + 1
  | .held _ => 1
def uptoBulkAll {H : Type} : List (DataW H) → Nat
  | [] => 0
  | d :: r => uptoBulk d + uptoBulkAll r
def uptoBulkEntries {H : Type} : List (Lit × DataW H) → Nat
  | [] => 0
  | x :: r => uptoBulkEntry x + uptoBulkEntries r
def uptoBulkEntry {H : Type} : Lit × DataW H → Nat
  | (.string bytes, d) => bytes.length + uptoBulk d + 1
  | (_, d) => uptoBulk d + 1
 end
def uptoSmall : (H : Type) → List (DataW H) → Bool := fun _ ds => decide (uptoBulkAll ds ≤ 1048576)
def OpenSpec.upto (s : _root_.Go.ChangeSpec) : _root_.Go.OpenSpec := { _root_.Go.OpenSpec.ofChange s with cond := some uptoSmall }

/-- 'concordatlaw14.CompatAll', WHERE WHAT IT READS IS OF BULK AT MOST 1048576: true; the input reads as it did. -/
def compatAllUptoRow : OpenClaim := { program := "ytdkolhfpfimeoaa", sum := "ad60415dbf770bb74f9ce58948c44f7426b41677760e7c3b78af018dda835597", func := "concordat/concordatlaw14.CompatAll", spec := "compatAll", unfollowed := true, recurses := true, plainKeys := false, apart := false, narrowed := true }
def CompatAllUptoSaid : Prop := compatAllUptoRow.holds Try.pinned (OpenSpec.upto compatAllSpec)

/-- 'concordatlaw14.CompatSelf', WHERE WHAT IT READS IS OF BULK AT MOST 1048576: true; the input reads as it did. -/
def compatSelfUptoRow : OpenClaim := { program := "ytdkolhfpfimeoaa", sum := "ad60415dbf770bb74f9ce58948c44f7426b41677760e7c3b78af018dda835597", func := "concordat/concordatlaw14.CompatSelf", spec := "compatSelf", unfollowed := true, recurses := true, plainKeys := false, apart := false, narrowed := true }
def CompatSelfUptoSaid : Prop := compatSelfUptoRow.holds Try.pinned (OpenSpec.upto compatSelfSpec)

/-- 'concordatlaw14.CompatChains', WHERE WHAT IT READS IS OF BULK AT MOST 1048576: true; the input reads as it did. -/
def compatChainsUptoRow : OpenClaim := { program := "ytdkolhfpfimeoaa", sum := "ad60415dbf770bb74f9ce58948c44f7426b41677760e7c3b78af018dda835597", func := "concordat/concordatlaw14.CompatChains", spec := "compatChains", unfollowed := true, recurses := true, plainKeys := false, apart := false, narrowed := true }
def CompatChainsUptoSaid : Prop := compatChainsUptoRow.holds Try.pinned (OpenSpec.upto compatChainsSpec)

/-- 'concordatlaw14.CompatGrows', WHERE WHAT IT READS IS OF BULK AT MOST 1048576: true; the input reads as it did. -/
def compatGrowsUptoRow : OpenClaim := { program := "ytdkolhfpfimeoaa", sum := "ad60415dbf770bb74f9ce58948c44f7426b41677760e7c3b78af018dda835597", func := "concordat/concordatlaw14.CompatGrows", spec := "compatGrows", unfollowed := true, recurses := true, plainKeys := false, apart := false, narrowed := true }
def CompatGrowsUptoSaid : Prop := compatGrowsUptoRow.holds Try.pinned (OpenSpec.upto compatGrowsSpec)

/-- 'concordatlaw14.CompatBreaks', WHERE WHAT IT READS IS OF BULK AT MOST 1048576: true; the input reads as it did. -/
def compatBreaksUptoRow : OpenClaim := { program := "ytdkolhfpfimeoaa", sum := "ad60415dbf770bb74f9ce58948c44f7426b41677760e7c3b78af018dda835597", func := "concordat/concordatlaw14.CompatBreaks", spec := "compatBreaks", unfollowed := true, recurses := true, plainKeys := false, apart := false, narrowed := true }
def CompatBreaksUptoSaid : Prop := compatBreaksUptoRow.holds Try.pinned (OpenSpec.upto compatBreaksSpec)

/-- 'concordatlaw14.CompatTypes', WHERE WHAT IT READS IS OF BULK AT MOST 1048576: true; the input reads as it did. -/
def compatTypesUptoRow : OpenClaim := { program := "ytdkolhfpfimeoaa", sum := "ad60415dbf770bb74f9ce58948c44f7426b41677760e7c3b78af018dda835597", func := "concordat/concordatlaw14.CompatTypes", spec := "compatTypes", unfollowed := true, recurses := true, plainKeys := false, apart := false, narrowed := true }
def CompatTypesUptoSaid : Prop := compatTypesUptoRow.holds Try.pinned (OpenSpec.upto compatTypesSpec)

end Rows
end Go.Proofs.Ytdkolhfpfimeoaa
