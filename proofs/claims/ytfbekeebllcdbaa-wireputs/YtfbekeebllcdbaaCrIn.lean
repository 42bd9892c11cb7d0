/- A slice of bytes that came in, in the walks' words. -/
import Derived.Test.YtfbekeebllcdbaaByRow
namespace Go.Proofs.Ytfbekeebllcdbaa
open Go.ChangeShapes Go.WideShapes Go.ChangeAt Go.RowKit
set_option linter.unusedVariables false
set_option maxRecDepth 20000

/-- Bytes that came in: what the walks ask. -/
structure CameIn (w : World) (a : Option Addr) (N cap : Nat) (ns : List Nat) : Prop where
  len : ns.length = N
  holds : Holds w a ns
  lt : ∀ n ∈ ns, n < 256
  le : N ≤ cap
  max : cap ≤ 140737488351232
  nil : a = none → ns = [] ∧ cap = 0
  adr : ns = [] ∨ ∃ g off, a = some ⟨g, off, none⟩
theorem CameIn.below {w w1 : World} {a : Option Addr} {N cap : Nat} {ns : List Nat} (h : CameIn w a N cap ns) (hb : Below w.heap.size w w1) : CameIn w1 a N cap ns :=
  ⟨h.len, h.holds.below hb, h.lt, h.le, h.max, h.nil, h.adr⟩
theorem row_in {w : World} {a : Option Addr} {len cap : Nat} {zs : List Int} (h : IsRow .u8 w a len cap zs) (hb : cap * Try.prog.bytesOf 5 ≤ 140737488351232) : ∃ ns, CameIn w a len cap ns := by
  have hadr : len = 0 ∨ ∃ g off, a = some ⟨g, off, none⟩ := by
    rcases h with ⟨_, h, _⟩ | ⟨y, rfl, hl, hm, hz, hc, hw⟩
    · exact .inl h
    · by_cases h0 : len = 0
      · exact .inl h0
      · obtain ⟨g, off, rfl, _⟩ := ints_at hc (by omega)
        exact .inr ⟨g, off, rfl⟩
  obtain ⟨ns, rfl, hh, hlt, hc, hm, ha'⟩ := row_holds h hb
  exact ⟨ns, rfl, hh, hlt, hc, hm, ha', hadr.imp (fun h => List.eq_nil_of_length_eq_zero h) id⟩
end Go.Proofs.Ytfbekeebllcdbaa
