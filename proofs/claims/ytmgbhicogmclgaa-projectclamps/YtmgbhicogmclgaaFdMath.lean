/- Fields on the wire: which may be. -/
import Derived.Test.YtmgbhicogmclgaaRows
import Derived.WalkKit
import Derived.ProofKit
import Derived.OpenShut
import Derived.Below
namespace Go.Proofs.Ytmgbhicogmclgaa
open Go.ChangeShapes Go.WideShapes Go.ChangeAt Go.RowKit
set_option linter.unusedVariables false
set_option linter.unusedSimpArgs false
set_option maxRecDepth 20000

/-- A field on the wire. -/
structure Fd where
  tag : Int
  wire : Int
  n : Int
  b : ByteArray

def Fd.val (r : Fd) : Value := .agg #[.int .i64 r.tag, .int .i64 r.wire, .int .i64 r.n, .string r.b]
def Fd.cells (r : Fd) : List Value := [.int .i64 r.tag, .int .i64 r.wire, .int .i64 r.n, .string r.b]
def fd0 : Fd := ⟨0, 0, 0, ⟨#[]⟩⟩

/-- May it be? -/
def okV (t k n : Int) (b : ByteArray) : Bool := decide (1 ≤ t) && decide (t ≤ 500) && (((k == 0) && b.toList.isEmpty) || ((k == 1) && (n == 0) && decide ((b.size : Int) ≤ 4096)))
def okF (r : Fd) : Bool := okV r.tag r.wire r.n r.b

theorem toList_empty (b : ByteArray) : b.toList.isEmpty = true ↔ b = ⟨#[]⟩ := by
  rw [ByteArray.toList_eq]
  obtain ⟨⟨l⟩⟩ := b
  cases l <;> simp

/-- A number of 64 bits. -/
def Is64 (n : Int) : Prop := -9223372036854775808 ≤ n ∧ n ≤ 9223372036854775807
/-- What a field that may be is. -/
theorem ok_cases {r : Fd} (h : okF r = true) (hn : Is64 r.n) :
    (∃ (t : Nat) (n : Int), r = ⟨t, 0, n, ⟨#[]⟩⟩ ∧ 1 ≤ t ∧ t ≤ 500 ∧ Is64 n) ∨ (∃ (t : Nat) (b : ByteArray), r = ⟨t, 1, 0, b⟩ ∧ 1 ≤ t ∧ t ≤ 500 ∧ b.size ≤ 4096) := by
  obtain ⟨t, k, n, b⟩ := r
  simp only [okF, okV, Bool.and_eq_true, Bool.or_eq_true, decide_eq_true_eq, beq_iff_eq, toList_empty] at h
  obtain ⟨⟨h1, h2⟩, ⟨rfl, rfl⟩ | ⟨⟨rfl, rfl⟩, h5⟩⟩ := h
  · exact .inl ⟨t.toNat, n, by rw [Int.toNat_of_nonneg (by omega)], by omega, by omega, hn⟩
  · exact .inr ⟨t.toNat, b, by rw [Int.toNat_of_nonneg (by omega)], by omega, by omega, by omega⟩

end Go.Proofs.Ytmgbhicogmclgaa
