/- A slice of bytes that came in. -/
import Derived.Test.YtppdaohmddbhdaaVnJoin
namespace Go.Proofs.Ytppdaohmddbhdaa
open Go.ChangeShapes Go.WideShapes Go.ChangeAt Go.RowKit
set_option linter.unusedVariables false
set_option maxRecDepth 20000

/-- What the walk is told of a slice of integers that came in. -/
def IsRow (k : IntKind) (w : World) (a : Option Addr) (len cap : Nat) (zs : List Int) : Prop :=
  (a = none ∧ len = 0 ∧ cap = 0 ∧ zs = []) ∨
  ∃ x, a = some x ∧ len ≤ cap ∧ cap ≤ maxLen ∧ zs.length = cap ∧ (∀ i, i < zs.length → w.cell? (x.add i) = some (.int k (zs.getD i 0))) ∧ ∀ n ∈ zs, (Lit.int k n).wf = true

/-- A slice of bytes that came in holds bytes. -/
theorem row_holds {w : World} {a : Option Addr} {len cap : Nat} {zs : List Int} (h : IsRow .u8 w a len cap zs) (hb : cap * Try.prog.bytesOf 5 ≤ 140737488351232) :
    ∃ ns : List Nat, ns.length = len ∧ Holds w a ns ∧ (∀ n ∈ ns, n < 256) ∧ len ≤ cap ∧ cap ≤ 140737488351232 ∧ (a = none → ns = [] ∧ cap = 0) := by
  rw [show Try.prog.bytesOf 5 = 1 from by kernel_rfl, Nat.mul_one] at hb
  rcases h with ⟨rfl, rfl, rfl, rfl⟩ | ⟨x, rfl, hl, hm, hz, hc, hw⟩
  · exact ⟨[], rfl, Holds.nil, by simp, Nat.le_refl _, by decide, fun _ => ⟨rfl, rfl⟩⟩
  · refine ⟨(zs.take len).map Int.toNat, by simp; omega, ?_, ?_, hl, hb, fun h => by cases h⟩
    · intro b hb j u hu
      obtain rfl : x = b := by simpa using hb
      have hj : j < len := by
        have := (List.getElem?_eq_some_iff.1 hu).1
        simp [byteCells] at this; omega
      have hjz : j < zs.length := by omega
      have hwf := hw (zs[j]) (List.getElem_mem hjz)
      obtain ⟨w1, w2⟩ := bounds_u8 hwf
      rw [hc j hjz]
      simp [byteCells, hj, hjz] at hu
      rw [← hu]
      simp [List.getD_eq_getElem?_getD, List.getElem?_eq_getElem hjz]
      omega
    · intro n hn
      simp only [List.mem_map] at hn
      obtain ⟨z, hz', rfl⟩ := hn
      obtain ⟨w1, w2⟩ := bounds_u8 (hw z (List.mem_of_mem_take hz'))
      omega

end Go.Proofs.Ytppdaohmddbhdaa
