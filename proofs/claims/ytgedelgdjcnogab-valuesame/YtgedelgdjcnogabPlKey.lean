/- Places as a map's keys: a pointer and a number. -/
import Derived.Test.YtgedelgdjcnogabTvRow
import Derived.Test.YtgedelgdjcnogabBlkT
import Derived.LaidEql
import Derived.LaidEqlPtr
import Derived.Laws.StructEq
import Derived.BigQuiet
namespace Go.Proofs.Ytgedelgdjcnogab
open Go.ChangeShapes Go.WideShapes Go.ChangeAt Go.RowKit
set_option linter.unusedVariables false
set_option linter.unusedSimpArgs false
set_option maxRecDepth 20000

/-- A place: the first element's address, and how many there are. -/
abbrev Pl : Type := Option Addr × Nat
def plV (x : Pl) : Value := .agg #[.pointer x.1, .int .i64 (x.2 : Int)]
/-- It lies in a plain block. -/
def PlOk (w : World) (x : Pl) : Prop := ∀ a, x.1 = some a → ∃ cs ty, w.heap[a.block]? = some (.cells cs ty (0, 0))
theorem eql_ptr (w : World) (d : Nat) (p q : Option Addr) (hp : ∀ a, p = some a → ∃ cs ty, w.heap[a.block]? = some (.cells cs ty (0, 0))) (hq : ∀ a, q = some a → ∃ cs ty, w.heap[a.block]? = some (.cells cs ty (0, 0))) :
    (Op.equalIn (d + 1) 30 (.pointer p) (.pointer q)).run Try.prog w = .ok (decide (p = q)) w := by
  have hu : Try.prog.underlying 30 = some (.pointer 33) := by kernel_rfl
  have hi : (Try.prog.info? 33).map (fun i => i.size) = some 2 := by kernel_rfl
  obtain ⟨j, hj, hs⟩ : ∃ j, Try.prog.info? 33 = some j ∧ j.size = 2 := by
    cases h : Try.prog.info? 33 with
    | none => rw [h] at hi; cases hi
    | some j => rw [h] at hi; exact ⟨j, rfl, by simpa using hi⟩
  cases p with
  | none => cases q <;> simp [Op.equalIn, run_underlying hu]
  | some a =>
    cases q with
    | none => simp [Op.equalIn, run_underlying hu]
    | some b =>
      by_cases e : a = b
      · subst e
        simp [Op.equalIn, run_underlying hu, sizeOf, typeInfo, hj, hs, run_sameAddr_same]
      · obtain ⟨ca, ta, ha⟩ := hp a rfl
        obtain ⟨cb, tb, hb⟩ := hq b rfl
        simp [Op.equalIn, run_underlying hu, sizeOf, typeInfo, hj, hs, run_sameAddr_other w e ha hb, e]
theorem eql_pl (w : World) (x y : Pl) (hx : PlOk w x) (hy : PlOk w y) : (Op.equal 64 (plV x) (plV y)).run Try.prog w = .ok (decide (x = y)) w := by
  obtain ⟨p, m⟩ := x
  obtain ⟨q, n⟩ := y
  have h1 := fun d => eql_ptr w d p q hx hy
  by_cases e : p = q
  · subst e
    by_cases e2 : m = n
    · subst e2
      simp [plV, Op.equal, Op.maxDepth, go_sem, h1]
    · have e3 : ¬ (m : Int) = (n : Int) := by omega
      simp [plV, Op.equal, Op.maxDepth, go_sem, h1, e2, e3]
  · simp [plV, Op.equal, Op.maxDepth, go_sem, h1, e]
theorem check_pl (w : World) (b : Bool) (x : Pl) : (Instr.checkKey b 10000 64 (plV x)).run Try.prog w = .ok () w := by kernel_rfl
end Go.Proofs.Ytgedelgdjcnogab
