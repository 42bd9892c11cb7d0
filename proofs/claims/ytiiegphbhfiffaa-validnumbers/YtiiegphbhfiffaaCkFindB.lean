/- What finders answer: zero things, values, results. -/
import Derived.Test.YtiiegphbhfiffaaCkRow
namespace Go.Proofs.Ytiiegphbhfiffaa
open Go.ChangeShapes Go.WideShapes Go.ChangeAt Go.RowKit Go.Maps
set_option linter.unusedVariables false
set_option linter.unusedSimpArgs false
set_option maxRecDepth 20000

def zeroM : MsS := ⟨⟨#[]⟩, [], []⟩
def zeroN : EnS := ⟨⟨#[]⟩, []⟩
def zeroT : MtS := ⟨⟨#[]⟩, ⟨#[]⟩, ⟨#[]⟩⟩
def zeroF : FlS := ⟨⟨#[]⟩, 0, 0, 0, ⟨#[]⟩⟩
def mtV (m : MtS) : Value := .agg #[.string m.name, .string m.inn, .string m.out]
def flV (m : FlS) : Value := .agg #[.string m.name, .int .i64 m.tag, .int .i64 m.label, .int .i64 m.kind, .string m.tname]
theorem ret_two {a b c d : Value} (h1 : a = c) (h2 : b = d) : Ending.returned (.tuple #[a, b]) = .returned (.tuple #[c, d]) := by rw [h1, h2]
theorem results_two {fn : Func} {p u : Tmp} {ty : TypeId} (h : fn.results = #[.cell p ty, .tmp u]) (tmps : Array Value) (P : Program) (w : World) (a : Addr) (x : Value) (ha : (asAddr (tmps.getD p undef)).run P w = .ok a w) (hl : (loadVar ty a).run P w = .ok x w) :
    (results fn tmps).run P w = .ok (.tuple #[x, tmps.getD u undef]) w := by
  simp only [results, h]
  simp only [Array.getD_eq_getD_getElem?] at ha
  simp [Sem.run_bind, Result.andThen, ha, hl]
theorem bytes_ne {a b : ByteArray} (h : ¬ a = b) : (a.toList == b.toList) = false := by
  rw [ByteArray.toList_eq, ByteArray.toList_eq, beq_bytes]; exact decide_eq_false h
theorem bytes_same (a : ByteArray) : (a.toList == a.toList) = true := by simp
end Go.Proofs.Ytiiegphbhfiffaa
