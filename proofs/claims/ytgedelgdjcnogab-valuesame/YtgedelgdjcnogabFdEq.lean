/- Whether two fields are the same, as a statement of the program asks it. -/
import Derived.Test.YtgedelgdjcnogabFdMath
import Derived.Laws.StructEq
import Derived.BigQuiet
namespace Go.Proofs.Ytgedelgdjcnogab
open Go.ChangeShapes Go.WideShapes Go.ChangeAt Go.RowKit
set_option linter.unusedVariables false
set_option linter.unusedSimpArgs false
set_option maxRecDepth 20000

theorem toList_ext {a b : ByteArray} (h : a.toList = b.toList) : a = b := by
  rw [ByteArray.toList_eq, ByteArray.toList_eq] at h
  obtain ⟨⟨l⟩⟩ := a
  obtain ⟨⟨m⟩⟩ := b
  simp at h
  rw [h]
theorem fd_neq (t1 t2 t3 s1 s2 s3 : Int) (t4 s4 : ByteArray) (h : Fd.mk t1 t2 t3 t4 ≠ Fd.mk s1 s2 s3 s4) (W : World) :
    (binOp .neq 36 (.agg #[.int .i64 t1, .int .i64 t2, .int .i64 t3, .string t4]) (.agg #[.int .i64 s1, .int .i64 s2, .int .i64 s3, .string s4])).run Try.prog W = .ok (.bool true) W := by
  by_cases h1 : t1 = s1
  · by_cases h2 : t2 = s2
    · by_cases h3 : t3 = s3
      · by_cases h4 : t4.toList = s4.toList
        · exact absurd (by rw [h1, h2, h3, toList_ext h4]) h
        · subst h1 h2 h3
          simp [go_sem, h4]
      · subst h1 h2
        simp [go_sem, h3]
    · subst h1
      simp [go_sem, h2]
  · simp [go_sem, h1]
theorem fd_eql (t1 t2 t3 s1 s2 s3 : Int) (t4 s4 : ByteArray) (h : Fd.mk t1 t2 t3 t4 ≠ Fd.mk s1 s2 s3 s4) (W : World) :
    (binOp .eql 36 (.agg #[.int .i64 t1, .int .i64 t2, .int .i64 t3, .string t4]) (.agg #[.int .i64 s1, .int .i64 s2, .int .i64 s3, .string s4])).run Try.prog W = .ok (.bool false) W := by
  by_cases h1 : t1 = s1
  · by_cases h2 : t2 = s2
    · by_cases h3 : t3 = s3
      · by_cases h4 : t4.toList = s4.toList
        · exact absurd (by rw [h1, h2, h3, toList_ext h4]) h
        · subst h1 h2 h3
          simp [go_sem, h4]
      · subst h1 h2
        simp [go_sem, h3]
    · subst h1
      simp [go_sem, h2]
  · simp [go_sem, h1]
end Go.Proofs.Ytgedelgdjcnogab
