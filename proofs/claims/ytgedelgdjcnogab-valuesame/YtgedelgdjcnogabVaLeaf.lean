/- value's leaves: a number's, a text's value, what they keep. -/
import Derived.Test.YtgedelgdjcnogabRows
import Derived.WalkKit
import Derived.ProofKit
import Derived.OpenShut
import Derived.ShutString
import Derived.ChangeOld
import Derived.Below
import Derived.OwnWalk
namespace Go.Proofs.Ytgedelgdjcnogab
open Go.ChangeShapes Go.WideShapes Go.ChangeAt Go.RowKit
set_option linter.unusedVariables false
set_option linter.unusedSimpArgs false
set_option maxRecDepth 20000

abbrev vNum (n : Int) : Value := .agg #[.iface 71 (.int .i64 n)]
abbrev vStr (s : ByteArray) : Value := .agg #[.iface 72 (.string s)]
abbrev vNode (p : Addr) : Value := .agg #[.iface 48 (.pointer (some p))]
abbrev vNil : Value := .agg #[.nilIface]

theorem raise_run (u T : TypeId) (W : World) (hT : T = 71 ∨ T = 72 ∨ T = 48) : (runtimePanic (.typeAssertion (some 39) (some u) T "") : Sem Value).run Try.prog W = .halt (.panic (.iface 15 (.pointer (some ⟨W.heap.size, 0, none⟩)))) (W.alloc (.cells #[typeHandle Try.prog 39, typeHandle Try.prog u, typeHandle Try.prog T, strVal ""] 79)) := by
  rcases hT with rfl | rfl | rfl <;> kernel_rfl
theorem dies_of (x : Value) (T : TypeId) (W : World) (hx : x = .nilIface ∨ ∃ u v, x = .iface u v ∧ u ≠ T) (hT : T = 71 ∨ T = 72 ∨ T = 48) : ∃ cs, (Instr.typeAssert x 39 T false).run Try.prog W = .halt (.panic (.iface 15 (.pointer (some ⟨W.heap.size, 0, none⟩)))) (W.alloc (.cells cs 79)) := by
  rcases hx with rfl | ⟨u, v, rfl, hu⟩
  · refine ⟨#[typeHandle Try.prog 39, .pointer none, typeHandle Try.prog T, strVal ""], ?_⟩
    rcases hT with rfl | rfl | rfl <;> kernel_rfl
  · refine ⟨#[typeHandle Try.prog 39, typeHandle Try.prog u, typeHandle Try.prog T, strVal ""], ?_⟩
    have e : (Instr.typeAssert (.iface u v) 39 T false).run Try.prog W = (if u = T then (pure v : Sem Value) else runtimePanic (.typeAssertion (some 39) (some u) T "")).run Try.prog W := by
      rcases hT with rfl | rfl | rfl <;> kernel_rfl
    rw [e, if_neg hu]
    exact raise_run u T W hT
theorem holds_of (v : Value) (T : TypeId) (W : World) (hT : T = 71 ∨ T = 72 ∨ T = 48) : (Instr.typeAssert (.iface T v) 39 T false).run Try.prog W = .ok v W ∧ (Instr.typeAssert (.iface T v) 39 T true).run Try.prog W = .ok (.tuple #[v, .bool true]) W := by
  rcases hT with rfl | rfl | rfl <;> exact ⟨by kernel_rfl, by kernel_rfl⟩
/-- The zero value of what is asserted. -/
def zeroT (T : TypeId) : Value := if T = 71 then .int .i64 0 else if T = 72 then .string ByteArray.empty else .pointer none
theorem zero_run (T : TypeId) (W : World) (hT : T = 71 ∨ T = 72 ∨ T = 48) : (do pure (Value.tuple #[← zeroValue T, .bool false]) : Sem Value).run Try.prog W = .ok (.tuple #[zeroT T, .bool false]) W := by
  rcases hT with rfl | rfl | rfl <;> kernel_rfl
theorem fails_of (x : Value) (T : TypeId) (W : World) (hx : x = .nilIface ∨ ∃ u v, x = .iface u v ∧ u ≠ T) (hT : T = 71 ∨ T = 72 ∨ T = 48) : (Instr.typeAssert x 39 T true).run Try.prog W = .ok (.tuple #[zeroT T, .bool false]) W := by
  rcases hx with rfl | ⟨u, v, rfl, hu⟩
  · rcases hT with rfl | rfl | rfl <;> kernel_rfl
  · have e : (Instr.typeAssert (.iface u v) 39 T true).run Try.prog W = (if u = T then (pure (Value.tuple #[v, .bool true]) : Sem Value) else (do pure (Value.tuple #[← zeroValue T, .bool false]))).run Try.prog W := by
      rcases hT with rfl | rfl | rfl <;> kernel_rfl
    rw [e, if_neg hu]
    exact zero_run T W hT
theorem num_any (n : Int) (w : World) : Calls Try.prog 11 #[.int .i64 n] w fun e w' => e = .returned (vNum n) ∧ Below w.heap.size w w' := by
  go_enter Try.func11, Try.ntmps11
  go_wp2
  exact bodyPost_ret (v := vNum n) (by simp [results, Try.results11, go_sem]) rfl ⟨rfl, (Below.refl _ _).alloc (Nat.le_refl _) _⟩
theorem str_any (s : ByteArray) (w : World) : Calls Try.prog 12 #[.string s] w fun e w' => e = .returned (vStr s) ∧ Below w.heap.size w w' := by
  go_enter Try.func12, Try.ntmps12
  go_wp2
  exact bodyPost_ret (v := vStr s) (by simp [results, Try.results12, go_sem]) rfl ⟨rfl, (Below.refl _ _).alloc (Nat.le_refl _) _⟩
/-- What a value keeps is of the type T, and is v. -/
def keeps (x : Value) (T : TypeId) (v : Value) : Prop := x = .iface T v
/-- It is none of that type. -/
def keepsNot (x : Value) (T : TypeId) : Prop := x = .nilIface ∨ ∃ u v, x = .iface u v ∧ u ≠ T
theorem asNum_yes (v : Value) (w : World) : Calls Try.prog 13 #[.agg #[.iface 71 v]] w fun e w' => e = .returned (.tuple #[v, .bool true]) ∧ Below w.heap.size w w' := by
  have h := fun W => (holds_of v 71 W (.inl rfl)).2
  go_enter Try.func13, Try.ntmps13
  go_wp2
  go_ret2
  exact ⟨rfl, (Below.refl _ _).alloc (Nat.le_refl _) _⟩
theorem asNum_no (x : Value) (w : World) (hx : keepsNot x 71) : Calls Try.prog 13 #[.agg #[x]] w fun e w' => e = .returned (.tuple #[.int .i64 0, .bool false]) ∧ Below w.heap.size w w' := by
  have h : ∀ W, (Instr.typeAssert x 39 71 true).run Try.prog W = .ok (.tuple #[.int .i64 0, .bool false]) W := fun W => fails_of x 71 W hx (.inl rfl)
  clear hx
  go_enter Try.func13, Try.ntmps13
  go_wp2
  go_ret2
  exact ⟨rfl, (Below.refl _ _).alloc (Nat.le_refl _) _⟩
theorem mustNum_yes (v : Value) (w : World) : Calls Try.prog 16 #[.agg #[.iface 71 v]] w fun e w' => e = .returned v ∧ Below w.heap.size w w' := by
  have h := fun W => (holds_of v 71 W (.inl rfl)).1
  go_enter Try.func16, Try.ntmps16
  go_wp2
  go_ret
  exact ⟨rfl, (Below.refl _ _).alloc (Nat.le_refl _) _⟩
theorem mustNum_no (x : Value) (w : World) (hx : keepsNot x 71) : Calls Try.prog 16 #[.agg #[x]] w fun e w' => (∃ p, e = .panicked [{ v := .iface 15 p, recovered := false }]) ∧ Below w.heap.size w w' := by
  have h := fun W => dies_of x 71 W hx (.inl rfl)
  obtain ⟨f, hf⟩ := Classical.axiomOfChoice h
  clear h
  clear hx
  go_enter Try.func16, Try.ntmps16
  go_wp2
  exact ⟨rfl, ⟨_, rfl⟩, ((Below.refl _ _).alloc (Nat.le_refl _) _).alloc (by simp) _⟩
theorem asStr_yes (v : Value) (w : World) : Calls Try.prog 14 #[.agg #[.iface 72 v]] w fun e w' => e = .returned (.tuple #[v, .bool true]) ∧ Below w.heap.size w w' := by
  have h := fun W => (holds_of v 72 W (.inr (.inl rfl))).2
  go_enter Try.func14, Try.ntmps14
  go_wp2
  go_ret2
  exact ⟨rfl, (Below.refl _ _).alloc (Nat.le_refl _) _⟩
theorem asStr_no (x : Value) (w : World) (hx : keepsNot x 72) : Calls Try.prog 14 #[.agg #[x]] w fun e w' => e = .returned (.tuple #[.string ByteArray.empty, .bool false]) ∧ Below w.heap.size w w' := by
  have h : ∀ W, (Instr.typeAssert x 39 72 true).run Try.prog W = .ok (.tuple #[.string ByteArray.empty, .bool false]) W := fun W => fails_of x 72 W hx (.inr (.inl rfl))
  clear hx
  go_enter Try.func14, Try.ntmps14
  go_wp2
  go_ret2
  exact ⟨rfl, (Below.refl _ _).alloc (Nat.le_refl _) _⟩
theorem mustStr_yes (v : Value) (w : World) : Calls Try.prog 17 #[.agg #[.iface 72 v]] w fun e w' => e = .returned v ∧ Below w.heap.size w w' := by
  have h := fun W => (holds_of v 72 W (.inr (.inl rfl))).1
  go_enter Try.func17, Try.ntmps17
  go_wp2
  go_ret
  exact ⟨rfl, (Below.refl _ _).alloc (Nat.le_refl _) _⟩
theorem mustStr_no (x : Value) (w : World) (hx : keepsNot x 72) : Calls Try.prog 17 #[.agg #[x]] w fun e w' => (∃ p, e = .panicked [{ v := .iface 15 p, recovered := false }]) ∧ Below w.heap.size w w' := by
  have h := fun W => dies_of x 72 W hx (.inr (.inl rfl))
  obtain ⟨f, hf⟩ := Classical.axiomOfChoice h
  clear h
  clear hx
  go_enter Try.func17, Try.ntmps17
  go_wp2
  exact ⟨rfl, ⟨_, rfl⟩, ((Below.refl _ _).alloc (Nat.le_refl _) _).alloc (by simp) _⟩
theorem asNode_yes (v : Value) (w : World) : Calls Try.prog 15 #[.agg #[.iface 48 v]] w fun e w' => e = .returned (.tuple #[v, .bool true]) ∧ Below w.heap.size w w' := by
  have h := fun W => (holds_of v 48 W (.inr (.inr rfl))).2
  go_enter Try.func15, Try.ntmps15
  go_wp2
  go_ret2
  exact ⟨rfl, (Below.refl _ _).alloc (Nat.le_refl _) _⟩
theorem asNode_no (x : Value) (w : World) (hx : keepsNot x 48) : Calls Try.prog 15 #[.agg #[x]] w fun e w' => e = .returned (.tuple #[.pointer none, .bool false]) ∧ Below w.heap.size w w' := by
  have h : ∀ W, (Instr.typeAssert x 39 48 true).run Try.prog W = .ok (.tuple #[.pointer none, .bool false]) W := fun W => fails_of x 48 W hx (.inr (.inr rfl))
  clear hx
  go_enter Try.func15, Try.ntmps15
  go_wp2
  go_ret2
  exact ⟨rfl, (Below.refl _ _).alloc (Nat.le_refl _) _⟩
theorem mustNode_yes (v : Value) (w : World) : Calls Try.prog 26 #[.agg #[.iface 48 v]] w fun e w' => e = .returned v ∧ Below w.heap.size w w' := by
  have h := fun W => (holds_of v 48 W (.inr (.inr rfl))).1
  go_enter Try.func26, Try.ntmps26
  go_wp2
  go_ret
  exact ⟨rfl, (Below.refl _ _).alloc (Nat.le_refl _) _⟩
theorem mustNode_no (x : Value) (w : World) (hx : keepsNot x 48) : Calls Try.prog 26 #[.agg #[x]] w fun e w' => (∃ p, e = .panicked [{ v := .iface 15 p, recovered := false }]) ∧ Below w.heap.size w w' := by
  have h := fun W => dies_of x 48 W hx (.inr (.inr rfl))
  obtain ⟨f, hf⟩ := Classical.axiomOfChoice h
  clear h
  clear hx
  go_enter Try.func26, Try.ntmps26
  go_wp2
  exact ⟨rfl, ⟨_, rfl⟩, ((Below.refl _ _).alloc (Nat.le_refl _) _).alloc (by simp) _⟩
end Go.Proofs.Ytgedelgdjcnogab
