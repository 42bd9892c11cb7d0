/- value's leaves: a number's, a text's value, what they keep. -/
import Derived.Test.YtgedelgdjcnogaaRows
import Derived.WalkKit
import Derived.ProofKit
import Derived.OpenShut
import Derived.ShutString
import Derived.ChangeOld
import Derived.Below
import Derived.OwnWalk
namespace Go.Proofs.Ytgedelgdjcnogaa
open Go.ChangeShapes Go.WideShapes Go.ChangeAt Go.RowKit
set_option linter.unusedVariables false
set_option linter.unusedSimpArgs false
set_option maxRecDepth 20000

abbrev vNum (n : Int) : Value := .agg #[.iface 85 (.int .i64 n)]
abbrev vStr (s : ByteArray) : Value := .agg #[.iface 86 (.string s)]
abbrev vNode (p : Addr) : Value := .agg #[.iface 39 (.pointer (some p))]
abbrev vNil : Value := .agg #[.nilIface]

theorem raise_run (u T : TypeId) (W : World) (hT : T = 85 ∨ T = 86 ∨ T = 39) : (runtimePanic (.typeAssertion (some 32) (some u) T "") : Sem Value).run Try.prog W = .halt (.panic (.iface 15 (.pointer (some ⟨W.heap.size, 0, none⟩)))) (W.alloc (.cells #[typeHandle Try.prog 32, typeHandle Try.prog u, typeHandle Try.prog T, strVal ""] 112)) := by
  rcases hT with rfl | rfl | rfl <;> kernel_rfl
theorem dies_of (x : Value) (T : TypeId) (W : World) (hx : x = .nilIface ∨ ∃ u v, x = .iface u v ∧ u ≠ T) (hT : T = 85 ∨ T = 86 ∨ T = 39) : ∃ cs, (Instr.typeAssert x 32 T false).run Try.prog W = .halt (.panic (.iface 15 (.pointer (some ⟨W.heap.size, 0, none⟩)))) (W.alloc (.cells cs 112)) := by
  rcases hx with rfl | ⟨u, v, rfl, hu⟩
  · refine ⟨#[typeHandle Try.prog 32, .pointer none, typeHandle Try.prog T, strVal ""], ?_⟩
    rcases hT with rfl | rfl | rfl <;> kernel_rfl
  · refine ⟨#[typeHandle Try.prog 32, typeHandle Try.prog u, typeHandle Try.prog T, strVal ""], ?_⟩
    have e : (Instr.typeAssert (.iface u v) 32 T false).run Try.prog W = (if u = T then (pure v : Sem Value) else runtimePanic (.typeAssertion (some 32) (some u) T "")).run Try.prog W := by
      rcases hT with rfl | rfl | rfl <;> kernel_rfl
    rw [e, if_neg hu]
    exact raise_run u T W hT
theorem holds_of (v : Value) (T : TypeId) (W : World) (hT : T = 85 ∨ T = 86 ∨ T = 39) : (Instr.typeAssert (.iface T v) 32 T false).run Try.prog W = .ok v W ∧ (Instr.typeAssert (.iface T v) 32 T true).run Try.prog W = .ok (.tuple #[v, .bool true]) W := by
  rcases hT with rfl | rfl | rfl <;> exact ⟨by kernel_rfl, by kernel_rfl⟩
/-- The zero value of what is asserted. -/
def zeroT (T : TypeId) : Value := if T = 85 then .int .i64 0 else if T = 86 then .string ByteArray.empty else .pointer none
theorem zero_run (T : TypeId) (W : World) (hT : T = 85 ∨ T = 86 ∨ T = 39) : (do pure (Value.tuple #[← zeroValue T, .bool false]) : Sem Value).run Try.prog W = .ok (.tuple #[zeroT T, .bool false]) W := by
  rcases hT with rfl | rfl | rfl <;> kernel_rfl
theorem fails_of (x : Value) (T : TypeId) (W : World) (hx : x = .nilIface ∨ ∃ u v, x = .iface u v ∧ u ≠ T) (hT : T = 85 ∨ T = 86 ∨ T = 39) : (Instr.typeAssert x 32 T true).run Try.prog W = .ok (.tuple #[zeroT T, .bool false]) W := by
  rcases hx with rfl | ⟨u, v, rfl, hu⟩
  · rcases hT with rfl | rfl | rfl <;> kernel_rfl
  · have e : (Instr.typeAssert (.iface u v) 32 T true).run Try.prog W = (if u = T then (pure (Value.tuple #[v, .bool true]) : Sem Value) else (do pure (Value.tuple #[← zeroValue T, .bool false]))).run Try.prog W := by
      rcases hT with rfl | rfl | rfl <;> kernel_rfl
    rw [e, if_neg hu]
    exact zero_run T W hT
theorem num_any (n : Int) (w : World) : Calls Try.prog 32 #[.int .i64 n] w fun e w' => e = .returned (vNum n) ∧ Below w.heap.size w w' := by
  go_enter Try.func32, Try.ntmps32
  go_wp2
  exact bodyPost_ret (v := vNum n) (by simp [results, Try.results32, go_sem]) rfl ⟨rfl, (Below.refl _ _).alloc (Nat.le_refl _) _⟩
theorem str_any (s : ByteArray) (w : World) : Calls Try.prog 33 #[.string s] w fun e w' => e = .returned (vStr s) ∧ Below w.heap.size w w' := by
  go_enter Try.func33, Try.ntmps33
  go_wp2
  exact bodyPost_ret (v := vStr s) (by simp [results, Try.results33, go_sem]) rfl ⟨rfl, (Below.refl _ _).alloc (Nat.le_refl _) _⟩
/-- What a value keeps is of the type T, and is v. -/
def keeps (x : Value) (T : TypeId) (v : Value) : Prop := x = .iface T v
/-- It is none of that type. -/
def keepsNot (x : Value) (T : TypeId) : Prop := x = .nilIface ∨ ∃ u v, x = .iface u v ∧ u ≠ T
theorem asNum_yes (v : Value) (w : World) : Calls Try.prog 27 #[.agg #[.iface 85 v]] w fun e w' => e = .returned (.tuple #[v, .bool true]) ∧ Below w.heap.size w w' := by
  have h := fun W => (holds_of v 85 W (.inl rfl)).2
  go_enter Try.func27, Try.ntmps27
  go_wp2
  go_ret2
  exact ⟨rfl, (Below.refl _ _).alloc (Nat.le_refl _) _⟩
theorem asNum_no (x : Value) (w : World) (hx : keepsNot x 85) : Calls Try.prog 27 #[.agg #[x]] w fun e w' => e = .returned (.tuple #[.int .i64 0, .bool false]) ∧ Below w.heap.size w w' := by
  have h : ∀ W, (Instr.typeAssert x 32 85 true).run Try.prog W = .ok (.tuple #[.int .i64 0, .bool false]) W := fun W => fails_of x 85 W hx (.inl rfl)
  clear hx
  go_enter Try.func27, Try.ntmps27
  go_wp2
  go_ret2
  exact ⟨rfl, (Below.refl _ _).alloc (Nat.le_refl _) _⟩
theorem mustNum_yes (v : Value) (w : World) : Calls Try.prog 48 #[.agg #[.iface 85 v]] w fun e w' => e = .returned v ∧ Below w.heap.size w w' := by
  have h := fun W => (holds_of v 85 W (.inl rfl)).1
  go_enter Try.func48, Try.ntmps48
  go_wp2
  go_ret
  exact ⟨rfl, (Below.refl _ _).alloc (Nat.le_refl _) _⟩
theorem mustNum_no (x : Value) (w : World) (hx : keepsNot x 85) : Calls Try.prog 48 #[.agg #[x]] w fun e w' => (∃ p, e = .panicked [{ v := .iface 15 p, recovered := false }]) ∧ Below w.heap.size w w' := by
  have h := fun W => dies_of x 85 W hx (.inl rfl)
  obtain ⟨f, hf⟩ := Classical.axiomOfChoice h
  clear h
  clear hx
  go_enter Try.func48, Try.ntmps48
  go_wp2
  exact ⟨rfl, ⟨_, rfl⟩, ((Below.refl _ _).alloc (Nat.le_refl _) _).alloc (by simp) _⟩
theorem asStr_yes (v : Value) (w : World) : Calls Try.prog 28 #[.agg #[.iface 86 v]] w fun e w' => e = .returned (.tuple #[v, .bool true]) ∧ Below w.heap.size w w' := by
  have h := fun W => (holds_of v 86 W (.inr (.inl rfl))).2
  go_enter Try.func28, Try.ntmps28
  go_wp2
  go_ret2
  exact ⟨rfl, (Below.refl _ _).alloc (Nat.le_refl _) _⟩
theorem asStr_no (x : Value) (w : World) (hx : keepsNot x 86) : Calls Try.prog 28 #[.agg #[x]] w fun e w' => e = .returned (.tuple #[.string ByteArray.empty, .bool false]) ∧ Below w.heap.size w w' := by
  have h : ∀ W, (Instr.typeAssert x 32 86 true).run Try.prog W = .ok (.tuple #[.string ByteArray.empty, .bool false]) W := fun W => fails_of x 86 W hx (.inr (.inl rfl))
  clear hx
  go_enter Try.func28, Try.ntmps28
  go_wp2
  go_ret2
  exact ⟨rfl, (Below.refl _ _).alloc (Nat.le_refl _) _⟩
theorem mustStr_yes (v : Value) (w : World) : Calls Try.prog 49 #[.agg #[.iface 86 v]] w fun e w' => e = .returned v ∧ Below w.heap.size w w' := by
  have h := fun W => (holds_of v 86 W (.inr (.inl rfl))).1
  go_enter Try.func49, Try.ntmps49
  go_wp2
  go_ret
  exact ⟨rfl, (Below.refl _ _).alloc (Nat.le_refl _) _⟩
theorem mustStr_no (x : Value) (w : World) (hx : keepsNot x 86) : Calls Try.prog 49 #[.agg #[x]] w fun e w' => (∃ p, e = .panicked [{ v := .iface 15 p, recovered := false }]) ∧ Below w.heap.size w w' := by
  have h := fun W => dies_of x 86 W hx (.inr (.inl rfl))
  obtain ⟨f, hf⟩ := Classical.axiomOfChoice h
  clear h
  clear hx
  go_enter Try.func49, Try.ntmps49
  go_wp2
  exact ⟨rfl, ⟨_, rfl⟩, ((Below.refl _ _).alloc (Nat.le_refl _) _).alloc (by simp) _⟩
theorem asNode_yes (v : Value) (w : World) : Calls Try.prog 21 #[.agg #[.iface 39 v]] w fun e w' => e = .returned (.tuple #[v, .bool true]) ∧ Below w.heap.size w w' := by
  have h := fun W => (holds_of v 39 W (.inr (.inr rfl))).2
  go_enter Try.func21, Try.ntmps21
  go_wp2
  go_ret2
  exact ⟨rfl, (Below.refl _ _).alloc (Nat.le_refl _) _⟩
theorem asNode_no (x : Value) (w : World) (hx : keepsNot x 39) : Calls Try.prog 21 #[.agg #[x]] w fun e w' => e = .returned (.tuple #[.pointer none, .bool false]) ∧ Below w.heap.size w w' := by
  have h : ∀ W, (Instr.typeAssert x 32 39 true).run Try.prog W = .ok (.tuple #[.pointer none, .bool false]) W := fun W => fails_of x 39 W hx (.inr (.inr rfl))
  clear hx
  go_enter Try.func21, Try.ntmps21
  go_wp2
  go_ret2
  exact ⟨rfl, (Below.refl _ _).alloc (Nat.le_refl _) _⟩
theorem mustNode_yes (v : Value) (w : World) : Calls Try.prog 50 #[.agg #[.iface 39 v]] w fun e w' => e = .returned v ∧ Below w.heap.size w w' := by
  have h := fun W => (holds_of v 39 W (.inr (.inr rfl))).1
  go_enter Try.func50, Try.ntmps50
  go_wp2
  go_ret
  exact ⟨rfl, (Below.refl _ _).alloc (Nat.le_refl _) _⟩
theorem mustNode_no (x : Value) (w : World) (hx : keepsNot x 39) : Calls Try.prog 50 #[.agg #[x]] w fun e w' => (∃ p, e = .panicked [{ v := .iface 15 p, recovered := false }]) ∧ Below w.heap.size w w' := by
  have h := fun W => dies_of x 39 W hx (.inr (.inr rfl))
  obtain ⟨f, hf⟩ := Classical.axiomOfChoice h
  clear h
  clear hx
  go_enter Try.func50, Try.ntmps50
  go_wp2
  exact ⟨rfl, ⟨_, rfl⟩, ((Below.refl _ _).alloc (Nat.le_refl _) _).alloc (by simp) _⟩
end Go.Proofs.Ytgedelgdjcnogaa
