/- What Kind answers. -/
import Derived.Test.YtlmkgbdcpphofaaVaLeaf
namespace Go.Proofs.Ytlmkgbdcpphofaa
open Go.ChangeShapes Go.WideShapes Go.ChangeAt Go.RowKit
set_option linter.unusedVariables false
set_option linter.unusedSimpArgs false
set_option maxRecDepth 20000

theorem kind1_any (u : Value) (w : World) : Calls Try.prog 19 #[.agg #[.iface 85 u]] w fun e w' => e = .returned (.int .i64 1) ∧ Below w.heap.size w w' := by
  have h := fun W => (holds_of u 85 W (.inl rfl)).2
  go_enter Try.func19, Try.ntmps19
  go_wp2
  go_ret
  exact ⟨rfl, (Below.refl _ _).alloc (Nat.le_refl _) _⟩
theorem kind2_any (u : Value) (w : World) : Calls Try.prog 19 #[.agg #[.iface 86 u]] w fun e w' => e = .returned (.int .i64 2) ∧ Below w.heap.size w w' := by
  have h1 : ∀ W, (Instr.typeAssert (.iface 86 u) 32 85 true).run Try.prog W = .ok (.tuple #[.int .i64 0, .bool false]) W := fun W => fails_of _ 85 W (.inr ⟨_, _, rfl, by decide⟩) (.inl rfl)
  have h2 := fun W => (holds_of u 86 W (.inr (.inl rfl))).2
  go_enter Try.func19, Try.ntmps19
  go_wp2
  go_ret
  exact ⟨rfl, (Below.refl _ _).alloc (Nat.le_refl _) _⟩
theorem kind3_any (u : Value) (w : World) : Calls Try.prog 19 #[.agg #[.iface 39 u]] w fun e w' => e = .returned (.int .i64 3) ∧ Below w.heap.size w w' := by
  have h1 : ∀ W, (Instr.typeAssert (.iface 39 u) 32 85 true).run Try.prog W = .ok (.tuple #[.int .i64 0, .bool false]) W := fun W => fails_of _ 85 W (.inr ⟨_, _, rfl, by decide⟩) (.inl rfl)
  have h2 : ∀ W, (Instr.typeAssert (.iface 39 u) 32 86 true).run Try.prog W = .ok (.tuple #[.string ByteArray.empty, .bool false]) W := fun W => fails_of _ 86 W (.inr ⟨_, _, rfl, by decide⟩) (.inr (.inl rfl))
  have h3 := fun W => (holds_of u 39 W (.inr (.inr rfl))).2
  go_enter Try.func19, Try.ntmps19
  go_wp2
  go_ret
  exact ⟨rfl, (Below.refl _ _).alloc (Nat.le_refl _) _⟩
theorem kind0_any (w : World) : Calls Try.prog 19 #[.agg #[.nilIface]] w fun e w' => e = .returned (.int .i64 0) ∧ Below w.heap.size w w' := by
  have h1 : ∀ W, (Instr.typeAssert .nilIface 32 85 true).run Try.prog W = .ok (.tuple #[.int .i64 0, .bool false]) W := fun W => fails_of _ 85 W (.inl rfl) (.inl rfl)
  have h2 : ∀ W, (Instr.typeAssert .nilIface 32 86 true).run Try.prog W = .ok (.tuple #[.string ByteArray.empty, .bool false]) W := fun W => fails_of _ 86 W (.inl rfl) (.inr (.inl rfl))
  have h3 : ∀ W, (Instr.typeAssert .nilIface 32 39 true).run Try.prog W = .ok (.tuple #[.pointer none, .bool false]) W := fun W => fails_of _ 39 W (.inl rfl) (.inr (.inr rfl))
  go_enter Try.func19, Try.ntmps19
  go_wp2
  go_ret
  exact ⟨rfl, (Below.refl _ _).alloc (Nat.le_refl _) _⟩
end Go.Proofs.Ytlmkgbdcpphofaa
