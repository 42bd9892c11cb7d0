/- Appending bytes that stand somewhere (nil or not) onto a row of the call's own. -/
import Derived.Test.YtppdaohmddbhdaaVnMade
import Derived.Laws.AppendOwnNone
namespace Go.Proofs.Ytppdaohmddbhdaa
open Go.ChangeShapes Go.WideShapes Go.ChangeAt Go.RowKit
set_option linter.unusedVariables false
set_option maxRecDepth 20000

theorem byteCells_one (ns : List Nat) : ∀ u ∈ byteCells ns, u.oneCell' = true := by
  intro u hu
  simp only [byteCells, List.mem_map] at hu
  obtain ⟨n, _, rfl⟩ := hu
  rfl
theorem byteCells_app (ns ms : List Nat) : byteCells (ns ++ ms) = byteCells ns ++ byteCells ms := by simp [byteCells]

theorem wpList_join {w : World} {ops : Array Oper} {rest : List Oper} {o : Oper} {a : Act} {Q : Exit → Act → World → Prop} (hgd : o.guard = none) (s x : Operand)
    (ho : o.op = .call { callee := .builtin .append, args := #[s, x], argTypes := #[22, 22] }) (base : Nat) (v : Value) (n : Nat) (ns : List Nat) (hs : a.eval s = v) (hown : w.ownsRow base 5 1 v n (byteCells ns))
    (ao : Option Addr) (ms : List Nat) (m c : Nat) (hx : a.eval x = .slice ao m c) (hm : m = ms.length) (hao : ao = none → ms = [] ∧ c = 0) (hh : Holds w ao ms) (hb : ns.length + ms.length ≤ 140737488355328) (hbase : base ≤ w.heap.size)
    (h : ∀ v' w', w'.ownsRow base 5 1 v' (ns ++ ms).length (byteCells (ns ++ ms)) → w.grownBy w' v.ownBlock → wpList Try.prog ops Q rest (a.put o.dst v') w') : wpList Try.prog ops Q (o :: rest) a w := by
  obtain ⟨i0, hi, hz0, hz1, hz2⟩ := info_parts infoByte
  have hn : n = ns.length := by have := hown.1; rw [byteCells_len] at this; omega
  subst hm hn
  cases ao with
  | none =>
    obtain ⟨rfl, rfl⟩ := hao rfl
    refine wpList_append_own_none hgd s x 22 ho base 5 i0 1 Try.underlying22 hi v _ _ hs hown hx ?_
    refine h v w ?_ ⟨rfl, rfl, rfl, Nat.le_refl _, fun _ _ _ => rfl⟩
    rw [List.append_nil]
    exact hown
  | some ad =>
    refine wpList_append_own w hgd s x 22 ho base 5 i0 (.int .u8 0) 1 1 Try.underlying22 hi hz0 hz1 hz2 rfl (by decide) v _ _ hs hown ad ms.length c (byteCells ms) hx (by rw [byteCells_len]; omega) (hh ad rfl) (byteCells_one ms) (by unfold maxLen; omega) (by omega) hbase ?_
    intro v' w' h1 h2 _
    refine h v' w' ?_ h2
    rw [byteCells_app, List.length_append]
    exact h1
end Go.Proofs.Ytppdaohmddbhdaa
