/- A row of any width that is appended whole to a row of one's own: the general law. -/
import Derived.Test.YtgedelgdjcnogabRowG
import Derived.Laws.AppendOwnNone
import Derived.OwnWalk
import Derived.Maps.AppendAt
namespace Go.Proofs.Ytgedelgdjcnogab
open Go.ChangeShapes Go.WideShapes Go.ChangeAt Go.RowKit
set_option linter.unusedVariables false
set_option linter.unusedSimpArgs false
set_option maxRecDepth 20000

theorem flat_inv {size : Nat} : ∀ (rs : List (List Value)), (∀ r ∈ rs, r.length = size) → ∀ (j : Nat) (u : Value), rs.flatten[j]? = some u → ∃ i c k, rs[i]? = some c ∧ c[k]? = some u ∧ j = i * size + k
  | [], _, j, u, h => by simp at h
  | x :: l, hl, j, u, h => by
    have hx := hl x (List.mem_cons_self ..)
    by_cases hj : j < x.length
    · rw [List.flatten_cons, List.getElem?_append_left hj] at h
      exact ⟨0, x, j, rfl, h, by simp⟩
    · rw [List.flatten_cons, List.getElem?_append_right (by omega)] at h
      obtain ⟨i, c, k, h1, h2, h3⟩ := flat_inv l (fun r hr => hl r (List.mem_cons_of_mem _ hr)) _ u h
      exact ⟨i + 1, c, k, by simpa using h1, h2, by rw [Nat.add_mul]; omega⟩
theorem run_joinG {w : World} (t ty e : TypeId) (size bytes : Nat) (z : Value) (ht : Try.prog.underlying t = some (.slice e)) (hinfo : (Try.prog.info? e).map (fun i => (i.zero, i.size, i.bytes)) = some (some z, size, bytes)) (hzs : z.cells.size = size) (hsz : 0 < size)
    (base : Nat) (v : Value) (n : Nat) (xs : List Value) (hown : w.ownsRow base e size v n xs)
    (xv : Value) (rs : List (List Value)) (hr : RowG w xv size rs) (hl : ∀ r ∈ rs, r.length = size) (h1 : ∀ u ∈ rs.flatten, u.oneCell' = true) (hb : n + rs.length ≤ 1000000) (hby : bytes ≤ 1000) (hbase : base ≤ w.heap.size) :
    ∃ v' w', (Builtin.append_ #[t, t] ty #[v, xv]).run Try.prog w = .ok v' w' ∧ w'.ownsRow base e size v' (n + rs.length) (xs ++ rs.flatten) ∧ w.grownBy w' v.ownBlock := by
  obtain ⟨i0, hi, hz0, hz1, hz2⟩ := info_parts hinfo
  obtain ⟨ao, cap, rfl, q1, q2, q0, q3⟩ := hr.form
  cases ao with
  | none =>
    have hrs : rs = [] := by
      cases rs with
      | nil => rfl
      | cons r l => obtain ⟨g, off, e, _⟩ := q3 (by simp); cases e
    subst hrs
    have := q0 rfl
    subst this
    have hrun := run_append_owned_none (P := Try.prog) (w := w) base t ty e i0 size ht hi v n xs hown
    refine ⟨v, w, hrun, ?_, ⟨rfl, rfl, rfl, Nat.le_refl _, fun _ _ _ => rfl⟩⟩
    rw [List.flatten_nil, List.append_nil]
    exact hown
  | some ad =>
    obtain ⟨v', w', g0, g1, g2, _⟩ := run_append_own w base t ty e i0 z size bytes ht hi hz0 hz1 hz2 hzs hsz v _ _ hown ad rs.length cap rs.flatten (by rw [flat_len rs hl]) (fun j u hu => by
      obtain ⟨i, c, k, e1, e2, rfl⟩ := flat_inv rs hl j u hu
      obtain ⟨g, off, e3, e4⟩ := q3 (by intro e; rw [e] at e1; simp at e1)
      cases e3
      have := e4 i c u k e1 e2
      rw [Nat.add_assoc] at this
      rw [Addr.add_lit]
      exact this) h1 (by unfold maxLen; omega) (Nat.le_trans (Nat.mul_le_mul hb hby) (by decide)) hbase
    exact ⟨v', w', g0, g1, g2⟩
theorem wpList_joinG {w : World} {ops : Array Oper} {rest : List Oper} {o : Oper} {a : Act} {Q : Exit → Act → World → Prop} (hgd : o.guard = none) (s x : Operand) (t e : TypeId) (size bytes : Nat) (z : Value)
    (ho : o.op = .call { callee := .builtin .append, args := #[s, x], argTypes := #[t, t] }) (ht : Try.prog.underlying t = some (.slice e)) (hinfo : (Try.prog.info? e).map (fun i => (i.zero, i.size, i.bytes)) = some (some z, size, bytes)) (hzs : z.cells.size = size) (hsz : 0 < size)
    (base : Nat) (v : Value) (n : Nat) (xs : List Value) (hs : a.eval s = v) (hown : w.ownsRow base e size v n xs)
    (xv : Value) (rs : List (List Value)) (hx : a.eval x = xv) (hr : RowG w xv size rs) (hl : ∀ r ∈ rs, r.length = size) (h1 : ∀ u ∈ rs.flatten, u.oneCell' = true) (hb : n + rs.length ≤ 1000000) (hby : bytes ≤ 1000) (hbase : base ≤ w.heap.size)
    (h : ∀ v' w', w'.ownsRow base e size v' (n + rs.length) (xs ++ rs.flatten) → w.grownBy w' v.ownBlock → wpList Try.prog ops Q rest (a.put o.dst v') w') : wpList Try.prog ops Q (o :: rest) a w := by
  obtain ⟨i0, hi, hz0, hz1, hz2⟩ := info_parts hinfo
  obtain ⟨ao, cap, rfl, q1, q2, q0, q3⟩ := hr.form
  cases ao with
  | none =>
    have hrs : rs = [] := by
      cases rs with
      | nil => rfl
      | cons r l => obtain ⟨g, off, e, _⟩ := q3 (by simp); cases e
    subst hrs
    have := q0 rfl
    subst this
    refine wpList_append_own_none hgd s x t ho base e i0 size ht hi v _ _ hs hown hx ?_
    refine h v w ?_ ⟨rfl, rfl, rfl, Nat.le_refl _, fun _ _ _ => rfl⟩
    rw [List.flatten_nil, List.append_nil]
    exact hown
  | some ad =>
    refine wpList_append_own w hgd s x t ho base e i0 z size bytes ht hi hz0 hz1 hz2 hzs hsz v _ _ hs hown ad rs.length cap rs.flatten hx (by rw [flat_len rs hl]) ?_ h1 (by unfold maxLen; omega) ?_ hbase ?_
    · intro j u hu
      obtain ⟨i, c, k, e1, e2, rfl⟩ := flat_inv rs hl j u hu
      obtain ⟨g, off, e3, e4⟩ := q3 (by intro e; rw [e] at e1; simp at e1)
      cases e3
      have := e4 i c u k e1 e2
      rw [Nat.add_assoc] at this
      rw [Addr.add_lit]
      exact this
    · exact Nat.le_trans (Nat.mul_le_mul hb hby) (by decide)
    · intro v' w' g1 g2 _
      exact h v' w' g1 g2
end Go.Proofs.Ytgedelgdjcnogab
