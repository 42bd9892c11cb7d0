/- A row of any width that is appended whole to a row of one's own. -/
import Derived.Test.YtomeppgmmlaibaaScRow
import Derived.Laws.AppendOwnNone
import Derived.OwnWalk
namespace Go.Proofs.Ytomeppgmmlaibaa
open Go.ChangeShapes Go.WideShapes Go.ChangeAt Go.RowKit
set_option linter.unusedVariables false
set_option linter.unusedSimpArgs false
set_option maxRecDepth 20000

theorem flat_inv {size : Nat} : ∀ (rs : List (List Value)), (∀ r ∈ rs, r.length = size) → ∀ (j : Nat) (u : Value), rs.flatten[j]? = some u → ∃ i c k, rs[i]? = some c ∧ c[k]? = some u ∧ j = i * size + k
  | [], _, j, u, h => by simp at h
  | x :: l, hl, j, u, h => by
    have hx := hl x (List.mem_cons_self ..)
    by_cases hj : j < x.length
    · rw [List.flatten_cons, List.getElem?_append_left hj] at h
      exact ⟨0, x, j, rfl, h, by simp⟩
    · rw [List.flatten_cons, List.getElem?_append_right (by omega)] at h
      obtain ⟨i, c, k, h1, h2, h3⟩ := flat_inv l (fun r hr => hl r (List.mem_cons_of_mem _ hr)) _ u h
      exact ⟨i + 1, c, k, by simpa using h1, h2, by rw [Nat.add_mul]; omega⟩
theorem run_joinG {w : World} (t ty e : TypeId) (size bytes : Nat) (z : Value) (ht : Try.prog.underlying t = some (.slice e)) (hinfo : (Try.prog.info? e).map (fun i => (i.zero, i.size, i.bytes)) = some (some z, size, bytes)) (hzs : z.cells.size = size) (hsz : 0 < size)
    (base : Nat) (v : Value) (n : Nat) (xs : List Value) (hown : w.ownsRow base e size v n xs)
    (xv : Value) (rs : List (List Value)) (hr : RowG w xv size rs) (hl : ∀ r ∈ rs, r.length = size) (h1 : ∀ u ∈ rs.flatten, u.oneCell' = true) (hb : n + rs.length ≤ 1000000) (hby : bytes ≤ 1000) (hbase : base ≤ w.heap.size) :
    ∃ v' w', (Builtin.append_ #[t, t] ty #[v, xv]).run Try.prog w = .ok v' w' ∧ w'.ownsRow base e size v' (n + rs.length) (xs ++ rs.flatten) ∧ w.grownBy w' v.ownBlock := by
  obtain ⟨i0, hi, hz0, hz1, hz2⟩ := info_parts hinfo
  obtain ⟨ao, cap, rfl, q1, q2, q0, q3⟩ := hr.form
  cases ao with
  | none =>
    have hrs : rs = [] := by
      cases rs with
      | nil => rfl
      | cons r l => obtain ⟨g, off, e, _⟩ := q3 (by simp); cases e
    subst hrs
    have := q0 rfl
    subst this
    have hrun := run_append_owned_none (P := Try.prog) (w := w) base t ty e i0 size ht hi v n xs hown
    refine ⟨v, w, hrun, ?_, ⟨rfl, rfl, rfl, Nat.le_refl _, fun _ _ _ => rfl⟩⟩
    rw [List.flatten_nil, List.append_nil]
    exact hown
  | some ad =>
    obtain ⟨v', w', g0, g1, g2, _⟩ := run_append_own w base t ty e i0 z size bytes ht hi hz0 hz1 hz2 hzs hsz v _ _ hown ad rs.length cap rs.flatten (by rw [flat_len rs hl]) (fun j u hu => by
      obtain ⟨i, c, k, e1, e2, rfl⟩ := flat_inv rs hl j u hu
      obtain ⟨g, off, e3, e4⟩ := q3 (by intro e; rw [e] at e1; simp at e1)
      cases e3
      have := e4 i c u k e1 e2
      rw [Nat.add_assoc] at this
      rw [Addr.add_lit]
      exact this) h1 (by unfold maxLen; omega) (Nat.le_trans (Nat.mul_le_mul hb hby) (by decide)) hbase
    exact ⟨v', w', g0, g1, g2⟩
theorem wpList_joinG {w : World} {ops : Array Oper} {rest : List Oper} {o : Oper} {a : Act} {Q : Exit → Act → World → Prop} (hgd : o.guard = none) (s x : Operand) (t e : TypeId) (size bytes : Nat) (z : Value)
    (ho : o.op = .call { callee := .builtin .append, args := #[s, x], argTypes := #[t, t] }) (ht : Try.prog.underlying t = some (.slice e)) (hinfo : (Try.prog.info? e).map (fun i => (i.zero, i.size, i.bytes)) = some (some z, size, bytes)) (hzs : z.cells.size = size) (hsz : 0 < size)
    (base : Nat) (v : Value) (n : Nat) (xs : List Value) (hs : a.eval s = v) (hown : w.ownsRow base e size v n xs)
    (xv : Value) (rs : List (List Value)) (hx : a.eval x = xv) (hr : RowG w xv size rs) (hl : ∀ r ∈ rs, r.length = size) (h1 : ∀ u ∈ rs.flatten, u.oneCell' = true) (hb : n + rs.length ≤ 1000000) (hby : bytes ≤ 1000) (hbase : base ≤ w.heap.size)
    (h : ∀ v' w', w'.ownsRow base e size v' (n + rs.length) (xs ++ rs.flatten) → w.grownBy w' v.ownBlock → wpList Try.prog ops Q rest (a.put o.dst v') w') : wpList Try.prog ops Q (o :: rest) a w := by
  obtain ⟨i0, hi, hz0, hz1, hz2⟩ := info_parts hinfo
  obtain ⟨ao, cap, rfl, q1, q2, q0, q3⟩ := hr.form
  cases ao with
  | none =>
    have hrs : rs = [] := by
      cases rs with
      | nil => rfl
      | cons r l => obtain ⟨g, off, e, _⟩ := q3 (by simp); cases e
    subst hrs
    have := q0 rfl
    subst this
    refine wpList_append_own_none hgd s x t ho base e i0 size ht hi v _ _ hs hown hx ?_
    refine h v w ?_ ⟨rfl, rfl, rfl, Nat.le_refl _, fun _ _ _ => rfl⟩
    rw [List.flatten_nil, List.append_nil]
    exact hown
  | some ad =>
    refine wpList_append_own w hgd s x t ho base e i0 z size bytes ht hi hz0 hz1 hz2 hzs hsz v _ _ hs hown ad rs.length cap rs.flatten hx (by rw [flat_len rs hl]) ?_ h1 (by unfold maxLen; omega) ?_ hbase ?_
    · intro j u hu
      obtain ⟨i, c, k, e1, e2, rfl⟩ := flat_inv rs hl j u hu
      obtain ⟨g, off, e3, e4⟩ := q3 (by intro e; rw [e] at e1; simp at e1)
      cases e3
      have := e4 i c u k e1 e2
      rw [Nat.add_assoc] at this
      rw [Addr.add_lit]
      exact this
    · exact Nat.le_trans (Nat.mul_le_mul hb hby) (by decide)
    · intro v' w' g1 g2 _
      exact h v' w' g1 g2
theorem infoFl : (Try.prog.info? 52).map (fun i => (i.zero, i.size, i.bytes)) = some (some (.agg #[.string ⟨#[]⟩, .int .i64 0, .int .i64 0, .int .i64 0, .string ⟨#[]⟩]), 5, 56) := by kernel_rfl
theorem infoIn : (Try.prog.info? 3).map (fun i => (i.zero, i.size, i.bytes)) = some (some (.int .i64 0), 1, 8) := by kernel_rfl
theorem infoNm : (Try.prog.info? 65).map (fun i => (i.zero, i.size, i.bytes)) = some (some (.agg #[.string ⟨#[]⟩, .int .i64 0]), 2, 24) := by kernel_rfl
theorem infoMs : (Try.prog.info? 35).map (fun i => (i.zero, i.size, i.bytes)) = some (some (.agg #[.string ⟨#[]⟩, .slice none 0 0, .slice none 0 0]), 3, 64) := by kernel_rfl
theorem infoEn : (Try.prog.info? 40).map (fun i => (i.zero, i.size, i.bytes)) = some (some (.agg #[.string ⟨#[]⟩, .slice none 0 0]), 2, 40) := by kernel_rfl
theorem infoMt : (Try.prog.info? 44).map (fun i => (i.zero, i.size, i.bytes)) = some (some (.agg #[.string ⟨#[]⟩, .string ⟨#[]⟩, .string ⟨#[]⟩]), 3, 48) := by kernel_rfl
theorem flr_len (fs : List FlS) : ∀ r ∈ flRows fs, r.length = 5 := fun r hr => by simp only [flRows, List.mem_map] at hr; obtain ⟨_, _, rfl⟩ := hr; rfl
theorem inr_len (fs : List Int) : ∀ r ∈ inRows fs, r.length = 1 := fun r hr => by simp only [inRows, List.mem_map] at hr; obtain ⟨_, _, rfl⟩ := hr; rfl
theorem nmr_len (fs : List NmS) : ∀ r ∈ nmRows fs, r.length = 2 := fun r hr => by simp only [nmRows, List.mem_map] at hr; obtain ⟨_, _, rfl⟩ := hr; rfl
theorem mtr_len (fs : List MtS) : ∀ r ∈ mtRows fs, r.length = 3 := fun r hr => by simp only [mtRows, List.mem_map] at hr; obtain ⟨_, _, rfl⟩ := hr; rfl
theorem flr_one (fs : List FlS) : ∀ u ∈ (flRows fs).flatten, u.oneCell' = true := by
  intro u hu
  simp only [List.mem_flatten, flRows, List.mem_map] at hu
  obtain ⟨l, ⟨f, _, rfl⟩, hu⟩ := hu
  simp only [FlS.cells, List.mem_cons, List.not_mem_nil, or_false] at hu
  rcases hu with rfl | rfl | rfl | rfl | rfl <;> rfl
theorem inr_one (fs : List Int) : ∀ u ∈ (inRows fs).flatten, u.oneCell' = true := by
  intro u hu
  simp only [List.mem_flatten, inRows, List.mem_map] at hu
  obtain ⟨l, ⟨f, _, rfl⟩, hu⟩ := hu
  simp only [List.mem_cons, List.not_mem_nil, or_false] at hu
  subst hu; rfl
theorem nmr_one (fs : List NmS) : ∀ u ∈ (nmRows fs).flatten, u.oneCell' = true := by
  intro u hu
  simp only [List.mem_flatten, nmRows, List.mem_map] at hu
  obtain ⟨l, ⟨f, _, rfl⟩, hu⟩ := hu
  simp only [NmS.cells, List.mem_cons, List.not_mem_nil, or_false] at hu
  rcases hu with rfl | rfl <;> rfl
theorem mtr_one (fs : List MtS) : ∀ u ∈ (mtRows fs).flatten, u.oneCell' = true := by
  intro u hu
  simp only [List.mem_flatten, mtRows, List.mem_map] at hu
  obtain ⟨l, ⟨f, _, rfl⟩, hu⟩ := hu
  simp only [MtS.cells, List.mem_cons, List.not_mem_nil, or_false] at hu
  rcases hu with rfl | rfl | rfl <;> rfl
theorem own_rowF {w : World} {B n : Nat} {v : Value} {fs : List FlS} (h : w.ownsRow B 52 5 v n (flRows fs).flatten) : RowG w v 5 (flRows fs) := (RowG.own (flr_len fs) (by decide) h).1
theorem own_rowI {w : World} {B n : Nat} {v : Value} {fs : List Int} (h : w.ownsRow B 3 1 v n (inRows fs).flatten) : RowG w v 1 (inRows fs) := (RowG.own (inr_len fs) (by decide) h).1
theorem own_rowN {w : World} {B n : Nat} {v : Value} {fs : List NmS} (h : w.ownsRow B 65 2 v n (nmRows fs).flatten) : RowG w v 2 (nmRows fs) := (RowG.own (nmr_len fs) (by decide) h).1
theorem own_rowT {w : World} {B n : Nat} {v : Value} {fs : List MtS} (h : w.ownsRow B 44 3 v n (mtRows fs).flatten) : RowG w v 3 (mtRows fs) := (RowG.own (mtr_len fs) (by decide) h).1
end Go.Proofs.Ytomeppgmmlaibaa
