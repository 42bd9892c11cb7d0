/- Trees of values, in plain words: how deep, how many, whether they may be. -/
import Derived.Test.YtmgbhicogmclgaaSoMath
namespace Go.Proofs.Ytmgbhicogmclgaa
set_option linter.unusedVariables false
set_option linter.unusedSimpArgs false

/-- A tree, by its parts. -/
structure Tr where
  kind : Int
  n : Int
  s : ByteArray
  es : List (Int × List Tr)
  rest : List Fd
/-- The zero tree. -/
def tr0 : Tr := ⟨0, 0, ⟨#[]⟩, [], []⟩
/-- All trees of some entries. -/
def subs (es : List (Int × List Tr)) : List Tr := es.flatMap (·.2)
theorem mem_subs {es : List (Int × List Tr)} {x : Tr} : x ∈ subs es ↔ ∃ e ∈ es, x ∈ e.2 := by simp [subs, List.mem_flatMap]
/-- How many parts a tree has (down to n). -/
def cntN : Nat → Tr → Nat
  | 0, _ => 0
  | n + 1, t => 1 + ((subs t.es).map (cntN n)).sum
/-- A tree that is not too much. -/
def SmN : Nat → Tr → Prop
  | 0, _ => False
  | n + 1, t => t.s.size ≤ 5000 ∧ t.rest.length ≤ 5000 ∧ t.es.length ≤ 500 ∧ (∀ f ∈ t.rest, f.b.size ≤ 5000) ∧ ∀ e ∈ t.es, e.2.length ≤ 70 ∧ ∀ x ∈ e.2, SmN n x
/-- How deep a tree is. -/
def dpN : Nat → Tr → Nat
  | 0, _ => 0
  | n + 1, t => if t.kind = 3 then 1 + ((subs t.es).map (dpN n)).foldr max 0 else 0
/-- Entries that may be, but for what is in their trees. -/
def entsB : Int → List (Int × List Tr) → Bool
  | _, [] => true
  | last, e :: l => decide (last < e.1) && decide (e.1 ≤ 500) && decide (1 ≤ e.2.length) && decide (e.2.length ≤ 64) && (e.2.all fun x => x.kind == (e.2.head?.map Tr.kind).getD 0) && entsB e.1 l
def hasB (es : List (Int × List Tr)) (tag : Int) : Bool := es.any fun e => e.1 == tag
/-- A rest that may be beside some entries. -/
def restB (rest : List Fd) (es : List (Int × List Tr)) : Bool := (rest.all fun f => okF f && !hasB es f.tag) && risesB rest
/-- A tree that may be, but for what is in its trees. -/
def lvB (t : Tr) : Bool :=
  if t.kind = 1 then t.s.size == 0 && t.es.isEmpty && t.rest.isEmpty
  else if t.kind = 2 then t.n == 0 && t.es.isEmpty && t.rest.isEmpty
  else if t.kind = 3 then t.n == 0 && t.s.size == 0 && entsB 0 t.es && restB t.rest t.es
  else false
/-- A tree that may be, but for its depth. -/
def okN : Nat → Tr → Bool
  | 0, _ => true
  | n + 1, t => lvB t && (if t.kind = 3 then (subs t.es).all (okN n) else true)
/-- Check's answer. -/
def chkN (n : Nat) (t : Tr) : Bool := decide (dpN n t ≤ 10) && okN n t
theorem le_foldr_max {l : List Nat} {x : Nat} (h : x ∈ l) : x ≤ l.foldr max 0 := by
  induction l with
  | nil => cases h
  | cons a l ih =>
    rcases List.mem_cons.1 h with rfl | h
    · simp only [List.foldr_cons]; exact Nat.le_max_left _ _
    · simp only [List.foldr_cons]; exact Nat.le_trans (ih h) (Nat.le_max_right _ _)
theorem foldr_max_le {l : List Nat} {b : Nat} (h : ∀ x ∈ l, x ≤ b) : l.foldr max 0 ≤ b := by
  induction l with
  | nil => simp
  | cons a l ih => simp only [List.foldr_cons]; exact Nat.max_le.2 ⟨h a (List.mem_cons_self ..), ih fun x hx => h x (List.mem_cons_of_mem _ hx)⟩
theorem foldr_max_eq {l : List Nat} {b : Nat} (h : ∀ x ∈ l, x ≤ b) (h2 : b = 0 ∨ b ∈ l) : l.foldr max 0 = b := by
  refine Nat.le_antisymm (foldr_max_le h) ?_
  rcases h2 with rfl | h2
  · exact Nat.zero_le _
  · exact le_foldr_max h2
theorem dpN_le : ∀ (n : Nat) (t : Tr), dpN n t ≤ n
  | 0, _ => Nat.le_refl _
  | n + 1, t => by
    simp only [dpN]
    split
    · have : ((subs t.es).map (dpN n)).foldr max 0 ≤ n := foldr_max_le fun x hx => by
        obtain ⟨y, _, rfl⟩ := List.mem_map.1 hx
        exact dpN_le n y
      omega
    · exact Nat.zero_le _
theorem le_sum {l : List Nat} {x : Nat} (h : x ∈ l) : x ≤ l.sum := by
  induction l with
  | nil => cases h
  | cons a l ih =>
    rcases List.mem_cons.1 h with rfl | h
    · simp
    · have := ih h; simp; omega
theorem sum_flatMap {α : Type} (f : α → List Nat) (l : List α) : (l.flatMap f).sum = (l.map fun x => (f x).sum).sum := by
  induction l with
  | nil => rfl
  | cons a l ih => simp [List.flatMap_cons, List.sum_append, ih]
theorem SmN.one {n : Nat} {t : Tr} (h : SmN n t) : 1 ≤ cntN n t := by
  cases n with
  | zero => exact h.elim
  | succ n => simp [cntN]
theorem len_le_sum {α : Type} {f : α → Nat} {l : List α} (h : ∀ x ∈ l, 1 ≤ f x) : l.length ≤ (l.map f).sum := by
  induction l with
  | nil => simp
  | cons a l ih =>
    have h1 := h a (List.mem_cons_self ..)
    have h2 := ih fun x hx => h x (List.mem_cons_of_mem _ hx)
    simp only [List.length_cons, List.map_cons, List.sum_cons]; omega
end Go.Proofs.Ytmgbhicogmclgaa
