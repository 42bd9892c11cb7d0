/- In a schema that may be, each thing is found. -/
import Derived.Test.YtomeppgmmlaibaaCkMath
namespace Go.Proofs.Ytomeppgmmlaibaa
open Go.RowKit
set_option linter.unusedVariables false
set_option linter.unusedSimpArgs false
set_option maxRecDepth 20000

theorem find_at {α β : Type} (key : α → β) {l : List α} (hn : (l.map key).Nodup) {i : Nat} {x : α} (hi : l[i]? = some x) (p : α → Bool) (hp : ∀ y, p y = true ↔ key y = key x) : l.find? p = some x := by
  induction l generalizing i with
  | nil => simp at hi
  | cons y l ih =>
    rw [List.map_cons, List.nodup_cons] at hn
    cases i with
    | zero =>
      simp at hi
      subst hi
      rw [List.find?_cons, (hp y).2 rfl]
    | succ i =>
      simp at hi
      have hne : p y = false := by
        cases hpy : p y
        · rfl
        · have := (hp y).1 hpy
          exact absurd (this ▸ List.mem_map_of_mem (List.mem_of_getElem? hi)) hn.1
      rw [List.find?_cons, hne]
      exact ih hn.2 hi
theorem find_none {α : Type} {l : List α} {p : α → Bool} (h : ∀ x ∈ l, p x = false) : l.find? p = none := by
  rw [List.find?_eq_none]
  intro x hx
  rw [h x hx]; decide
theorem ok_findM {s : ScS} (h : OkS s) {i : Nat} {m : MsS} (hi : s.msgs[i]? = some m) : (s.msgs.find? fun x => decide (x.name = m.name)) = some m :=
  find_at MsS.name h.names hi _ (fun y => by simp)
theorem ok_findMno {s : ScS} (h : OkS s) {i : Nat} {m : MsS} (hi : s.msgs[i]? = some m) : (s.enums.find? fun x => decide (x.name = m.name)) = none :=
  find_none (fun x hx => by
    rw [decide_eq_false_iff_not]
    intro e
    exact h.apart x.name (List.mem_map_of_mem hx) (e ▸ List.mem_map_of_mem (List.mem_of_getElem? hi)))
theorem ok_findE {s : ScS} (h : OkS s) {i : Nat} {m : EnS} (hi : s.enums[i]? = some m) : (s.enums.find? fun x => decide (x.name = m.name)) = some m :=
  find_at EnS.name h.enms hi _ (fun y => by simp)
theorem ok_findT {s : ScS} (h : OkS s) {i : Nat} {m : MtS} (hi : s.methods[i]? = some m) : (s.methods.find? fun x => decide (x.name = m.name)) = some m :=
  find_at MtS.name h.tns hi _ (fun y => by simp)
theorem mem_find {s : ScS} {nm : ByteArray} (h : nm ∈ s.mn) : (s.msgs.find? fun x => decide (x.name = nm)).isSome = true := by
  obtain ⟨m, h1, h2⟩ := List.mem_map.1 h
  rw [List.find?_isSome]
  exact ⟨m, h1, by simp [h2]⟩
theorem ok_in {s : ScS} (h : OkS s) {i : Nat} {m : MtS} (hi : s.methods[i]? = some m) : (s.msgs.find? fun x => decide (x.name = m.inn)).isSome = true ∧ (s.msgs.find? fun x => decide (x.name = m.out)).isSome = true :=
  ⟨mem_find (h.meths m (List.mem_of_getElem? hi)).2.1, mem_find (h.meths m (List.mem_of_getElem? hi)).2.2⟩
theorem ok_findF {s : ScS} (h : OkS s) {m : MsS} (hm : m ∈ s.msgs) {j : Nat} {f : FlS} (hj : m.fields[j]? = some f) : (m.fields.find? fun x => decide (x.tag = f.tag)) = some f ∧ memI f.tag m.reserved = false := by
  obtain ⟨_, _, _, h4, _, h6⟩ := (h.msgs m hm).2
  refine ⟨find_at FlS.tag h6 hj _ (fun y => by simp), ?_⟩
  have := (h4 f (List.mem_of_getElem? hj)).2
  simp [memI, this]
theorem ok_findR {s : ScS} (h : OkS s) {m : MsS} (hm : m ∈ s.msgs) {j : Nat} {n : Int} (hj : m.reserved[j]? = some n) : (m.fields.find? fun x => decide (x.tag = n)) = none ∧ memI n m.reserved = true := by
  obtain ⟨_, _, _, h4, _, h6⟩ := (h.msgs m hm).2
  refine ⟨find_none (fun x hx => ?_), by simp [memI, List.mem_of_getElem? hj]⟩
  rw [decide_eq_false_iff_not]
  intro e
  exact (h4 x hx).2 (e ▸ List.mem_of_getElem? hj)
end Go.Proofs.Ytomeppgmmlaibaa
