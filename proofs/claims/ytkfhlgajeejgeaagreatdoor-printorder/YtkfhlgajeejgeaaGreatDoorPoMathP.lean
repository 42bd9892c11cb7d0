/- Fields, reserved numbers, values in another order: the same schema in order. -/
import Derived.Test.YtkfhlgajeejgeaaGreatDoorPkE
import Derived.Test.YtkfhlgajeejgeaaGreatDoorPkA
import Derived.Test.YtkfhlgajeejgeaaGreatDoorPkC
namespace Go.Proofs.YtkfhlgajeejgeaaGreatDoor
set_option linter.unusedVariables false
set_option linter.unusedSimpArgs false

def revM (m : MsS) : MsS := ⟨m.name, m.fields.reverse, m.reserved.reverse⟩
def revE (e : EnS) : EnS := ⟨e.name, e.values.reverse⟩
def revS (s : ScS) : ScS := ⟨s.name, s.msgs.map revM, s.enums.map revE, s.methods⟩
/-- The first k of l stand at the end of m, turned about. -/
def RevTo {α : Type} (l : List α) (k : Nat) (m : List α) : Prop := m.length = l.length ∧ ∀ j, j < k → m[l.length - 1 - j]? = l[j]?
theorem RevTo.zero {α : Type} (l : List α) : RevTo l 0 l := ⟨rfl, fun j hj => absurd hj (Nat.not_lt_zero _)⟩
theorem RevTo.step {α : Type} {l m : List α} {k : Nat} {x : α} (h : RevTo l k m) (hx : l[k]? = some x) : RevTo l (k + 1) (m.set (l.length - 1 - k) x) := by
  have hk := (List.getElem?_eq_some_iff.1 hx).1
  refine ⟨by rw [List.length_set]; exact h.1, fun j hj => ?_⟩
  by_cases e : j = k
  · subst e
    rw [List.getElem?_set_self (by rw [h.1]; omega), hx]
  · rw [List.getElem?_set_ne (by omega)]
    exact h.2 j (by omega)
theorem RevTo.all {α : Type} {l m : List α} (h : RevTo l l.length m) : m = l.reverse := by
  apply List.ext_getElem?
  intro i
  rcases Nat.lt_or_ge i l.length with hi | hi
  · have := h.2 (l.length - 1 - i) (by omega)
    rw [show l.length - 1 - (l.length - 1 - i) = i by omega] at this
    rw [this, List.getElem?_reverse hi]
  · rw [List.getElem?_eq_none (by rw [h.1]; exact hi), List.getElem?_eq_none (by simpa using hi)]
/-- The first i are turned by f, the others as they were. -/
def Half {α : Type} (f : α → α) (l : List α) (i : Nat) (m : List α) : Prop := m.length = l.length ∧ (∀ j, j < i → m[j]? = (l[j]?).map f) ∧ ∀ j, i ≤ j → m[j]? = l[j]?
theorem Half.zero {α : Type} (f : α → α) (l : List α) : Half f l 0 l := ⟨rfl, fun j hj => absurd hj (Nat.not_lt_zero _), fun _ _ => rfl⟩
theorem Half.step {α : Type} {f : α → α} {l m : List α} {i : Nat} {x : α} (h : Half f l i m) (hx : l[i]? = some x) : Half f l (i + 1) (m.set i (f x)) := by
  have hi := (List.getElem?_eq_some_iff.1 hx).1
  refine ⟨by rw [List.length_set]; exact h.1, fun j hj => ?_, fun j hj => ?_⟩
  · by_cases e : i = j
    · subst e
      rw [List.getElem?_set_self (by rw [h.1]; exact hi), hx]; rfl
    · rw [List.getElem?_set_ne e]
      exact h.2.1 j (by omega)
  · rw [List.getElem?_set_ne (by omega)]
    exact h.2.2 j (by omega)
theorem Half.all {α : Type} {f : α → α} {l m : List α} (h : Half f l l.length m) : m = l.map f := by
  apply List.ext_getElem?
  intro j
  rw [List.getElem?_map]
  rcases Nat.lt_or_ge j l.length with hj | hj
  · exact h.2.1 j hj
  · rw [List.getElem?_eq_none (by rw [h.1]; exact hj), List.getElem?_eq_none hj]; rfl
theorem ok_vs {e : EnS} (h : chkEb e = 0) : e.values.length ≤ 16 ∧ zeroE e = true ∧ (∀ v ∈ e.values, nameB v.name = true ∧ numR v.n = true) ∧ (e.values.map NmS.name).Nodup ∧ (e.values.map NmS.n).Nodup := by
  unfold chkEb at h
  by_cases hl : 16 < e.values.length
  · rw [if_pos hl] at h; cases h
  · rw [if_neg hl] at h
    cases hz : zeroE e
    · rw [hz, if_pos rfl] at h; cases h
    · rw [hz, if_neg (by decide)] at h
      obtain ⟨h1, h2, h3⟩ := (chkVs_ok _ _ _).1 h
      exact ⟨by omega, rfl, fun v hv => ⟨(h1 v hv).1, (h1 v hv).2.2.1⟩, h2, h3⟩
theorem ok_numbers {e : EnS} (h : chkEb e = 0) : (e.values.map NmS.n).Nodup := (ok_vs h).2.2.2.2
theorem nodup_rev {α : Type} {l : List α} (h : l.Nodup) : l.reverse.Nodup := (List.reverse_perm l).nodup_iff.2 h
theorem canon_rev {s : ScS} (h : OkS s) : canonS (revS s) = canonS s := by
  obtain ⟨n, ms, es, ts⟩ := s
  simp only [canonS, revS, List.map_map, ScS.mk.injEq, true_and, and_true]
  constructor
  · apply List.map_congr_left
    intro m hm
    have hk := (h.msgs m hm).2
    simp only [Function.comp, canonM, revM, MsS.mk.injEq, true_and]
    exact ⟨srtF_perm FlS.tag (List.reverse_perm _) (by rw [List.map_reverse]; exact nodup_rev hk.2.2.2.2.2), srtF_perm (fun x => x) (List.reverse_perm _) (by rw [show (fun x : Int => x) = id from rfl, List.map_id]; exact nodup_rev hk.2.2.1)⟩
  · apply List.map_congr_left
    intro m hm
    have hk := (h.enums m hm).2
    simp only [Function.comp, canonE, revE, EnS.mk.injEq, true_and]
    refine srtF_perm NmS.n (List.reverse_perm _) ?_
    rw [List.map_reverse]
    exact nodup_rev (ok_numbers hk)
theorem few_rev {s : ScS} (h : FewL s) : FewL (revS s) := by
  refine ⟨by simpa [revS] using h.msgs, by simpa [revS] using h.enums, h.meths, fun m hm => ?_, fun e he => ?_⟩
  · obtain ⟨m', hm', rfl⟩ := List.mem_map.1 hm
    have := h.flds m' hm'
    exact ⟨by simpa [revM] using this.1, by simpa [revM] using this.2⟩
  · obtain ⟨m', hm', rfl⟩ := List.mem_map.1 he
    have := h.vals m' hm'
    simpa [revE] using this
theorem scW_rev {s : ScS} (h : ScW s) : ScW (revS s) := by
  refine ⟨h.name, fun m hm => ?_, fun e he => ?_, h.meths⟩
  · obtain ⟨m', hm', rfl⟩ := List.mem_map.1 hm
    have := h.msgs m' hm'
    exact ⟨this.1, fun f hf => this.2.1 f (List.mem_reverse.1 hf), fun n hn => this.2.2 n (List.mem_reverse.1 hn)⟩
  · obtain ⟨m', hm', rfl⟩ := List.mem_map.1 he
    have := h.enums m' hm'
    exact ⟨this.1, fun f hf => this.2 f (List.mem_reverse.1 hf)⟩
end Go.Proofs.YtkfhlgajeejgeaaGreatDoor
