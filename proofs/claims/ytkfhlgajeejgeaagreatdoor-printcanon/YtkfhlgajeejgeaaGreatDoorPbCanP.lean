/- In order, a schema is as right as it was. -/
import Derived.Test.YtkfhlgajeejgeaaGreatDoorPkE
import Derived.Test.YtkfhlgajeejgeaaGreatDoorPkA
namespace Go.Proofs.YtkfhlgajeejgeaaGreatDoor
set_option linter.unusedVariables false
set_option linter.unusedSimpArgs false

theorem srtF_per {α : Type} (key : α → Int) : ∀ l : List α, (srtF key l).Perm l := by
  intro l
  unfold srtF
  have ins : ∀ (x : α) (m : List α), (insK key x m).Perm (x :: m) := by
    intro x m
    induction m with
    | nil => exact List.Perm.refl _
    | cons y m ih =>
      unfold insK
      split
      · exact List.Perm.refl _
      · exact (ih.cons y).trans (List.Perm.swap x y m)
  have fold : ∀ (l m : List α), (l.foldl (fun m x => insK key x m) m).Perm (m ++ l) := by
    intro l
    induction l with
    | nil => intro m; simp
    | cons x l ih =>
      intro m
      refine (ih _).trans ?_
      refine ((ins x m).append_right l).trans ?_
      rw [List.cons_append]
      exact List.perm_middle.symm
  simpa using fold l []
theorem canon_mn (s : ScS) : (canonS s).mn = s.mn := by simp [canonS, ScS.mn, canonM, Function.comp_def]
theorem canon_en (s : ScS) : (canonS s).en = s.en := by simp [canonS, ScS.en, canonE, Function.comp_def]
theorem msgOk_canon (mn en : List ByteArray) (m : MsS) : msgOk mn en (canonM m) ↔ msgOk mn en m := by
  have p1 := srtF_per FlS.tag m.fields
  have p2 := srtF_per (fun x : Int => x) m.reserved
  unfold msgOk canonM bigM
  simp only
  rw [srtF_len, srtF_len, p2.nodup_iff, (p1.map FlS.name).nodup_iff, (p1.map FlS.tag).nodup_iff]
  simp only [srtF_mem]
theorem chkEb_iff (e : EnS) : chkEb e = 0 ↔ e.values.length ≤ 16 ∧ zeroE e = true ∧ (∀ v ∈ e.values, nameB v.name = true ∧ numR v.n = true) ∧ (e.values.map NmS.name).Nodup ∧ (e.values.map NmS.n).Nodup := by
  unfold chkEb
  by_cases h : 16 < e.values.length
  · rw [if_pos h]
    constructor
    · intro h; cases h
    · rintro ⟨h1, _⟩; omega
  · rw [if_neg h]
    cases hz : zeroE e
    · rw [if_pos rfl]
      constructor
      · intro h; cases h
      · rintro ⟨_, h1, _⟩; cases h1
    · rw [if_neg (by decide), chkVs_ok]
      simp only [List.not_mem_nil, not_false_eq_true, and_true, true_and]
      constructor
      · rintro ⟨h1, h2⟩; exact ⟨by omega, h1, h2⟩
      · rintro ⟨_, h1, h2⟩; exact ⟨h1, h2⟩
theorem chkEb_canon (e : EnS) : chkEb (canonE e) = 0 ↔ chkEb e = 0 := by
  have p1 := srtF_per NmS.n e.values
  have hz : zeroE (canonE e) = zeroE e := by
    unfold zeroE canonE
    rw [Bool.eq_iff_iff, List.any_eq_true, List.any_eq_true]
    simp only [srtF_mem]
  rw [chkEb_iff, chkEb_iff, hz]
  unfold canonE
  simp only
  rw [srtF_len, (p1.map NmS.name).nodup_iff, (p1.map NmS.n).nodup_iff]
  simp only [srtF_mem]
theorem ok_canon (s : ScS) : OkS (canonS s) ↔ OkS s := by
  have big : bigS (canonS s) = bigS s := by simp [bigS, canonS]
  have name : (canonS s).name = s.name := rfl
  have tn : (canonS s).tn = s.tn := rfl
  have meths : (canonS s).methods = s.methods := rfl
  have some : (canonS s).msgs.length = s.msgs.length := by simp [canonS]
  have ms : (∀ m ∈ (canonS s).msgs, nameB m.name = true ∧ msgOk s.mn s.en m) ↔ ∀ m ∈ s.msgs, nameB m.name = true ∧ msgOk s.mn s.en m := by
    simp only [canonS, List.forall_mem_map, msgOk_canon]
    exact Iff.rfl
  have es : (∀ m ∈ (canonS s).enums, nameB m.name = true ∧ chkEb m = 0) ↔ ∀ m ∈ s.enums, nameB m.name = true ∧ chkEb m = 0 := by
    simp only [canonS, List.forall_mem_map, chkEb_canon]
    exact Iff.rfl
  constructor
  · intro h
    have e1 := h.msgs
    have e2 := h.meths
    have e3 := h.names
    have e4 := h.enms
    have e5 := h.apart
    rw [canon_mn] at e1 e2 e3 e5
    rw [canon_en] at e1 e4 e5
    exact ⟨h.name, some ▸ h.some, big ▸ h.big, ms.1 e1, es.1 h.enums, e2, e3, e4, e5, h.tns⟩
  · intro h
    have e1 := ms.2 h.msgs
    refine ⟨h.name, by rw [some]; exact h.some, by rw [big]; exact h.big, by rw [canon_mn, canon_en]; exact e1, es.2 h.enums, by rw [canon_mn]; exact h.meths, by rw [canon_mn]; exact h.names, by rw [canon_en]; exact h.enms, by rw [canon_mn, canon_en]; exact h.apart, h.tns⟩
theorem check_canon (s : ScS) : checkA (canonS s) = 0 ↔ checkA s = 0 := by rw [checkA_ok, checkA_ok, ok_canon]
end Go.Proofs.YtkfhlgajeejgeaaGreatDoor
