/- What a schema that was read is like: names that may be, kinds that are known; which name is an enumeration's. -/
import Derived.Test.YtfffjfccochccaaDoorIdOwn
import Derived.Test.YtfffjfccochccaaDoorIdUse
namespace Go.Proofs.YtfffjfccochccaaDoor
open Go.ChangeShapes Go.WideShapes Go.ChangeAt Go.RowKit
set_option linter.unusedVariables false
set_option linter.unusedSimpArgs false
set_option maxRecDepth 20000

def GoodF (f : FlS) : Prop := (f.kind = 0 ∧ nameK f.tname.data.toList = true) ∨ (f.kind ≠ 0 ∧ f.tname = noT)
def GoodM (m : MsS) : Prop := ∀ f ∈ m.fields, GoodF f
def GoodS (s : ScS) : Prop := (∀ m ∈ s.msgs, GoodM m) ∧ ∀ e ∈ s.enums, nameK e.name.data.toList = true
theorem type_good {ts r : List ByteArray} {x : Int × ByteArray} (h : pType ts = .inr (x, r)) : (x.1 = 0 ∧ nameK x.2.data.toList = true) ∨ (x.1 ≠ 0 ∧ x.2 = noT) := by
  cases ts with
  | nil => simp [pType] at h
  | cons t r' =>
    unfold pType at h
    simp only at h
    split at h
    · rename_i hs
      simp only [Sum.inr.injEq, Prod.mk.injEq] at h
      right
      rw [← h.1]
      exact ⟨by simp only; omega, rfl⟩
    · obtain ⟨a, r1, h1, h2⟩ := pBind_inr h
      simp only [Sum.inr.injEq, Prod.mk.injEq] at h2
      left
      rw [← h2.1]
      exact ⟨rfl, pName_inr h1⟩
theorem field_good {ts r : List ByteArray} {f : FlS} (h : pField ts = .inr (f, r)) : GoodF f := by
  unfold pField at h
  obtain ⟨ty, r1, h1, h⟩ := pBind_inr h
  obtain ⟨n, r2, _, h⟩ := pBind_inr h
  obtain ⟨_, r3, _, h⟩ := pBind_inr h
  obtain ⟨g, r4, _, h⟩ := pBind_inr h
  obtain ⟨_, r5, _, h⟩ := pBind_inr h
  simp only [Sum.inr.injEq, Prod.mk.injEq] at h
  rw [← h.1]
  exact type_good h1
theorem member_good {m m' : MsS} {ts r : List ByteArray} (h : pMember m ts = .inr (m', r)) (hm : GoodM m) : GoodM m' := by
  unfold pMember at h
  split at h
  · obtain ⟨n, r1, _, h⟩ := pBind_inr h
    obtain ⟨l, r2, _, h⟩ := pBind_inr h
    simp only [Sum.inr.injEq, Prod.mk.injEq] at h
    rw [← h.1]; exact hm
  · obtain ⟨f, r1, h1, h⟩ := pBind_inr h
    simp only [Sum.inr.injEq, Prod.mk.injEq] at h
    rw [← h.1]
    intro x hx
    simp only [List.mem_append, List.mem_singleton] at hx
    rcases hx with hx | rfl
    · exact hm x hx
    · exact field_good h1
theorem members_good (f : Nat) : ∀ {m m' : MsS} {ts r : List ByteArray}, pMembers f m ts = .inr (m', r) → GoodM m → GoodM m' := by
  induction f with
  | zero => intro m m' ts r h; simp [pMembers] at h
  | succ f ih =>
    intro m m' ts r h hm
    simp only [pMembers] at h
    split at h
    · simp only [Sum.inr.injEq, Prod.mk.injEq] at h
      rw [← h.1]; exact hm
    · obtain ⟨m1, r1, h1, h2⟩ := pBind_inr h
      exact ih h2 (member_good h1 hm)
theorem msg_good {ts r : List ByteArray} {m : MsS} (h : pMsg ts = .inr (m, r)) : GoodM m := by
  unfold pMsg at h
  obtain ⟨n, r1, _, h⟩ := pBind_inr h
  obtain ⟨_, r2, _, h⟩ := pBind_inr h
  exact members_good _ h (fun f hf => by simp at hf)
theorem values_name (f : Nat) : ∀ {m m' : EnS} {ts r : List ByteArray}, pValues f m ts = .inr (m', r) → m'.name = m.name := by
  induction f with
  | zero => intro m m' ts r h; simp [pValues] at h
  | succ f ih =>
    intro m m' ts r h
    simp only [pValues] at h
    split at h
    · simp only [Sum.inr.injEq, Prod.mk.injEq] at h
      rw [← h.1]
    · obtain ⟨m1, r1, h1, h2⟩ := pBind_inr h
      exact ih (m := ⟨m.name, m.values ++ [m1]⟩) h2
theorem enum_good {ts r : List ByteArray} {m : EnS} (h : pEnum ts = .inr (m, r)) : nameK m.name.data.toList = true := by
  unfold pEnum at h
  obtain ⟨n, r1, h1, h⟩ := pBind_inr h
  obtain ⟨_, r2, _, h⟩ := pBind_inr h
  rw [values_name _ h]
  exact pName_inr h1
theorem decl_good {s s' : ScS} {ts r : List ByteArray} (h : pDecl s ts = .inr (s', r)) (hs : GoodS s) : GoodS s' := by
  unfold pDecl at h
  split at h
  · obtain ⟨m, r', h1, h2⟩ := pBind_inr h
    simp only [Sum.inr.injEq, Prod.mk.injEq] at h2
    rw [← h2.1]
    refine ⟨fun x hx => ?_, hs.2⟩
    simp only [List.mem_append, List.mem_singleton] at hx
    rcases hx with hx | rfl
    · exact hs.1 x hx
    · exact msg_good h1
  · split at h
    · obtain ⟨m, r', h1, h2⟩ := pBind_inr h
      simp only [Sum.inr.injEq, Prod.mk.injEq] at h2
      rw [← h2.1]
      refine ⟨hs.1, fun x hx => ?_⟩
      simp only [List.mem_append, List.mem_singleton] at hx
      rcases hx with hx | rfl
      · exact hs.2 x hx
      · exact enum_good h1
    · split at h
      · obtain ⟨m, r', _, h2⟩ := pBind_inr h
        simp only [Sum.inr.injEq, Prod.mk.injEq] at h2
        rw [← h2.1]
        exact hs
      · cases h
theorem decls_good (f : Nat) : ∀ {s s' : ScS} {ts r : List ByteArray}, pDecls f s ts = .inr (s', r) → GoodS s → GoodS s' := by
  induction f with
  | zero =>
    intro s s' ts r h hs
    simp only [pDecls, Sum.inr.injEq, Prod.mk.injEq] at h
    rw [← h.1]; exact hs
  | succ f ih =>
    intro s s' ts r h hs
    simp only [pDecls] at h
    split at h
    · simp only [Sum.inr.injEq, Prod.mk.injEq] at h
      rw [← h.1]; exact hs
    · obtain ⟨s1, r1, h1, h2⟩ := pBind_inr h
      exact ih h2 (decl_good h1 hs)
theorem text_good {sc : ScS} {ts r : List ByteArray} (h : pText ts = .inr (sc, r)) : GoodS sc := by
  unfold pText at h
  obtain ⟨_, r1, _, h⟩ := pBind_inr h
  obtain ⟨n, r2, hn, h⟩ := pBind_inr h
  obtain ⟨_, r3, _, h⟩ := pBind_inr h
  exact decls_good _ h ⟨fun m hm => by simp at hm, fun m hm => by simp at hm⟩
/-- A name's bytes. -/
theorem runesOf_ge (f : Nat) : ∀ l : List UInt8, l.length ≤ f → ∀ rs, runesOf l = some rs → l.length ≤ 4 * rs.length := by
  induction f with
  | zero =>
    intro l hl rs h
    omega
  | succ f ih =>
    intro l hl rs h
    match l with
    | [] => simp
    | a :: r =>
      cases e : nxL (a :: r) with
      | none => rw [runesOf_bad (by simp) e] at h; cases h
      | some x =>
        obtain ⟨c, k⟩ := x
        obtain ⟨_, _, _, h4, h5, hk, _⟩ := nxL_some _ _ _ e
        rw [runesOf_step e] at h
        cases e2 : runesOf ((a :: r).drop k) with
        | none => rw [e2] at h; cases h
        | some rs' =>
          rw [e2] at h
          simp at h; subst h
          have := ih _ (by simp at hl h5 ⊢; omega) _ e2
          rw [List.length_drop] at this
          simp only [List.length_cons] at this h5 ⊢
          omega
theorem name_size {t : ByteArray} (h : nameK t.data.toList = true) : t.size ≤ 80 := by
  unfold nameK at h
  simp only [Bool.and_eq_true, decide_eq_true_eq] at h
  have hc := h.1.1
  unfold countN at hc
  rw [← len_data]
  cases e : runesOf t.data.toList with
  | none => rw [e] at hc; simp at hc
  | some rs =>
    rw [e] at hc
    simp only [Option.getD_some] at hc
    have := runesOf_ge _ _ (Nat.le_refl _) _ e
    omega
/-- The kind of a field, once the enumerations are known. -/
def setF (es : List EnS) (f : FlS) : FlS := if es.any (fun e => e.name.data.toList == f.tname.data.toList) = true then ⟨f.name, f.tag, f.label, 6, f.tname⟩ else f
def setM (es : List EnS) (m : MsS) : MsS := ⟨m.name, m.fields.map (setF es), m.reserved⟩
theorem nameK_noT : nameK noT.data.toList = false := by decide +kernel
theorem set_kind {es : List EnS} {f : FlS} (hf : GoodF f) (he : ∀ e ∈ es, nameK e.name.data.toList = true) : setF es (pre7 f) = kindF es f := by
  unfold setF kindF pre7
  rcases hf with ⟨h1, h2⟩ | ⟨h1, h2⟩
  · rw [if_pos h1]
    simp only [h1, k7, if_true]
    split <;> rfl
  · rw [if_neg h1]
    have : es.any (fun e => e.name.data.toList == f.tname.data.toList) = false := by
      rw [List.any_eq_false]
      intro e hm hc
      rw [h2, beq_iff_eq] at hc
      have := he e hm
      rw [hc, nameK_noT] at this
      cases this
    rw [this]
    simp only [Bool.false_eq_true, if_false, k7, if_neg h1]
theorem set_kinds {s : ScS} (h : GoodS s) : (s.msgs.map preM).map (setM s.enums) = s.msgs.map (kindM s.enums) := by
  rw [List.map_map]
  apply List.map_congr_left
  intro m hm
  show setM s.enums (preM m) = kindM s.enums m
  unfold setM preM kindM
  simp only [List.map_map, MsS.mk.injEq, true_and, and_true]
  apply List.map_congr_left
  intro f hf
  exact set_kind (h.1 m hm f hf) h.2
end Go.Proofs.YtfffjfccochccaaDoor
