/- Readings of more than one piece, step by step; how much they leave. -/
import Derived.Test.YtfffjfccochccaaDoorIdSt
namespace Go.Proofs.YtfffjfccochccaaDoor
open Go.RowKit
set_option linter.unusedVariables false
set_option linter.unusedSimpArgs false
set_option maxRecDepth 20000

def pLab (ts : List ByteArray) : PR Int := .inr (pLabel ts)
def labV (t : ByteArray) : Int := if t.data.toList = kOptional.data.toList then 2 else if t.data.toList = kRepeated.data.toList then 3 else 1
theorem label_st (σ : Sg) : stX (pOn σ (pTake [kOptional, kRepeated])) = stX (pOn σ pLab) ∧ labV (res noT (pOn σ (pTake [kOptional, kRepeated]))) = res 1 (pOn σ pLab) := by
  cases σ with
  | inl n => exact ⟨rfl, by simp [res, pOn, labV, noT, kOptional, kRepeated]⟩
  | inr r =>
    cases r with
    | nil => simp [pOn, pTake, pLab, pLabel, pIs, stX, res, labV, noT, kOptional, kRepeated]
    | cons t r =>
      simp only [pOn, pTake, pLab, pLabel, List.any_cons, List.any_nil, is_cons]
      by_cases h : t.data.toList = kOptional.data.toList
      · rw [if_pos h]; simp [h, stX, res, labV]
      · rw [if_neg h]
        have h2 : (kOptional.data.toList == t.data.toList) = false := by rw [beq_eq_false_iff_ne]; exact fun e => h e.symm
        by_cases h3 : t.data.toList = kRepeated.data.toList
        · rw [if_pos h3]; simp [h3, stX, res, labV]; simp [kRepeated, kOptional]
        · rw [if_neg h3]
          have h4 : (kRepeated.data.toList == t.data.toList) = false := by rw [beq_eq_false_iff_ne]; exact fun e => h3 e.symm
          simp only [h2, h4, Bool.or_self, Bool.false_eq_true, if_false]
          simp [stX, res, labV, noT, kOptional, kRepeated]
def k7 (k : Int) : Int := if k = 0 then 7 else k
theorem field_st (σ : Sg) (v : NmS) (hv : Res (pOn (stX (pOn (stX (pOn σ pLab)) pType)) pValue) v) :
    stX (pOn (stX (pOn (stX (pOn σ pLab)) pType)) pValue) = stX (pOn σ pField) ∧
    Res (pOn σ pField) ⟨v.name, v.n, res 1 (pOn σ pLab), (res (0, noT) (pOn (stX (pOn σ pLab)) pType)).1, (res (0, noT) (pOn (stX (pOn σ pLab)) pType)).2⟩ := by
  cases σ with
  | inl n => first | exact ⟨rfl, Res.no⟩ | exact ⟨trivial, Res.no⟩
  | inr ts =>
    have e1 : stX (pOn (.inr ts) pLab) = .inr (pLabel ts).2 := rfl
    have e2 : res 1 (pOn (.inr ts) pLab) = (pLabel ts).1 := rfl
    rw [e1] at hv ⊢
    rw [e2]
    simp only [pOn] at hv ⊢
    unfold pField
    cases h1 : pType (pLabel ts).2 with
    | inl n => first | exact ⟨rfl, Res.no⟩ | exact ⟨trivial, Res.no⟩
    | inr x =>
      obtain ⟨ty, r1⟩ := x
      rw [h1] at hv
      simp only [stX, pBind, res, pOn, pValue] at hv ⊢
      cases h2 : pName r1 with
      | inl n => first | exact ⟨rfl, Res.no⟩ | exact ⟨trivial, Res.no⟩
      | inr x =>
        obtain ⟨nm, r2⟩ := x
        rw [h2] at hv
        simp only [pBind] at hv ⊢
        cases h3 : pMust kEq r2 with
        | inl n => first | exact ⟨rfl, Res.no⟩ | exact ⟨trivial, Res.no⟩
        | inr x =>
          obtain ⟨_, r3⟩ := x
          rw [h3] at hv
          simp only [pBind] at hv ⊢
          cases h4 : pNum r3 with
          | inl n => first | exact ⟨rfl, Res.no⟩ | exact ⟨trivial, Res.no⟩
          | inr x =>
            obtain ⟨g, r4⟩ := x
            rw [h4] at hv
            simp only [pBind] at hv ⊢
            cases h5 : pMust kSemi r4 with
            | inl n => first | exact ⟨rfl, Res.no⟩ | exact ⟨trivial, Res.no⟩
            | inr x =>
              obtain ⟨_, r5⟩ := x
              rw [h5] at hv
              simp only [pBind] at hv ⊢
              have := hv _ _ rfl
              subst this
              first | exact ⟨rfl, Res.yes⟩ | exact ⟨trivial, Res.yes⟩
/-- A name between its signs. -/
def pIn (ts : List ByteArray) : PR ByteArray := pBind (pMust kPar ts) fun _ r => pBind (pName r) fun n r => pBind (pMust kRap r) fun _ r => .inr (n, r)
theorem in_st (σ : Sg) : stX (pOn (stX (pOn (stX (pOn σ (pMust kPar))) pName)) (pMust kRap)) = stX (pOn σ pIn) ∧ Res (pOn σ pIn) (res noT (pOn (stX (pOn σ (pMust kPar))) pName)) := by
  cases σ with
  | inl n => first | exact ⟨rfl, Res.no⟩ | exact ⟨trivial, Res.no⟩
  | inr r =>
    simp only [pOn, pIn]
    cases h1 : pMust kPar r with
    | inl n => first | exact ⟨rfl, Res.no⟩ | exact ⟨trivial, Res.no⟩
    | inr x =>
      obtain ⟨_, r1⟩ := x
      simp only [stX, pBind, res]
      cases h2 : pName r1 with
      | inl n => first | exact ⟨rfl, Res.no⟩ | exact ⟨trivial, Res.no⟩
      | inr x =>
        obtain ⟨nm, r2⟩ := x
        simp only [stX, pBind, res]
        cases h3 : pMust kRap r2 with
        | inl n => first | exact ⟨rfl, Res.no⟩ | exact ⟨trivial, Res.no⟩
        | inr x => obtain ⟨_, r3⟩ := x; first | exact ⟨rfl, Res.yes⟩ | exact ⟨trivial, Res.yes⟩
theorem call_st (σ : Sg) (a b : ByteArray) (ha : Res (pOn (stX (pOn σ pName)) pIn) a) (hb : Res (pOn (stX (pOn (stX (pOn (stX (pOn σ pName)) pIn)) (pMust kReturns))) pIn) b) :
    stX (pOn (stX (pOn (stX (pOn (stX (pOn (stX (pOn σ pName)) pIn)) (pMust kReturns))) pIn)) (pMust kSemi)) = stX (pOn σ pCall) ∧ Res (pOn σ pCall) ⟨res noT (pOn σ pName), a, b⟩ := by
  cases σ with
  | inl n => first | exact ⟨rfl, Res.no⟩ | exact ⟨trivial, Res.no⟩
  | inr r =>
    simp only [pOn, pCall] at ha hb ⊢
    cases h1 : pName r with
    | inl n => first | exact ⟨rfl, Res.no⟩ | exact ⟨trivial, Res.no⟩
    | inr x =>
      obtain ⟨nm, r1⟩ := x
      rw [h1] at ha hb
      simp only [stX, pBind, res, pIn] at ha hb ⊢
      cases h2 : pMust kPar r1 with
      | inl n => first | exact ⟨rfl, Res.no⟩ | exact ⟨trivial, Res.no⟩
      | inr x =>
        obtain ⟨_, r2⟩ := x
        rw [h2] at ha hb
        simp only [stX, pBind, res] at ha hb ⊢
        cases h3 : pName r2 with
        | inl n => first | exact ⟨rfl, Res.no⟩ | exact ⟨trivial, Res.no⟩
        | inr x =>
          obtain ⟨i, r3⟩ := x
          rw [h3] at ha hb
          simp only [stX, pBind, res] at ha hb ⊢
          cases h4 : pMust kRap r3 with
          | inl n => first | exact ⟨rfl, Res.no⟩ | exact ⟨trivial, Res.no⟩
          | inr x =>
            obtain ⟨_, r4⟩ := x
            rw [h4] at ha hb
            simp only [stX, pBind, res] at ha hb ⊢
            have := ha _ _ rfl
            subst this
            cases h5 : pMust kReturns r4 with
            | inl n => first | exact ⟨rfl, Res.no⟩ | exact ⟨trivial, Res.no⟩
            | inr x =>
              obtain ⟨_, r5⟩ := x
              rw [h5] at hb
              simp only [stX, pBind, res] at hb ⊢
              cases h6 : pMust kPar r5 with
              | inl n => first | exact ⟨rfl, Res.no⟩ | exact ⟨trivial, Res.no⟩
              | inr x =>
                obtain ⟨_, r6⟩ := x
                rw [h6] at hb
                simp only [stX, pBind, res] at hb ⊢
                cases h7 : pName r6 with
                | inl n => first | exact ⟨rfl, Res.no⟩ | exact ⟨trivial, Res.no⟩
                | inr x =>
                  obtain ⟨o, r7⟩ := x
                  rw [h7] at hb
                  simp only [stX, pBind, res] at hb ⊢
                  cases h8 : pMust kRap r7 with
                  | inl n => first | exact ⟨rfl, Res.no⟩ | exact ⟨trivial, Res.no⟩
                  | inr x =>
                    obtain ⟨_, r8⟩ := x
                    rw [h8] at hb
                    simp only [stX, pBind, res] at hb ⊢
                    have := hb _ _ rfl
                    subst this
                    cases h9 : pMust kSemi r8 with
                    | inl n => first | exact ⟨rfl, Res.no⟩ | exact ⟨trivial, Res.no⟩
                    | inr x => obtain ⟨_, r9⟩ := x; first | exact ⟨rfl, Res.yes⟩ | exact ⟨trivial, Res.yes⟩

/- How much is left. -/
def LtP {α : Type} (x : PR α) (n : Nat) : Prop := ∀ a r, x = .inr (a, r) → r.length < n
def LeP {α : Type} (x : PR α) (n : Nat) : Prop := ∀ a r, x = .inr (a, r) → r.length ≤ n
theorem LtP.le {α : Type} {x : PR α} {n : Nat} (h : LtP x n) : LeP x n := fun a r e => Nat.le_of_lt (h a r e)
theorem le_inr {α : Type} (a : α) (r : List ByteArray) : LeP (.inr (a, r)) r.length := fun b r' e => by simp at e; rw [e.2]; exact Nat.le_refl _
theorem lt_bind {α β : Type} {x : PR α} {f : α → List ByteArray → PR β} {n : Nat} (h : LtP x n) (hf : ∀ a r, LeP (f a r) r.length) : LtP (pBind x f) n := by
  cases x with
  | inl k => intro a r e; cases e
  | inr x => obtain ⟨a, r⟩ := x; intro b r' e; exact Nat.lt_of_le_of_lt (hf a r b r' e) (h a r rfl)
theorem le_bind {α β : Type} {x : PR α} {f : α → List ByteArray → PR β} {n : Nat} (h : LeP x n) (hf : ∀ a r, LeP (f a r) r.length) : LeP (pBind x f) n := by
  cases x with
  | inl k => intro a r e; cases e
  | inr x => obtain ⟨a, r⟩ := x; intro b r' e; exact Nat.le_trans (hf a r b r' e) (h a r rfl)
theorem must_lt (k : ByteArray) (ts : List ByteArray) : LtP (pMust k ts) ts.length := by
  cases ts with
  | nil => intro a r e; simp [pMust, pIs] at e
  | cons t r => rw [must_cons]; intro a r' e; split at e <;> simp at e; rw [← e]; simp
theorem name_lt (ts : List ByteArray) : LtP (pName ts) ts.length := by
  cases ts with
  | nil => intro a r e; simp [pName] at e
  | cons t r => intro a r' e; unfold pName at e; simp only at e; split at e <;> simp at e; rw [← e.2]; simp
theorem num_lt (ts : List ByteArray) : LtP (pNum ts) ts.length := by
  cases ts with
  | nil => intro a r e; simp [pNum] at e
  | cons t r => intro a r' e; unfold pNum at e; simp only at e; split at e <;> simp at e; rw [← e.2]; simp
theorem type_lt (ts : List ByteArray) : LtP (pType ts) ts.length := by
  cases ts with
  | nil => intro a r e; simp [pType] at e
  | cons t r =>
    unfold pType
    simp only
    split
    · intro a r' e; simp at e; rw [← e.2]; simp
    · exact lt_bind (name_lt _) (fun a r => le_inr _ _)
theorem label_le (ts : List ByteArray) : (pLabel ts).2.length ≤ ts.length := by
  unfold pLabel
  split
  · simp
  · split <;> simp
theorem field_lt (ts : List ByteArray) : LtP (pField ts) ts.length := by
  unfold pField
  refine lt_bind (fun a r e => Nat.lt_of_lt_of_le (type_lt _ a r e) (label_le ts)) fun a r => ?_
  exact le_bind (name_lt r).le fun _ r => le_bind (must_lt _ r).le fun _ r => le_bind (num_lt r).le fun _ r => le_bind (must_lt _ r).le fun _ r => le_inr _ _
theorem more_le : ∀ (f : Nat) (acc : List Int) (ts : List ByteArray), LeP (pMore f acc ts) ts.length
  | 0, acc, ts => le_bind (must_lt _ ts).le fun _ r => le_inr _ _
  | f + 1, acc, ts => by
    unfold pMore
    split
    · have h := le_bind (x := pNum ts.tail) (f := fun n r => pMore f (acc ++ [(n : Int)]) r) (num_lt ts.tail).le fun n r => more_le f _ r
      exact fun a r e => Nat.le_trans (h a r e) (by simp)
    · exact le_bind (must_lt _ ts).le fun _ r => le_inr _ _
theorem member_lt (m : MsS) (ts : List ByteArray) : LtP (pMember m ts) ts.length := by
  unfold pMember
  split
  · have h := lt_bind (x := pNum ts.tail) (f := fun n r => pBind (pMore r.length (m.reserved ++ [(n : Int)]) r) fun l r2 => (.inr (⟨m.name, m.fields, l⟩, r2) : PR MsS)) (num_lt ts.tail) fun n r => le_bind (more_le _ _ r) fun _ r => le_inr _ _
    exact fun a r e => Nat.lt_of_lt_of_le (h a r e) (by simp)
  · exact lt_bind (field_lt ts) fun _ r => le_inr _ _
theorem members_le : ∀ (f : Nat) (m : MsS) (ts : List ByteArray), LeP (pMembers f m ts) ts.length
  | 0, m, ts => fun a r e => by cases e
  | f + 1, m, ts => by
    unfold pMembers
    split
    · intro a r e; simp at e; rw [← e.2]; simp
    · exact le_bind (member_lt m ts).le fun m' r => members_le f m' r
theorem msg_lt (ts : List ByteArray) : LtP (pMsg ts) ts.length := by
  unfold pMsg
  exact lt_bind (name_lt ts) fun _ r => le_bind (must_lt _ r).le fun _ r => members_le _ _ r
theorem value_lt (ts : List ByteArray) : LtP (pValue ts) ts.length := by
  unfold pValue
  exact lt_bind (name_lt ts) fun _ r => le_bind (must_lt _ r).le fun _ r => le_bind (num_lt r).le fun _ r => le_bind (must_lt _ r).le fun _ r => le_inr _ _
theorem values_le : ∀ (f : Nat) (m : EnS) (ts : List ByteArray), LeP (pValues f m ts) ts.length
  | 0, m, ts => fun a r e => by cases e
  | f + 1, m, ts => by
    unfold pValues
    split
    · intro a r e; simp at e; rw [← e.2]; simp
    · exact le_bind (value_lt ts).le fun m' r => values_le f _ r
theorem enum_lt (ts : List ByteArray) : LtP (pEnum ts) ts.length := by
  unfold pEnum
  exact lt_bind (name_lt ts) fun _ r => le_bind (must_lt _ r).le fun _ r => values_le _ _ r
theorem call_lt (ts : List ByteArray) : LtP (pCall ts) ts.length := by
  unfold pCall
  exact lt_bind (name_lt ts) fun _ r => le_bind (must_lt _ r).le fun _ r => le_bind (name_lt r).le fun _ r => le_bind (must_lt _ r).le fun _ r => le_bind (must_lt _ r).le fun _ r => le_bind (must_lt _ r).le fun _ r => le_bind (name_lt r).le fun _ r => le_bind (must_lt _ r).le fun _ r => le_bind (must_lt _ r).le fun _ r => le_inr _ _
theorem decl_lt (s : ScS) (ts : List ByteArray) : LtP (pDecl s ts) ts.length := by
  unfold pDecl
  split
  · exact fun a r e => Nat.lt_of_lt_of_le (lt_bind (msg_lt ts.tail) (fun _ r => le_inr _ _) a r e) (by simp)
  · split
    · exact fun a r e => Nat.lt_of_lt_of_le (lt_bind (enum_lt ts.tail) (fun _ r => le_inr _ _) a r e) (by simp)
    · split
      · exact fun a r e => Nat.lt_of_lt_of_le (lt_bind (call_lt ts.tail) (fun _ r => le_inr _ _) a r e) (by simp)
      · intro a r e; cases e
theorem bind_congr {α β : Type} {x : PR α} {f f' : α → List ByteArray → PR β} (h : ∀ a r, x = .inr (a, r) → f a r = f' a r) : pBind x f = pBind x f' := by
  cases x with
  | inl n => rfl
  | inr x => obtain ⟨a, r⟩ := x; exact h a r rfl
/-- More rounds than there are pieces make no odds. -/
theorem more_fuel : ∀ (f : Nat) (acc : List Int) (ts : List ByteArray), ts.length ≤ f → pMore f acc ts = pMore ts.length acc ts
  | 0, acc, ts, h => by rw [Nat.le_zero.1 h]
  | f + 1, acc, [], h => by simp [pMore, pIs]
  | f + 1, acc, t :: r, h => by
    simp only [List.length_cons, pMore, List.tail_cons]
    split
    · exact bind_congr fun n r' e => by
        have := num_lt r _ _ e
        simp only [List.length_cons] at h
        rw [more_fuel f _ r' (by omega), more_fuel r.length _ r' (by omega)]
    · rfl
theorem members_fuel : ∀ (f : Nat) (m : MsS) (ts : List ByteArray), ts.length + 1 ≤ f → pMembers f m ts = pMembers (ts.length + 1) m ts
  | 0, m, ts, h => by omega
  | f + 1, m, ts, h => by
    simp only [pMembers]
    split
    · rfl
    · exact bind_congr fun n r' e => by
        have := member_lt m ts _ _ e
        cases hl : ts.length with
        | zero => omega
        | succ k => rw [members_fuel f _ r' (by omega), members_fuel (k + 1) _ r' (by omega)]
theorem values_fuel : ∀ (f : Nat) (m : EnS) (ts : List ByteArray), ts.length + 1 ≤ f → pValues f m ts = pValues (ts.length + 1) m ts
  | 0, m, ts, h => by omega
  | f + 1, m, ts, h => by
    simp only [pValues]
    split
    · rfl
    · exact bind_congr fun n r' e => by
        have := value_lt ts _ _ e
        cases hl : ts.length with
        | zero => omega
        | succ k => rw [values_fuel f _ r' (by omega), values_fuel (k + 1) _ r' (by omega)]
theorem decls_fuel : ∀ (f : Nat) (s : ScS) (ts : List ByteArray), ts.length ≤ f → pDecls f s ts = pDecls ts.length s ts
  | 0, s, ts, h => by rw [Nat.le_zero.1 h]
  | f + 1, s, [], h => by simp [pDecls]
  | f + 1, s, t :: r, h => by
    simp only [List.length_cons, pDecls, List.isEmpty_cons, Bool.false_eq_true, if_false]
    exact bind_congr fun n r' e => by
      have := decl_lt s (t :: r) _ _ e
      simp only [List.length_cons] at h this
      rw [decls_fuel f _ r' (by omega), decls_fuel r.length _ r' (by omega)]
end Go.Proofs.YtfffjfccochccaaDoor
