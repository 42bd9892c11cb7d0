/- Readings of more than one piece, step by step; how much they leave. -/
import Derived.BigQuiet
import Derived.Maps.AppendAt
import Derived.Test.YtkfhlgajeejgeaaGreatDoorPkL
import Derived.Test.YtkfhlgajeejgeaaGreatDoorPkA
import Derived.Test.YtkfhlgajeejgeaaGreatDoorPkB
import Derived.Test.YtkfhlgajeejgeaaGreatDoorPkC
namespace Go.Proofs.YtkfhlgajeejgeaaGreatDoor
open Go.RowKit
set_option linter.unusedVariables false
set_option linter.unusedSimpArgs false
set_option maxRecDepth 20000

def pLab (ts : List ByteArray) : PR Int := .inr (pLabel ts)
def labV (t : ByteArray) : Int := if t.data.toList = kOptional.data.toList then 2 else if t.data.toList = kRepeated.data.toList then 3 else 1
theorem label_st (σ : Sg) : stX (pOn σ (pTake [kOptional, kRepeated])) = stX (pOn σ pLab) ∧ labV (res noT (pOn σ (pTake [kOptional, kRepeated]))) = res 1 (pOn σ pLab) := by
  cases σ with
  | inl n => exact ⟨rfl, by simp [res, pOn, labV, noT, kOptional, kRepeated]⟩
  | inr r =>
    cases r with
    | nil => simp [pOn, pTake, pLab, pLabel, pIs, stX, res, labV, noT, kOptional, kRepeated]
    | cons t r =>
      simp only [pOn, pTake, pLab, pLabel, List.any_cons, List.any_nil, is_cons]
      by_cases h : t.data.toList = kOptional.data.toList
      · rw [if_pos h]; simp [h, stX, res, labV]
      · rw [if_neg h]
        have h2 : (kOptional.data.toList == t.data.toList) = false := by rw [beq_eq_false_iff_ne]; exact fun e => h e.symm
        by_cases h3 : t.data.toList = kRepeated.data.toList
        · rw [if_pos h3]; simp [h3, stX, res, labV]; simp [kRepeated, kOptional]
        · rw [if_neg h3]
          have h4 : (kRepeated.data.toList == t.data.toList) = false := by rw [beq_eq_false_iff_ne]; exact fun e => h3 e.symm
          simp only [h2, h4, Bool.or_self, Bool.false_eq_true, if_false]
          simp [stX, res, labV, noT, kOptional, kRepeated]
def k7 (k : Int) : Int := if k = 0 then 7 else k
theorem field_st (σ : Sg) (v : NmS) (hv : Res (pOn (stX (pOn (stX (pOn σ pLab)) pType)) pValue) v) :
    stX (pOn (stX (pOn (stX (pOn σ pLab)) pType)) pValue) = stX (pOn σ pField) ∧
    Res (pOn σ pField) ⟨v.name, v.n, res 1 (pOn σ pLab), (res (0, noT) (pOn (stX (pOn σ pLab)) pType)).1, (res (0, noT) (pOn (stX (pOn σ pLab)) pType)).2⟩ := by
  cases σ with
  | inl n => first | exact ⟨rfl, Res.no⟩ | exact ⟨trivial, Res.no⟩
  | inr ts =>
    have e1 : stX (pOn (.inr ts) pLab) = .inr (pLabel ts).2 := rfl
    have e2 : res 1 (pOn (.inr ts) pLab) = (pLabel ts).1 := rfl
    rw [e1] at hv ⊢
    rw [e2]
    simp only [pOn] at hv ⊢
    unfold pField
    cases h1 : pType (pLabel ts).2 with
    | inl n => first | exact ⟨rfl, Res.no⟩ | exact ⟨trivial, Res.no⟩
    | inr x =>
      obtain ⟨ty, r1⟩ := x
      rw [h1] at hv
      simp only [stX, pBind, res, pOn, pValue] at hv ⊢
      cases h2 : pName r1 with
      | inl n => first | exact ⟨rfl, Res.no⟩ | exact ⟨trivial, Res.no⟩
      | inr x =>
        obtain ⟨nm, r2⟩ := x
        rw [h2] at hv
        simp only [pBind] at hv ⊢
        cases h3 : pMust kEq r2 with
        | inl n => first | exact ⟨rfl, Res.no⟩ | exact ⟨trivial, Res.no⟩
        | inr x =>
          obtain ⟨_, r3⟩ := x
          rw [h3] at hv
          simp only [pBind] at hv ⊢
          cases h4 : pNum r3 with
          | inl n => first | exact ⟨rfl, Res.no⟩ | exact ⟨trivial, Res.no⟩
          | inr x =>
            obtain ⟨g, r4⟩ := x
            rw [h4] at hv
            simp only [pBind] at hv ⊢
            cases h5 : pMust kSemi r4 with
            | inl n => first | exact ⟨rfl, Res.no⟩ | exact ⟨trivial, Res.no⟩
            | inr x =>
              obtain ⟨_, r5⟩ := x
              rw [h5] at hv
              simp only [pBind] at hv ⊢
              have := hv _ _ rfl
              subst this
              first | exact ⟨rfl, Res.yes⟩ | exact ⟨trivial, Res.yes⟩
/-- A name between its signs. -/
def pIn (ts : List ByteArray) : PR ByteArray := pBind (pMust kPar ts) fun _ r => pBind (pName r) fun n r => pBind (pMust kRap r) fun _ r => .inr (n, r)
theorem in_st (σ : Sg) : stX (pOn (stX (pOn (stX (pOn σ (pMust kPar))) pName)) (pMust kRap)) = stX (pOn σ pIn) ∧ Res (pOn σ pIn) (res noT (pOn (stX (pOn σ (pMust kPar))) pName)) := by
  cases σ with
  | inl n => first | exact ⟨rfl, Res.no⟩ | exact ⟨trivial, Res.no⟩
  | inr r =>
    simp only [pOn, pIn]
    cases h1 : pMust kPar r with
    | inl n => first | exact ⟨rfl, Res.no⟩ | exact ⟨trivial, Res.no⟩
    | inr x =>
      obtain ⟨_, r1⟩ := x
      simp only [stX, pBind, res]
      cases h2 : pName r1 with
      | inl n => first | exact ⟨rfl, Res.no⟩ | exact ⟨trivial, Res.no⟩
      | inr x =>
        obtain ⟨nm, r2⟩ := x
        simp only [stX, pBind, res]
        cases h3 : pMust kRap r2 with
        | inl n => first | exact ⟨rfl, Res.no⟩ | exact ⟨trivial, Res.no⟩
        | inr x => obtain ⟨_, r3⟩ := x; first | exact ⟨rfl, Res.yes⟩ | exact ⟨trivial, Res.yes⟩
theorem call_st (σ : Sg) (a b : ByteArray) (ha : Res (pOn (stX (pOn σ pName)) pIn) a) (hb : Res (pOn (stX (pOn (stX (pOn (stX (pOn σ pName)) pIn)) (pMust kReturns))) pIn) b) :
    stX (pOn (stX (pOn (stX (pOn (stX (pOn (stX (pOn σ pName)) pIn)) (pMust kReturns))) pIn)) (pMust kSemi)) = stX (pOn σ pCall) ∧ Res (pOn σ pCall) ⟨res noT (pOn σ pName), a, b⟩ := by
  cases σ with
  | inl n => first | exact ⟨rfl, Res.no⟩ | exact ⟨trivial, Res.no⟩
  | inr r =>
    simp only [pOn, pCall] at ha hb ⊢
    cases h1 : pName r with
    | inl n => first | exact ⟨rfl, Res.no⟩ | exact ⟨trivial, Res.no⟩
    | inr x =>
      obtain ⟨nm, r1⟩ := x
      rw [h1] at ha hb
      simp only [stX, pBind, res, pIn] at ha hb ⊢
      cases h2 : pMust kPar r1 with
      | inl n => first | exact ⟨rfl, Res.no⟩ | exact ⟨trivial, Res.no⟩
      | inr x =>
        obtain ⟨_, r2⟩ := x
        rw [h2] at ha hb
        simp only [stX, pBind, res] at ha hb ⊢
        cases h3 : pName r2 with
        | inl n => first | exact ⟨rfl, Res.no⟩ | exact ⟨trivial, Res.no⟩
        | inr x =>
          obtain ⟨i, r3⟩ := x
          rw [h3] at ha hb
          simp only [stX, pBind, res] at ha hb ⊢
          cases h4 : pMust kRap r3 with
          | inl n => first | exact ⟨rfl, Res.no⟩ | exact ⟨trivial, Res.no⟩
          | inr x =>
            obtain ⟨_, r4⟩ := x
            rw [h4] at ha hb
            simp only [stX, pBind, res] at ha hb ⊢
            have := ha _ _ rfl
            subst this
            cases h5 : pMust kReturns r4 with
            | inl n => first | exact ⟨rfl, Res.no⟩ | exact ⟨trivial, Res.no⟩
            | inr x =>
              obtain ⟨_, r5⟩ := x
              rw [h5] at hb
              simp only [stX, pBind, res] at hb ⊢
              cases h6 : pMust kPar r5 with
              | inl n => first | exact ⟨rfl, Res.no⟩ | exact ⟨trivial, Res.no⟩
              | inr x =>
                obtain ⟨_, r6⟩ := x
                rw [h6] at hb
                simp only [stX, pBind, res] at hb ⊢
                cases h7 : pName r6 with
                | inl n => first | exact ⟨rfl, Res.no⟩ | exact ⟨trivial, Res.no⟩
                | inr x =>
                  obtain ⟨o, r7⟩ := x
                  rw [h7] at hb
                  simp only [stX, pBind, res] at hb ⊢
                  cases h8 : pMust kRap r7 with
                  | inl n => first | exact ⟨rfl, Res.no⟩ | exact ⟨trivial, Res.no⟩
                  | inr x =>
                    obtain ⟨_, r8⟩ := x
                    rw [h8] at hb
                    simp only [stX, pBind, res] at hb ⊢
                    have := hb _ _ rfl
                    subst this
                    cases h9 : pMust kSemi r8 with
                    | inl n => first | exact ⟨rfl, Res.no⟩ | exact ⟨trivial, Res.no⟩
                    | inr x => obtain ⟨_, r9⟩ := x; first | exact ⟨rfl, Res.yes⟩ | exact ⟨trivial, Res.yes⟩

/- How much is left. -/
def LtP {α : Type} (x : PR α) (n : Nat) : Prop := ∀ a r, x = .inr (a, r) → r.length < n
def LeP {α : Type} (x : PR α) (n : Nat) : Prop := ∀ a r, x = .inr (a, r) → r.length ≤ n
theorem LtP.le {α : Type} {x : PR α} {n : Nat} (h : LtP x n) : LeP x n := fun a r e => Nat.le_of_lt (h a r e)
theorem le_inr {α : Type} (a : α) (r : List ByteArray) : LeP (.inr (a, r)) r.length := fun b r' e => by simp at e; rw [e.2]; exact Nat.le_refl _
theorem lt_bind {α β : Type} {x : PR α} {f : α → List ByteArray → PR β} {n : Nat} (h : LtP x n) (hf : ∀ a r, LeP (f a r) r.length) : LtP (pBind x f) n := by
  cases x with
  | inl k => intro a r e; cases e
  | inr x => obtain ⟨a, r⟩ := x; intro b r' e; exact Nat.lt_of_le_of_lt (hf a r b r' e) (h a r rfl)
theorem le_bind {α β : Type} {x : PR α} {f : α → List ByteArray → PR β} {n : Nat} (h : LeP x n) (hf : ∀ a r, LeP (f a r) r.length) : LeP (pBind x f) n := by
  cases x with
  | inl k => intro a r e; cases e
  | inr x => obtain ⟨a, r⟩ := x; intro b r' e; exact Nat.le_trans (hf a r b r' e) (h a r rfl)
theorem must_lt (k : ByteArray) (ts : List ByteArray) : LtP (pMust k ts) ts.length := by
  cases ts with
  | nil => intro a r e; simp [pMust, pIs] at e
  | cons t r => rw [must_cons]; intro a r' e; split at e <;> simp at e; rw [← e]; simp
theorem name_lt (ts : List ByteArray) : LtP (pName ts) ts.length := by
  cases ts with
  | nil => intro a r e; simp [pName] at e
  | cons t r => intro a r' e; unfold pName at e; simp only at e; split at e <;> simp at e; rw [← e.2]; simp
theorem num_lt (ts : List ByteArray) : LtP (pNum ts) ts.length := by
  cases ts with
  | nil => intro a r e; simp [pNum] at e
  | cons t r => intro a r' e; unfold pNum at e; simp only at e; split at e <;> simp at e; rw [← e.2]; simp
theorem type_lt (ts : List ByteArray) : LtP (pType ts) ts.length := by
  cases ts with
  | nil => intro a r e; simp [pType] at e
  | cons t r =>
    unfold pType
    simp only
    split
    · intro a r' e; simp at e; rw [← e.2]; simp
    · exact lt_bind (name_lt _) (fun a r => le_inr _ _)
theorem label_le (ts : List ByteArray) : (pLabel ts).2.length ≤ ts.length := by
  unfold pLabel
  split
  · simp
  · split <;> simp
theorem field_lt (ts : List ByteArray) : LtP (pField ts) ts.length := by
  unfold pField
  refine lt_bind (fun a r e => Nat.lt_of_lt_of_le (type_lt _ a r e) (label_le ts)) fun a r => ?_
  exact le_bind (name_lt r).le fun _ r => le_bind (must_lt _ r).le fun _ r => le_bind (num_lt r).le fun _ r => le_bind (must_lt _ r).le fun _ r => le_inr _ _
theorem more_le : ∀ (f : Nat) (acc : List Int) (ts : List ByteArray), LeP (pMore f acc ts) ts.length
  | 0, acc, ts => le_bind (must_lt _ ts).le fun _ r => le_inr _ _
  | f + 1, acc, ts => by
    unfold pMore
    split
    · have h := le_bind (x := pNum ts.tail) (f := fun n r => pMore f (acc ++ [(n : Int)]) r) (num_lt ts.tail).le fun n r => more_le f _ r
      exact fun a r e => Nat.le_trans (h a r e) (by simp)
    · exact le_bind (must_lt _ ts).le fun _ r => le_inr _ _
theorem member_lt (m : MsS) (ts : List ByteArray) : LtP (pMember m ts) ts.length := by
  unfold pMember
  split
  · have h := lt_bind (x := pNum ts.tail) (f := fun n r => pBind (pMore r.length (m.reserved ++ [(n : Int)]) r) fun l r2 => (.inr (⟨m.name, m.fields, l⟩, r2) : PR MsS)) (num_lt ts.tail) fun n r => le_bind (more_le _ _ r) fun _ r => le_inr _ _
    exact fun a r e => Nat.lt_of_lt_of_le (h a r e) (by simp)
  · exact lt_bind (field_lt ts) fun _ r => le_inr _ _
theorem members_le : ∀ (f : Nat) (m : MsS) (ts : List ByteArray), LeP (pMembers f m ts) ts.length
  | 0, m, ts => fun a r e => by cases e
  | f + 1, m, ts => by
    unfold pMembers
    split
    · intro a r e; simp at e; rw [← e.2]; simp
    · exact le_bind (member_lt m ts).le fun m' r => members_le f m' r
theorem msg_lt (ts : List ByteArray) : LtP (pMsg ts) ts.length := by
  unfold pMsg
  exact lt_bind (name_lt ts) fun _ r => le_bind (must_lt _ r).le fun _ r => members_le _ _ r
theorem value_lt (ts : List ByteArray) : LtP (pValue ts) ts.length := by
  unfold pValue
  exact lt_bind (name_lt ts) fun _ r => le_bind (must_lt _ r).le fun _ r => le_bind (num_lt r).le fun _ r => le_bind (must_lt _ r).le fun _ r => le_inr _ _
theorem values_le : ∀ (f : Nat) (m : EnS) (ts : List ByteArray), LeP (pValues f m ts) ts.length
  | 0, m, ts => fun a r e => by cases e
  | f + 1, m, ts => by
    unfold pValues
    split
    · intro a r e; simp at e; rw [← e.2]; simp
    · exact le_bind (value_lt ts).le fun m' r => values_le f _ r
theorem enum_lt (ts : List ByteArray) : LtP (pEnum ts) ts.length := by
  unfold pEnum
  exact lt_bind (name_lt ts) fun _ r => le_bind (must_lt _ r).le fun _ r => values_le _ _ r
theorem call_lt (ts : List ByteArray) : LtP (pCall ts) ts.length := by
  unfold pCall
  exact lt_bind (name_lt ts) fun _ r => le_bind (must_lt _ r).le fun _ r => le_bind (name_lt r).le fun _ r => le_bind (must_lt _ r).le fun _ r => le_bind (must_lt _ r).le fun _ r => le_bind (must_lt _ r).le fun _ r => le_bind (name_lt r).le fun _ r => le_bind (must_lt _ r).le fun _ r => le_bind (must_lt _ r).le fun _ r => le_inr _ _
theorem decl_lt (s : ScS) (ts : List ByteArray) : LtP (pDecl s ts) ts.length := by
  unfold pDecl
  split
  · exact fun a r e => Nat.lt_of_lt_of_le (lt_bind (msg_lt ts.tail) (fun _ r => le_inr _ _) a r e) (by simp)
  · split
    · exact fun a r e => Nat.lt_of_lt_of_le (lt_bind (enum_lt ts.tail) (fun _ r => le_inr _ _) a r e) (by simp)
    · split
      · exact fun a r e => Nat.lt_of_lt_of_le (lt_bind (call_lt ts.tail) (fun _ r => le_inr _ _) a r e) (by simp)
      · intro a r e; cases e
theorem bind_congr {α β : Type} {x : PR α} {f f' : α → List ByteArray → PR β} (h : ∀ a r, x = .inr (a, r) → f a r = f' a r) : pBind x f = pBind x f' := by
  cases x with
  | inl n => rfl
  | inr x => obtain ⟨a, r⟩ := x; exact h a r rfl
/-- More rounds than there are pieces make no odds. -/
theorem more_fuel : ∀ (f : Nat) (acc : List Int) (ts : List ByteArray), ts.length ≤ f → pMore f acc ts = pMore ts.length acc ts
  | 0, acc, ts, h => by rw [Nat.le_zero.1 h]
  | f + 1, acc, [], h => by simp [pMore, pIs]
  | f + 1, acc, t :: r, h => by
    simp only [List.length_cons, pMore, List.tail_cons]
    split
    · exact bind_congr fun n r' e => by
        have := num_lt r _ _ e
        simp only [List.length_cons] at h
        rw [more_fuel f _ r' (by omega), more_fuel r.length _ r' (by omega)]
    · rfl
theorem members_fuel : ∀ (f : Nat) (m : MsS) (ts : List ByteArray), ts.length + 1 ≤ f → pMembers f m ts = pMembers (ts.length + 1) m ts
  | 0, m, ts, h => by omega
  | f + 1, m, ts, h => by
    simp only [pMembers]
    split
    · rfl
    · exact bind_congr fun n r' e => by
        have := member_lt m ts _ _ e
        cases hl : ts.length with
        | zero => omega
        | succ k => rw [members_fuel f _ r' (by omega), members_fuel (k + 1) _ r' (by omega)]
theorem values_fuel : ∀ (f : Nat) (m : EnS) (ts : List ByteArray), ts.length + 1 ≤ f → pValues f m ts = pValues (ts.length + 1) m ts
  | 0, m, ts, h => by omega
  | f + 1, m, ts, h => by
    simp only [pValues]
    split
    · rfl
    · exact bind_congr fun n r' e => by
        have := value_lt ts _ _ e
        cases hl : ts.length with
        | zero => omega
        | succ k => rw [values_fuel f _ r' (by omega), values_fuel (k + 1) _ r' (by omega)]
theorem decls_fuel : ∀ (f : Nat) (s : ScS) (ts : List ByteArray), ts.length ≤ f → pDecls f s ts = pDecls ts.length s ts
  | 0, s, ts, h => by rw [Nat.le_zero.1 h]
  | f + 1, s, [], h => by simp [pDecls]
  | f + 1, s, t :: r, h => by
    simp only [List.length_cons, pDecls, List.isEmpty_cons, Bool.false_eq_true, if_false]
    exact bind_congr fun n r' e => by
      have := decl_lt s (t :: r) _ _ e
      simp only [List.length_cons] at h this
      rw [decls_fuel f _ r' (by omega), decls_fuel r.length _ r' (by omega)]
end Go.Proofs.YtkfhlgajeejgeaaGreatDoor

/- What the program's Put answers. -/
namespace Go.Proofs.YtkfhlgajeejgeaaGreatDoor
open Go.ChangeShapes Go.WideShapes Go.ChangeAt Go.RowKit
set_option linter.unusedVariables false
set_option linter.unusedSimpArgs false
set_option maxRecDepth 20000
set_option maxHeartbeats 1000000 in
theorem put_any (r : Int) (w : World) :
    Calls Tryz.prog 143 #[.int .i32 r] w fun e w' => e = .returned (.string (putS r)) ∧ w' = w := by
  go_enter Tryz.func143, Tryz.ntmps143
  go_wp2
  all_goals
    go_ret
    first
    | exact ⟨ret_str (putS_yes ((valid_iff r).2 (by omega))), rfl⟩
    | exact ⟨ret_str (putS_no ((valid_not r).2 (by omega))), rfl⟩
end Go.Proofs.YtkfhlgajeejgeaaGreatDoor

/- What the program's Next answers, at every input: the rune at the place, its width, true; or nothing; nothing that was there has turned. -/
namespace Go.Proofs.YtkfhlgajeejgeaaGreatDoor
open Go.ChangeShapes Go.WideShapes Go.ChangeAt Go.RowKit
set_option linter.unusedVariables false
set_option maxRecDepth 20000

set_option maxHeartbeats 1000000 in
theorem next_out (s : ByteArray) (i : Int) (w : World) (h : i < 0 ∨ (s.size : Int) ≤ i) :
    Calls Tryz.prog 91 #[.string s, .int .i64 i] w fun e w' => e = .returned (nxV (nxL (atL s i))) ∧ Below w.heap.size w w' := by
  have hx := atL_out s i h
  have HX : Hid (nxL (atL s i) = none) := hx
  clear hx
  rcases h with h | h
  · go_enter Tryz.func91, Tryz.ntmps91
    go_wp2
    go_ret3
    exact ⟨ret_none HX.out, Below.refl _ _⟩
  · by_cases h0 : i < 0
    all_goals
      go_enter Tryz.func91, Tryz.ntmps91
      go_wp2
      go_ret3
      exact ⟨ret_none HX.out, Below.refl _ _⟩

theorem extract_mk (s : ByteArray) (i : Nat) : s.extract i s.size = ⟨(s.data.toList.drop i).toArray⟩ := by
  have h := extract_drop s i
  generalize s.extract i s.size = t at *
  obtain ⟨⟨m⟩⟩ := t
  simp only at h
  rw [h]

theorem put_size {l : List UInt8} {c k : Nat} (h : nxL l = some (c, k)) : ((putS c).size : Int) = k := by
  obtain ⟨h1, _, h3, _⟩ := nxL_some l c k h
  rw [← putS_yes h1, h3]

set_option maxHeartbeats 1000000 in
theorem next_in (s : ByteArray) (i : Nat) (w : World) (hs : s.size ≤ 140737488351232) (h : i < s.size) :
    Calls Tryz.prog 91 #[.string s, .int .i64 (i : Int)] w fun e w' => e = .returned (nxV (nxL (atL s i))) ∧ Below w.heap.size w w' := by
  have hd1 : decide (s.size ≤ i) = false := by simp; omega
  have hd2 : decide ((i : Int) < 0) = false := by simp
  have HA : Hid (atL s i = s.data.toList.drop i) := by rw [atL_in s i (by omega), Int.toNat_natCast]; rfl
  have HL : Hid (s.data.toList.drop i ≠ []) := by rw [drop_cons s i h]; exact List.cons_ne_nil _ _
  rw [HA.out]
  obtain ⟨c, k, hd⟩ : ∃ c k, Utf8.decode ⟨(s.data.toList.drop i).toArray⟩ 0 = (c, k) := ⟨_, _, rfl⟩
  obtain ⟨H1, H2⟩ : Hid (standsB (s.data.toList.drop i) c = true → nxL (s.data.toList.drop i) = some (c, k)) ∧ Hid (standsB (s.data.toList.drop i) c = false → nxL (s.data.toList.drop i) = none) := nx_stands HL.out hd
  have HD : Hid (Utf8.decode (s.extract i s.size) 0 = (c, k)) := by rw [extract_mk]; exact hd
  have HZ : Hid (0 < (s.extract i s.size).size) := by show 0 < _; rw [ByteArray.size_extract]; omega
  clear hd
  go_enter Tryz.func91, Tryz.ntmps91
  go_wp2
  generalize s.extract i s.size = t at *
  have hnx : ∀ ty, (Instr.next (.pointer (some ⟨w.heap.size, 0, none⟩)) true ty).run Tryz.prog (w.iter t 0) = .ok (.tuple #[.bool true, .int .i64 0, .int .i32 (c : Int)]) (w.iter t (0 + k)) := by
    intro ty
    have := run_next_any (P := Tryz.prog) w t 0 ty HZ.out
    rw [HD.out] at this
    exact this
  go_loopw [] (fun wr => wr = w.iter t 0) (fun _ => 0)
  case atStart => rfl
  case round =>
    subst hrel
    go_wp2_with fail
    refine (stands_any s _ _ _ hs (by omega) (by omega)).mono ?_
    rintro e w' ⟨rfl, rfl⟩
    rw [Int.toNat_natCast]
    cases hst : standsB (s.data.toList.drop i) c with
    | false =>
      go_wp2
      go_ret3
      exact ⟨ret_none (H2.out hst), below_iter _ _ _⟩
    | true =>
      go_wp2_with fail
      refine (put_any _ _).mono ?_
      rintro e w' ⟨rfl, rfl⟩
      have hp : Hid (((putS c).size : Int) = k) := put_size (H1.out hst)
      generalize putS c = p at *
      go_wp2
      go_ret3
      exact ⟨ret_some _ _ (H1.out hst) rfl hp.out, below_iter _ _ _⟩

theorem next_any (s : ByteArray) (i : Int) (w : World) (hs : s.size ≤ 140737488351232) :
    Calls Tryz.prog 91 #[.string s, .int .i64 i] w fun e w' => e = .returned (nxV (nxL (atL s i))) ∧ Below w.heap.size w w' := by
  by_cases h : i < 0 ∨ (s.size : Int) ≤ i
  · exact next_out s i w h
  · obtain ⟨n, rfl⟩ := Int.eq_ofNat_of_zero_le (a := i) (by omega)
    exact next_in s n w hs (by omega)
end Go.Proofs.YtkfhlgajeejgeaaGreatDoor

/- What the program's Tokens answers, at every text. -/
namespace Go.Proofs.YtkfhlgajeejgeaaGreatDoor
open Go.ChangeShapes Go.WideShapes Go.ChangeAt Go.RowKit
set_option linter.unusedVariables false
set_option linter.unusedSimpArgs false
set_option maxRecDepth 20000

set_option maxHeartbeats 4000000 in
theorem tokens_any (s : ByteArray) (w : World) (hs : s.size ≤ 140737488351232) :
    Calls Tryz.prog 61 #[.string s] w fun e w' => ∃ v, e = .returned (.tuple #[v, .int .i64 ((tokA s).2.1 : Int), .int .i64 ((tokA s).2.2 : Int)]) ∧ w'.ownsRow w.heap.size 116 3 v (tokA s).1.length (tkCells (tokA s).1) ∧ Below w.heap.size w w' := by
  obtain ⟨R, hR⟩ : ∃ R, tokA s = R := ⟨_, rfl⟩
  rw [hR]
  by_cases hbig : 16384 < s.size
  · have : R = ([], 0, 4) := by rw [← hR, tokA, if_pos hbig]
    subst this
    clear hR
    go_enter Tryz.func61, Tryz.ntmps61
    go_wp2_with fail
    go_ret3
    exact ⟨_, rfl, World.ownsRow_nil _ _ _ _, Below.refl _ _⟩
  · have HR : Hid (ansA (lexO s.data.toList 0) = R) := by
      show _ = _
      rw [← hR, tokA, if_neg hbig]
    clear hR
    obtain ⟨i0, hi, hz0, hz1, hz2⟩ := info_parts infoTk
    have hsk := skipN_le (s.data.toList.drop 0)
    rw [List.length_drop, len_data] at hsk
    have H0 : Hid (0 + skipN (s.data.toList.drop 0) = 0 + skipN (s.data.toList.drop 0)) := rfl
    go_enter Tryz.func61, Tryz.ntmps61
    go_wp2_with fail
    refine (skip_any s 0 _ hs (by omega)).mono ?_
    rintro e w0 ⟨rfl, rfl⟩
    generalize hp0 : 0 + skipN (s.data.toList.drop 0) = p0 at H0
    have HP0 : Hid (0 + skipN (s.data.toList.drop 0) = p0) := hp0
    have hp0s : p0 ≤ s.size := by omega
    clear hp0 H0 hsk
    go_wp2_with fail
    go_loopw [5, 6] (fun out pv wr => ∃ (acc : List Tk) (pos p : Nat), pv = .int .i64 (p : Int) ∧ p ≤ s.size ∧ acc.length ≤ p ∧ Hid (pos + skipN (s.data.toList.drop pos) = p) ∧ Hid (Read s.data.toList pos acc) ∧ Hid (wr.ownsRow w0.heap.size 116 3 out acc.length (tkCells acc)) ∧ Below w0.heap.size w0 wr)
      (fun _ pv _ => s.size - (intOf pv).toNat)
    case atStart => exact ⟨[], 0, p0, rfl, hp0s, by simp, HP0, Read.start, World.ownsRow_nil _ _ _ _, Below.refl _ _⟩
    case round =>
      obtain ⟨acc, pos, p, rfl, hp, hacc, HP, HRd, HO, hbel⟩ := hrel
      have hws := hbel.size
      by_cases hlt : p < s.size
      · have HA : Hid (atL s p = s.data.toList.drop p) := by rw [atL_in s p (by omega), Int.toNat_natCast]; rfl
        go_wp2_with fail
        refine (next_any s _ _ hs).mono ?_
        rintro e w1 ⟨rfl, hb1⟩
        have hb1' : Below w0.heap.size w0 w1 := hbel.trans (hb1.mono hws)
        have hws1 := hb1'.size
        have HO1 := own_belowH HO hb1
        clear HO hb1 hbel
        rw [HA.out]
        clear HA
        generalize hx : nxL (s.data.toList.drop p) = x
        cases x with
        | none =>
          have hR : R = ([], p, 9) := by
            have hl := HP.out
            rw [← HR.out, HRd.out.text (by rw [hl, len_data]; exact hlt) (by rw [hl]; exact hx), hl]; rfl
          subst hR
          clear hx HR HP HRd HO1
          simp only [nxV]
          go_wp2_with fail
          go_ret3
          exact ⟨_, rfl, World.ownsRow_nil _ _ _ _, hb1'⟩
        | some x =>
          obtain ⟨c, m⟩ := x
          simp only [nxV]
          go_wp2_with fail
          refine (begins_any c _).mono ?_
          rintro e w2 ⟨rfl, rfl⟩
          by_cases hk : kindN c = 0
          · have hR : R = ([], p, 5) := by
              have hl := HP.out
              rw [← HR.out, HRd.out.syn (by rw [hl]; exact hx) hk, hl]; rfl
            subst hR
            have HK : Hid (kindN c = 0) := hk
            clear hx HR HP HRd HO1 hk
            rw [HK.out]
            go_wp2_with fail
            go_ret3
            exact ⟨_, rfl, World.ownsRow_nil _ _ _ _, hb1'⟩
          · have HX : Hid (nxL (s.data.toList.drop p) = some (c, m)) := hx
            have hpb := piece_bd (k := kindN c) hx
            rw [List.length_drop, len_data] at hpb
            have hkd : ((kindN c : Int) == 0) = false := by rw [beq_eq_false_iff_ne]; omega
            obtain ⟨X, hE⟩ : ∃ X, p + pieceN (kindN c) m (s.data.toList.drop p) = X := ⟨_, rfl⟩
            have HB : Hid (∀ W : World, Calls Tryz.prog 93 #[.string s, .int .i64 (p : Int), .int .i64 (kindN c : Int)] W fun e w' => e = .returned (.int .i64 (X : Int)) ∧ Below W.heap.size W w') := fun W => by
              have := behind_any s p (kindN c) c m W hs hlt hx
              rwa [hE] at this
            obtain ⟨T, hT⟩ : ∃ T : Tk, T = ⟨kindN c, (s.data.toList.drop p).take (pieceN (kindN c) m (s.data.toList.drop p)), p⟩ := ⟨_, rfl⟩
            have HRd2 : Hid (Read s.data.toList X (acc ++ [T])) := by
              have hl := HP.out
              have := HRd.out.tok (by rw [hl]; exact hx) hk
              rw [hl, hE] at this
              rw [hT]
              exact this
            have HT : Hid (T.cells = [.int .i64 (kindN c : Int), .string (s.extract p X), .int .i64 (p : Int)]) := by
              show _ = _
              rw [hT, ← hE, extract_piece]; rfl
            have hpe : p < X ∧ X ≤ s.size := by omega
            have hsk := skipN_le (s.data.toList.drop X)
            rw [List.length_drop, len_data] at hsk
            have HS : Hid (∀ W : World, Calls Tryz.prog 90 #[.string s, .int .i64 (X : Int)] W fun e w' => e = .returned (.int .i64 ((X + skipN (s.data.toList.drop X) : Nat) : Int)) ∧ w' = W) := fun W => skip_any s X W hs (by omega)
            generalize hq : X + skipN (s.data.toList.drop X) = q at HS
            have HQ : Hid (X + skipN (s.data.toList.drop X) = q) := hq
            have hqb : X ≤ q ∧ q ≤ s.size := by omega
            have hkc : kindN c ≤ 3 := by unfold kindN; split; omega; split; omega; split <;> omega
            clear hx hE hT hq HP HRd hk HX hsk hpb
            generalize kindN c = K at *
            go_wp2_with fail
            refine (HB.out _).mono ?_
            rintro e w3 ⟨rfl, hb3⟩
            have hb3' : Below w0.heap.size w0 w3 := hb1'.trans (hb3.mono hws1)
            have hws3 := hb3'.size
            have HO3 := own_belowH HO1 hb3
            have hsl : ∀ W : World, (Instr.slice 9 (.string s) (some (.int .i64 (p : Int))) (some (.int .i64 (X : Int))) none).run Tryz.prog W = .ok (.string (s.extract p X)) W := fun W => slice_text W s p X (by omega) (by omega)
            clear HO1 hb3 hb1' HB
            go_wp2_with (first
              | (at_builtin; refine wpList_append_own _ rfl _ _ 101 rfl w0.heap.size 116 i0 _ 3 32 Tryz.underlying101 hi hz0 hz1 hz2 rfl (by decide) _ _ _ rfl (HO3.out.alloc _) ⟨w3.heap.size, 0, none⟩ 1 1 [.int .i64 (K : Int), .string (s.extract p X), .int .i64 (p : Int)] rfl rfl ?c1 ?c2 ?c3 ?c4 ?c5 ?_)
              | fail)
            case c1 =>
              intro j u hj
              match j, hj with
              | 0, hj | 1, hj | 2, hj => simp at hj; subst hj; simp [Addr.add]
            case c2 => intro u hu; simp at hu; rcases hu with rfl | rfl | rfl <;> rfl
            case c3 => unfold maxLen; omega
            case c4 => omega
            case c5 => simp; omega
            intro v w4 ho4 hg4 _
            have hb4 : Below w0.heap.size w0 w4 := (hb3'.alloc hws3 _).grown hg4 (by simp; omega) (fun k hk => (HO3.out.lt k hk).1)
            have HO4 : Hid (w4.ownsRow w0.heap.size 116 3 v (acc ++ [T]).length (tkCells (acc ++ [T]))) := by
              show World.ownsRow _ _ _ _ _ _ _
              rw [(tkCells_snoc acc _).1, (tkCells_snoc acc _).2, HT.out]
              exact ho4
            have hlen : (acc ++ [T]).length ≤ q := by simp; omega
            clear HO3 ho4 hg4 hb3'
            go_wp2_with fail
            refine (HS.out _).mono ?_
            rintro e w5 ⟨rfl, rfl⟩
            go_wp2_with fail
            go_roundw
            case rel => exact ⟨acc ++ [T], X, q, rfl, hqb.2, hlen, HQ, HRd2, HO4, hb4⟩
            case measure => simp [intOf]; omega
      · have hR : R = (acc, 0, 0) := by
          have hl := HP.out
          rw [← HR.out, HRd.out.fin (by rw [hl, len_data]; omega)]; rfl
        subst hR
        clear HP HRd HR
        go_wp2_with fail
        go_ret3
        exact ⟨_, rfl, HO.out, hbel⟩
end Go.Proofs.YtkfhlgajeejgeaaGreatDoor

/- What the program's Tokens answers, as a row to be read. -/
namespace Go.Proofs.YtkfhlgajeejgeaaGreatDoor
open Go.ChangeShapes Go.WideShapes Go.ChangeAt Go.RowKit
set_option linter.unusedVariables false
set_option linter.unusedSimpArgs false
set_option maxRecDepth 20000

theorem tokens_row (s : ByteArray) (w : World) (hs : s.size ≤ 140737488351232) (ts : List Tk) (p e : Nat) (h : tokA s = (ts, p, e)) :
    Calls Tryz.prog 61 #[.string s] w fun x w' => ∃ v, x = .returned (.tuple #[v, .int .i64 (p : Int), .int .i64 (e : Int)]) ∧ RowT w' v ts ∧ Below w.heap.size w w' := by
  refine (tokens_any s w hs).mono ?_
  rintro x w' ⟨v, rfl, ho, hb⟩
  rw [h] at ho ⊢
  exact ⟨v, rfl, row_own ho, hb⟩

end Go.Proofs.YtkfhlgajeejgeaaGreatDoor

/- The reader: its cells; what each of its small calls answers. -/
namespace Go.Proofs.YtkfhlgajeejgeaaGreatDoor
open Go.ChangeShapes Go.WideShapes Go.ChangeAt Go.RowKit
set_option linter.unusedVariables false
set_option linter.unusedSimpArgs false
set_option maxRecDepth 20000

/-- The table of the types' words, as it lies in the memory. -/
structure Glob (w : World) : Prop where
  c0 : w.cell? ⟨1, 0, none⟩ = some (.string ⟨#[105, 110, 116, 51, 50]⟩)
  c1 : w.cell? ⟨1, 1, none⟩ = some (.int .i64 1)
  c2 : w.cell? ⟨1, 2, none⟩ = some (.string ⟨#[105, 110, 116, 54, 52]⟩)
  c3 : w.cell? ⟨1, 3, none⟩ = some (.int .i64 2)
  c4 : w.cell? ⟨1, 4, none⟩ = some (.string ⟨#[98, 111, 111, 108]⟩)
  c5 : w.cell? ⟨1, 5, none⟩ = some (.int .i64 3)
  c6 : w.cell? ⟨1, 6, none⟩ = some (.string ⟨#[116, 101, 120, 116]⟩)
  c7 : w.cell? ⟨1, 7, none⟩ = some (.int .i64 4)
  c8 : w.cell? ⟨1, 8, none⟩ = some (.string ⟨#[98, 121, 116, 101, 115]⟩)
  c9 : w.cell? ⟨1, 9, none⟩ = some (.int .i64 5)
theorem Glob.kp {S : Nat → Prop} {w w' : World} (h : Glob w) (hb : Kp S w w') (hs : ¬ S 1) : Glob w' :=
  ⟨hb.cell h.c0 hs, hb.cell h.c1 hs, hb.cell h.c2 hs, hb.cell h.c3 hs, hb.cell h.c4 hs, hb.cell h.c5 hs, hb.cell h.c6 hs, hb.cell h.c7 hs, hb.cell h.c8 hs, hb.cell h.c9 hs⟩
theorem Glob.below {w w' : World} (h : Glob w) (hb : Below w.heap.size w w') : Glob w' := h.kp (S := fun _ => False) (Kp.ofBelow hb) (fun e => e)
theorem Glob.lt {w : World} (h : Glob w) : 1 < w.heap.size := World.block_lt_of_cell? _ _ h.c0

/-- A reader in block g: at this state, over these pieces. -/
structure Rd (w : World) (g : Nat) (V : Value) (ts : List Tk) (E : Nat) (σ : Sg) : Prop where
  glob : Glob w
  pos : 1 < g
  blk : w.heap[g]? = some (.cells #[V, .int .i64 ((ts.length - leftS σ : Nat) : Int), .int .i64 (E : Int), .bool (badS σ)] 105 (0, 0))
  left : leftS σ ≤ ts.length
  rest : ∀ r, σ = .inr r → r = (ts.map Tk.bytes).drop (ts.length - r.length)
  row : ∃ a cap, V = .slice a ts.length cap ∧ ts.length ≤ cap ∧ cap ≤ maxLen ∧ (ts ≠ [] → ∃ q, a = some ⟨q, 0, none⟩ ∧ q < g) ∧ HoldsT w a ts
  small : ∀ t ∈ ts, t.bytes.size ≤ 140737488351232
  few : ts.length ≤ 100000
theorem Rd.lt {w : World} {g : Nat} {V : Value} {ts : List Tk} {E : Nat} {σ : Sg} (h : Rd w g V ts E σ) : g < w.heap.size := (Array.getElem?_eq_some_iff.1 h.blk).1
theorem HoldsT.kp {S : Nat → Prop} {w w1 : World} {a : Option Addr} {rs : List Tk} (h : HoldsT w a rs) (hb : Kp S w w1) (hs : ∀ b, a = some b → ¬ S b.block) : HoldsT w1 a rs := by
  intro b hab j u hu
  have := h b hab j u hu
  have hbl : (b.add j).block = b.block := by unfold Addr.add; split <;> rfl
  exact hb.cell this (by rw [hbl]; exact hs b hab)
theorem Rd.below {w w' : World} {g : Nat} {V : Value} {ts : List Tk} {E : Nat} {σ : Sg} (h : Rd w g V ts E σ) (hb : Below w.heap.size w w') : Rd w' g V ts E σ := by
  obtain ⟨a, cap, h1, h2, h3, h4, h5⟩ := h.row
  exact ⟨h.glob.below hb, h.pos, (hb.block g h.lt).trans h.blk, h.left, h.rest, ⟨a, cap, h1, h2, h3, h4, h5.below hb⟩, h.small, h.few⟩
/-- A cell of the reader is written. -/
theorem Rd.turn {w : World} {g : Nat} {V : Value} {ts : List Tk} {E : Nat} {σ σ' : Sg} (h : Rd w g V ts E σ) (i : Nat) (u : Value)
    (hb : (#[V, .int .i64 ((ts.length - leftS σ : Nat) : Int), .int .i64 (E : Int), .bool (badS σ)] : Array Value).setIfInBounds i u = #[V, .int .i64 ((ts.length - leftS σ' : Nat) : Int), .int .i64 (E : Int), .bool (badS σ')])
    (hl : leftS σ' ≤ ts.length) (hr : ∀ r, σ' = .inr r → r = (ts.map Tk.bytes).drop (ts.length - r.length)) : Rd (w.setCell ⟨g, i, none⟩ u) g V ts E σ' := by
  obtain ⟨a, cap, h1, h2, h3, h4, h5⟩ := h.row
  have hk : Kp (fun k => k = g) w (w.setCell ⟨g, i, none⟩ u) := Kp.setCell (S := fun k => k = g) (Kp.refl _ w) (p := ⟨g, i, none⟩) (fun _ => rfl) u
  refine ⟨h.glob.kp hk (by have := h.pos; omega), h.pos, ?_, hl, hr, ⟨a, cap, h1, h2, h3, h4, ?_⟩, h.small, h.few⟩
  · rw [block_set h.blk i u, hb]
  · by_cases hne : ts = []
    · subst hne; exact HoldsT.nil
    refine h5.kp hk ?_
    intro b hb' e
    obtain ⟨q, hq, hqg⟩ := h4 hne
    rw [hb'] at hq
    cases hq
    simp only at e
    omega
/-- The reader's cells, with letters: how many are read. -/
theorem Rd.open {w : World} {g : Nat} {V : Value} {ts : List Tk} {E : Nat} {σ : Sg} (h : Rd w g V ts E σ) : ∃ n, n + leftS σ = ts.length ∧ ts.length ≤ 9223372036854775807 ∧ w.cell? ⟨g, 0, none⟩ = some V ∧ w.cell? ⟨g, 1, none⟩ = some (.int .i64 (n : Int)) ∧ w.cell? ⟨g, 2, none⟩ = some (.int .i64 (E : Int)) ∧ w.cell? ⟨g, 3, none⟩ = some (.bool (badS σ)) ∧
    w.frozen? ⟨g, 1, none⟩ = false ∧ w.frozen? ⟨g, 3, none⟩ = false := by
  obtain ⟨a, cap, h1, h2, h3, h4, h5⟩ := h.row
  have hl := h.left
  refine ⟨ts.length - leftS σ, by omega, by unfold maxLen at h3; omega, ?_, ?_, ?_, ?_, block_froz h.blk 1, block_froz h.blk 3⟩
  · rw [block_cell h.blk]; rfl
  · rw [block_cell h.blk]; rfl
  · rw [block_cell h.blk]; rfl
  · rw [block_cell h.blk]; rfl
theorem Rd.next {w : World} {g : Nat} {V : Value} {ts : List Tk} {E : Nat} {t : ByteArray} {r : List ByteArray} (h : Rd w g V ts E (.inr (t :: r))) {n : Nat} (hn : n + leftS (.inr (t :: r)) = ts.length) {u : Value} (hu : u = .int .i64 ((n + 1 : Nat) : Int)) : Rd (w.setCell ⟨g, 1, none⟩ u) g V ts E (.inr r) := by
  have hl := h.left
  have hr := h.rest _ rfl
  simp only [leftS, List.length_cons] at hl hn hr
  refine h.turn 1 u ?_ (by simp only [leftS]; omega) ?_
  · rw [hu]
    have e : ts.length - leftS (.inr r) = n + 1 := by simp only [leftS]; omega
    rw [e]; rfl
  · intro r' hr'
    simp only [Sum.inr.injEq] at hr'
    subst hr'
    have e1 : ts.length - r.length = (ts.length - (r.length + 1)) + 1 := by omega
    rw [e1, ← List.drop_drop, ← hr]
    rfl
theorem Rd.wrong {w : World} {g : Nat} {V : Value} {ts : List Tk} {E : Nat} {σ : Sg} (h : Rd w g V ts E σ) : Rd (w.setCell ⟨g, 3, none⟩ (.bool true)) g V ts E (.inl (leftS σ)) :=
  h.turn 3 _ rfl h.left (fun r hr => by cases hr)
/-- The next piece's text, in its cell. -/
theorem Rd.at {w : World} {g : Nat} {V : Value} {ts : List Tk} {E : Nat} {t : ByteArray} {r : List ByteArray} (h : Rd w g V ts E (.inr (t :: r))) {n : Nat} (hn : n + leftS (.inr (t :: r)) = ts.length) :
    ∃ q cap pos, V = .slice (some ⟨q, 0, none⟩) ts.length cap ∧ ts.length ≤ cap ∧ cap ≤ 9223372036854775807 ∧ w.cell? ⟨q, n * 3 + 1, none⟩ = some (.string t) ∧ w.cell? ⟨q, n * 3 + 2, none⟩ = some (.int .i64 ((pos : Nat) : Int)) ∧ t.size ≤ 140737488351232 ∧ (ts[n]?).map Tk.pos = some pos := by
  obtain ⟨a, cap, h1, h2, h3, h4, h5⟩ := h.row
  have hr := h.rest _ rfl
  simp only [leftS, List.length_cons] at hn hr
  have hlt : n < ts.length := by omega
  have e1 : ts.length - (r.length + 1) = n := by omega
  rw [e1] at hr
  have hne : ts ≠ [] := by intro e; subst e; simp at hlt
  obtain ⟨q, rfl, _⟩ := h4 hne
  have hg : ts[n]? = some ts[n] := List.getElem?_eq_getElem hlt
  have ht : t = (ts[n]).bytes := by
    have := congrArg (fun l => l[0]?) hr
    simp only [List.getElem?_cons_zero, List.getElem?_drop, List.getElem?_map, Nat.add_zero, hg, Option.map_some, Option.some.injEq] at this
    exact this
  obtain ⟨_, b2, b3⟩ := h5.at0 hg
  refine ⟨q, cap, (ts[n]).pos, h1, h2, by unfold maxLen at h3; omega, by rw [ht]; exact b2, b3, ?_, by rw [hg]; rfl⟩
  rw [ht]
  exact h.small _ (List.getElem_mem hlt)
/-- The slice's form. -/
theorem Rd.form {w : World} {g : Nat} {V : Value} {ts : List Tk} {E : Nat} {σ : Sg} (h : Rd w g V ts E σ) : ∃ a cap, V = .slice a ts.length cap := by
  obtain ⟨a, cap, h1, _⟩ := h.row
  exact ⟨a, cap, h1⟩
set_option maxHeartbeats 1000000 in
theorem more_any {w : World} {g : Nat} {V : Value} {ts : List Tk} {E : Nat} {σ : Sg} (h : Rd w g V ts E σ) :
    Calls Tryz.prog 96 #[.pointer (some ⟨g, 0, none⟩)] w fun e w' => e = .returned (.bool (!badS σ && decide (0 < leftS σ))) ∧ Below w.heap.size w w' := by
  obtain ⟨n, hn, hm, c0, c1, c2, c3, f1, f3⟩ := h.open
  obtain ⟨a, cap, rfl⟩ := h.form
  clear h
  generalize leftS σ = L at *
  generalize ts.length = N at *
  cases hb : badS σ with
  | true =>
    rw [hb] at c3
    go_enter Tryz.func96, Tryz.ntmps96
    go_wp2_with fail
    go_quiet (fail)
    go_wp2_with fail
    go_ret
    exact ⟨rfl, below_drewN _ (Below.refl _ _)⟩
  | false =>
    rw [hb] at c3
    go_enter Tryz.func96, Tryz.ntmps96
    go_wp2_with fail
    go_quiet (fail)
    go_wp2_with fail
    go_ret
    refine ⟨?_, below_drewN _ (Below.refl _ _)⟩
    have : decide (n < N) = decide (0 < L) := by rw [decide_eq_decide]; omega
    simp [this]
set_option maxHeartbeats 1000000 in
theorem ahead_any {w : World} {g : Nat} {V : Value} {ts : List Tk} {E : Nat} {σ : Sg} (h : Rd w g V ts E σ) :
    Calls Tryz.prog 146 #[.pointer (some ⟨g, 0, none⟩)] w fun e w' => e = .returned (.string (headS σ)) ∧ Below w.heap.size w w' := by
  cases σ with
  | inl n =>
    go_enter Tryz.func146, Tryz.ntmps146
    go_wp2_with fail
    refine (more_any h).mono ?_
    rintro e w1 ⟨rfl, hb1⟩
    have h1 := h.below hb1
    clear h
    clear h1
    simp only [badS, Bool.not_true, Bool.false_and, headS, noT]
    go_wp2_with fail
    go_ret
    exact ⟨rfl, hb1⟩
  | inr rr =>
   cases rr with
   | nil =>
    go_enter Tryz.func146, Tryz.ntmps146
    go_wp2_with fail
    refine (more_any h).mono ?_
    rintro e w1 ⟨rfl, hb1⟩
    have h1 := h.below hb1
    clear h
    clear h1
    simp only [badS, leftS, List.length_nil, Nat.lt_irrefl, decide_false, Bool.and_false, headS, noT]
    go_wp2_with fail
    go_ret
    exact ⟨rfl, hb1⟩
   | cons t r =>
    go_enter Tryz.func146, Tryz.ntmps146
    go_wp2_with fail
    refine (more_any h).mono ?_
    rintro e w1 ⟨rfl, hb1⟩
    have h1 := h.below hb1
    clear h
    obtain ⟨n, hn, hm, c0, c1, c2, c3, f1, f3⟩ := h1.open
    obtain ⟨q, cap, pos, rfl, hcap, hcap2, b2, b3, _, _⟩ := h1.at hn
    clear h1
    simp only [leftS, List.length_cons] at hn
    have hlt : n < ts.length := by omega
    simp only [badS, leftS, List.length_cons, Nat.zero_lt_succ, decide_true, Bool.not_false, Bool.and_true, headS]
    generalize ts.length = N at *
    clear hn
    go_wp2_with fail
    go_quiet (fail)
    go_wp2_with fail
    go_ret
    exact ⟨rfl, below_drewN _ hb1⟩
/-- Words that stand in a block. -/
def HoldsS (w : World) (b : Nat) (ws : List ByteArray) : Prop := ∀ j u, ws[j]? = some u → w.cell? ⟨b, j, none⟩ = some (.string u)
theorem HoldsS.below {w w1 : World} {b : Nat} {ws : List ByteArray} (h : HoldsS w b ws) (hb : Below w.heap.size w w1) : HoldsS w1 b ws := by
  intro j u hu
  have := h j u hu
  rw [hb.cell (World.block_lt_of_cell? _ _ this)]
  exact this
def anyS (ws : List ByteArray) (x : ByteArray) : Bool := ws.any (fun k => k.data.toList == x.data.toList)
theorem str_beq (x y : ByteArray) : (x.toList == y.toList) = (x.data.toList == y.data.toList) := by rw [ByteArray.toList_eq, ByteArray.toList_eq]
set_option maxHeartbeats 1000000 in
theorem sindex_any (ws : List ByteArray) (x : ByteArray) (b cap : Nat) (w : World) (hw : HoldsS w b ws) (hl : ws.length ≤ 1000) :
    Calls Tryz.prog 188 #[.slice (some ⟨b, 0, none⟩) ws.length cap, .string x] w fun e w' => ∃ k : Int, e = .returned (.int .i64 k) ∧ decide (0 ≤ k) = anyS ws x ∧ -1 ≤ k ∧ k ≤ 1000 ∧ w' = w := by
  have HW : Hid (HoldsS w b ws) := hw
  clear hw
  obtain ⟨N, hN⟩ : ∃ N, ws.length = N := ⟨_, rfl⟩
  rw [hN] at hl ⊢
  have HN : Hid (ws.length = N) := hN
  clear hN
  go_enter Tryz.func188, Tryz.ntmps188
  go_wp2_with fail
  go_loop [5, 8] (fun _ i => ∃ k : Nat, k ≤ N ∧ i = .int .i64 (k : Int) ∧ Hid (∀ j u, j < k → ws[j]? = some u → (u.data.toList == x.data.toList) = false)) (fun _ i => N - (intOf i).toNat)
  case atStart => exact ⟨0, Nat.zero_le _, rfl, fun j u hj => absurd hj (Nat.not_lt_zero _)⟩
  case round =>
    obtain ⟨k, hk, rfl, HB⟩ := hrel
    by_cases hlt : k < N
    · obtain ⟨u, hu⟩ : ∃ u, ws[k]? = some u := ⟨_, List.getElem?_eq_getElem (by rw [HN.out]; exact hlt)⟩
      have hc := HW.out k u hu
      have HU : Hid (ws[k]? = some u) := hu
      clear hu
      cases hq : (x.data.toList == u.data.toList) with
      | true =>
        have hq' : (x.toList == u.toList) = true := by rw [str_beq]; exact hq
        go_wp2_with fail
        go_ret
        refine ⟨_, rfl, ?_, by omega, by omega, rfl⟩
        have : anyS ws x = true := by
          unfold anyS
          rw [List.any_eq_true]
          refine ⟨u, List.mem_of_getElem? HU.out, ?_⟩
          rw [beq_iff_eq] at hq ⊢
          exact hq.symm
        rw [this]
        simp
      | false =>
        have hq' : (x.toList == u.toList) = false := by rw [str_beq]; exact hq
        go_wp2_with fail
        go_round
        case rel =>
          refine ⟨k + 1, by omega, rfl, ?_⟩
          intro j u' hj hu'
          by_cases e : j = k
          · subst e
            have := HU.out
            rw [hu'] at this
            cases this
            rw [beq_eq_false_iff_ne] at hq ⊢
            exact fun e => hq e.symm
          · exact HB.out j u' (by omega) hu'
        case measure => simp [intOf]; omega
    · go_wp2_with fail
      go_ret
      refine ⟨_, rfl, ?_, by omega, by omega, rfl⟩
      have : anyS ws x = false := by
        unfold anyS
        rw [List.any_eq_false]
        intro u hu
        obtain ⟨j, hj⟩ := List.getElem?_of_mem hu
        have hjl : j < k := by
          have := (List.getElem?_eq_some_iff.1 hj).1
          rw [HN.out] at this
          omega
        rw [HB.out j u hjl hj]
        simp
      rw [this]
      simp
theorem contains_any (ws : List ByteArray) (x : ByteArray) (b cap : Nat) (w : World) (hw : HoldsS w b ws) (hl : ws.length ≤ 1000) :
    Calls Tryz.prog 174 #[.slice (some ⟨b, 0, none⟩) ws.length cap, .string x] w fun e w' => e = .returned (.bool (anyS ws x)) ∧ w' = w := by
  have HI : Hid (∀ W : World, HoldsS W b ws → Calls Tryz.prog 188 #[.slice (some ⟨b, 0, none⟩) ws.length cap, .string x] W fun e w' => ∃ k : Int, e = .returned (.int .i64 k) ∧ decide (0 ≤ k) = anyS ws x ∧ -1 ≤ k ∧ k ≤ 1000 ∧ w' = W) := fun W hW => sindex_any ws x b cap W hW hl
  have HW : Hid (HoldsS w b ws) := hw
  clear hw hl
  generalize ws.length = N at *
  go_enter Tryz.func174, Tryz.ntmps174
  go_wp2_with fail
  refine (HI.out _ HW.out).mono ?_
  rintro e w1 ⟨k, rfl, hk, hk1, hk2, rfl⟩
  go_wp2_with fail
  go_ret
  exact ⟨rfl, rfl⟩
/-- What 'take' and 'one' come to. -/
theorem take_cases (ws : List ByteArray) (σ : Sg) (hne : anyS ws noT = false) :
    (∃ t r, σ = .inr (t :: r) ∧ pOn σ (pTake ws) = .inr (t, r) ∧ pOn σ (pOne ws) = .inr (t, r) ∧ anyS ws t = true ∧ (t.data.toList == []) = false) ∨
    (stX (pOn σ (pTake ws)) = σ ∧ res noT (pOn σ (pTake ws)) = noT ∧ stX (pOn σ (pOne ws)) = .inl (leftS σ) ∧ res noT (pOn σ (pOne ws)) = noT ∧ anyS ws (headS σ) = false) := by
  match σ with
  | .inl n => exact .inr ⟨rfl, rfl, rfl, rfl, hne⟩
  | .inr [] => exact .inr ⟨rfl, rfl, rfl, rfl, hne⟩
  | .inr (t :: r) =>
    simp only [pOn, pTake, pOne, headS, leftS, List.length_cons]
    by_cases h : anyS ws t = true
    · left
      refine ⟨t, r, rfl, if_pos h, if_pos h, h, ?_⟩
      rw [beq_eq_false_iff_ne]
      intro e
      have : t = noT := by rw [← ba_eq, e]; rfl
      rw [this, hne] at h
      cases h
    · right
      have h' : anyS ws t = false := by simpa using h
      unfold anyS at h
      rw [if_neg h, if_neg h]
      exact ⟨rfl, rfl, rfl, rfl, h'⟩
theorem name_cases (σ : Sg) : (∃ t r, σ = .inr (t :: r) ∧ pOn σ pName = .inr (t, r) ∧ nameK t.data.toList = true) ∨
    (stX (pOn σ pName) = .inl (leftS σ) ∧ res noT (pOn σ pName) = noT ∧ nameK (headS σ).data.toList = false) := by
  match σ with
  | .inl n => exact .inr ⟨rfl, rfl, by simp only [headS]; decide +kernel⟩
  | .inr [] => exact .inr ⟨rfl, rfl, by decide +kernel⟩
  | .inr (t :: r) =>
    simp only [pOn, pName, headS, leftS, List.length_cons]
    by_cases h : nameK t.data.toList = true
    · exact .inl ⟨t, r, rfl, if_pos h, h⟩
    · rw [if_neg h]; exact .inr ⟨rfl, rfl, by simpa using h⟩
theorem num_cases (σ : Sg) : (∃ t r, σ = .inr (t :: r) ∧ pOn σ pNum = .inr ((numA t.data.toList).1, r) ∧ (numA t.data.toList).2 = true) ∨
    (stX (pOn σ pNum) = .inl (leftS σ) ∧ res 0 (pOn σ pNum) = 0 ∧ (numA (headS σ).data.toList).2 = false) := by
  match σ with
  | .inl n => exact .inr ⟨rfl, rfl, by simp only [headS]; decide +kernel⟩
  | .inr [] => exact .inr ⟨rfl, rfl, by decide +kernel⟩
  | .inr (t :: r) =>
    simp only [pOn, pNum, headS, leftS, List.length_cons]
    by_cases h : (numA t.data.toList).2 = true
    · exact .inl ⟨t, r, rfl, if_pos h, h⟩
    · rw [if_neg h]; exact .inr ⟨rfl, rfl, by simpa using h⟩
theorem Rd.head {w : World} {g : Nat} {V : Value} {ts : List Tk} {E : Nat} {σ : Sg} (h : Rd w g V ts E σ) : (headS σ).size ≤ 140737488351232 := by
  match σ, h with
  | .inl n, h => simp only [headS, noT]; decide
  | .inr [], h => simp only [headS, noT]; decide
  | .inr (t :: r), h =>
    obtain ⟨n, hn, _⟩ := h.open
    obtain ⟨_, _, _, _, _, _, _, _, hs, _⟩ := h.at hn
    exact hs
end Go.Proofs.YtkfhlgajeejgeaaGreatDoor

/- What the reader's calls answer: a word, a name, a number. -/
namespace Go.Proofs.YtkfhlgajeejgeaaGreatDoor
open Go.ChangeShapes Go.WideShapes Go.ChangeAt Go.RowKit
set_option linter.unusedVariables false
set_option linter.unusedSimpArgs false
set_option maxRecDepth 20000

set_option maxHeartbeats 1000000 in
theorem take_any {w : World} {g : Nat} {V : Value} {ts : List Tk} {E : Nat} {σ : Sg} (ws : List ByteArray) (b : Nat) (h : Rd w g V ts E σ) (hw : HoldsS w b ws) (hl : ws.length ≤ 1000) (hne : anyS ws noT = false) :
    Calls Tryz.prog 145 #[.pointer (some ⟨g, 0, none⟩), .slice (some ⟨b, 0, none⟩) ws.length ws.length] w fun e w' => e = .returned (.string (res noT (pOn σ (pTake ws)))) ∧ Rd w' g V ts E (stX (pOn σ (pTake ws))) ∧ Kp (fun k => k = g) w w' := by
  have HC : Hid (∀ (W : World) (x : ByteArray), HoldsS W b ws → Calls Tryz.prog 174 #[.slice (some ⟨b, 0, none⟩) ws.length ws.length, .string x] W fun e w' => e = .returned (.bool (anyS ws x)) ∧ w' = W) := fun W x hW => contains_any ws x b _ W hW hl
  have HW : Hid (HoldsS w b ws) := hw
  clear hw
  rcases take_cases ws σ hne with ⟨t, r, rfl, e1, e2, e3, e4⟩ | ⟨e1, e2, e3, e4, e5⟩
  · rw [e1]
    clear e1 e2 hne
    generalize ws.length = N at *
    go_enter Tryz.func145, Tryz.ntmps145
    go_wp2_with fail
    refine (ahead_any h).mono ?_
    rintro e w1 ⟨rfl, hb1⟩
    have h1 := h.below hb1
    go_wp2_with fail
    refine (HC.out _ _ (HW.out.below hb1)).mono ?_
    rintro e w2 ⟨rfl, rfl⟩
    have e3' : anyS ws (headS (.inr (t :: r))) = true := e3
    rw [e3']
    obtain ⟨n, hn, hm, c0, c1, c2, c3, f1, f3⟩ := h1.open
    have hn' := hn
    simp only [leftS, List.length_cons] at hn'
    have hn2 : n < 9223372036854775807 := by omega
    have HR : Hid (∀ u : Value, u = .int .i64 ((n + 1 : Nat) : Int) → Rd (w2.setCell ⟨g, 1, none⟩ u) g V ts E (.inr r)) := fun u hu => h1.next hn hu
    have HK : Hid (Kp (fun k => k = g) w w2) := Kp.ofBelow hb1
    clear h1 h hn hn' hm c0 c2 c3 f3 e3 e3' hb1 HC HW
    simp only [headS]
    go_wp2_with fail
    go_ret
    exact ⟨rfl, HR.out _ rfl, HK.out.setCell (fun _ => rfl) _⟩
  · rw [e1, e2]
    clear e1 e2 e3 e4 hne
    generalize ws.length = N at *
    go_enter Tryz.func145, Tryz.ntmps145
    go_wp2_with fail
    refine (ahead_any h).mono ?_
    rintro e w1 ⟨rfl, hb1⟩
    have h1 := h.below hb1
    go_wp2_with fail
    refine (HC.out _ _ (HW.out.below hb1)).mono ?_
    rintro e w2 ⟨rfl, rfl⟩
    rw [e5]
    have HK : Hid (Kp (fun k => k = g) w w2) := Kp.ofBelow hb1
    go_wp2_with fail
    go_ret
    exact ⟨rfl, h1, HK.out⟩
set_option maxHeartbeats 1000000 in
theorem one_any {w : World} {g : Nat} {V : Value} {ts : List Tk} {E : Nat} {σ : Sg} (ws : List ByteArray) (b : Nat) (h : Rd w g V ts E σ) (hw : HoldsS w b ws) (hl : ws.length ≤ 1000) (hne : anyS ws noT = false) :
    Calls Tryz.prog 94 #[.pointer (some ⟨g, 0, none⟩), .slice (some ⟨b, 0, none⟩) ws.length ws.length] w fun e w' => e = .returned (.string (res noT (pOn σ (pOne ws)))) ∧ Rd w' g V ts E (stX (pOn σ (pOne ws))) ∧ Kp (fun k => k = g) w w' := by
  have HT : Hid (Calls Tryz.prog 145 #[.pointer (some ⟨g, 0, none⟩), .slice (some ⟨b, 0, none⟩) ws.length ws.length] w fun e w' => e = .returned (.string (res noT (pOn σ (pTake ws)))) ∧ Rd w' g V ts E (stX (pOn σ (pTake ws))) ∧ Kp (fun k => k = g) w w') := take_any ws b h hw hl hne
  rcases take_cases ws σ hne with ⟨t, r, rfl, e1, e2, e3, e4⟩ | ⟨e1, e2, e3, e4, e5⟩
  · rw [e1] at HT
    rw [e2]
    clear e1 e2 e3 hne hw hl h
    have e4' : (t.toList == []) = false := by rw [ByteArray.toList_eq]; exact e4
    generalize ws.length = N at *
    go_enter Tryz.func94, Tryz.ntmps94
    go_wp2_with fail
    refine HT.out.mono ?_
    rintro e w1 ⟨rfl, h1, hk1⟩
    simp only [res, stX] at h1 ⊢
    go_wp2_with fail
    go_ret
    exact ⟨rfl, h1, hk1⟩
  · rw [e1, e2] at HT
    rw [e3, e4]
    clear e1 e2 e3 e4 e5 hne hw hl h
    generalize ws.length = N at *
    go_enter Tryz.func94, Tryz.ntmps94
    go_wp2_with fail
    refine HT.out.mono ?_
    rintro e w1 ⟨rfl, h1, hk1⟩
    obtain ⟨n, hn, hm, c0, c1, c2, c3, f1, f3⟩ := h1.open
    have HR : Hid (Rd (w1.setCell ⟨g, 3, none⟩ (.bool true)) g V ts E (.inl (leftS σ))) := h1.wrong
    clear h1 hn hm c0 c1 c2 f1
    simp only [noT]
    go_wp2_with fail
    go_ret
    exact ⟨rfl, HR.out, hk1.setCell (fun _ => rfl) _⟩
set_option maxHeartbeats 1000000 in
theorem rname_any {w : World} {g : Nat} {V : Value} {ts : List Tk} {E : Nat} {σ : Sg} (h : Rd w g V ts E σ) :
    Calls Tryz.prog 95 #[.pointer (some ⟨g, 0, none⟩)] w fun e w' => e = .returned (.string (res noT (pOn σ pName))) ∧ Rd w' g V ts E (stX (pOn σ pName)) ∧ Kp (fun k => k = g) w w' := by
  have hs := h.head
  rcases name_cases σ with ⟨t, r, rfl, e1, e2⟩ | ⟨e1, e2, e3⟩
  · rw [e1]
    clear e1
    have e2' : nameB t = true := by rw [nameB_eq]; exact e2
    clear e2
    go_enter Tryz.func95, Tryz.ntmps95
    go_wp2_with fail
    refine (ahead_any h).mono ?_
    rintro e w1 ⟨rfl, hb1⟩
    have h1 := h.below hb1
    go_wp2_with fail
    refine (name_any _ _ hs).mono ?_
    rintro e w2 ⟨rfl, hb2⟩
    have h2 := h1.below hb2
    simp only [headS]
    rw [e2']
    obtain ⟨n, hn, hm, c0, c1, c2, c3, f1, f3⟩ := h2.open
    have hn' := hn
    simp only [leftS, List.length_cons] at hn'
    have hn2 : n < 9223372036854775807 := by omega
    have HR : Hid (∀ u : Value, u = .int .i64 ((n + 1 : Nat) : Int) → Rd (w2.setCell ⟨g, 1, none⟩ u) g V ts E (.inr r)) := fun u hu => h2.next hn hu
    have HK : Hid (Kp (fun k => k = g) w w2) := (Kp.ofBelow hb1).below hb2
    clear h2 h1 h hn hn' hm c0 c2 c3 f3 e2' hb1 hb2
    go_wp2_with fail
    go_ret
    exact ⟨rfl, HR.out _ rfl, HK.out.setCell (fun _ => rfl) _⟩
  · rw [e1, e2]
    clear e1 e2
    have e3' : nameB (headS σ) = false := by rw [nameB_eq]; exact e3
    clear e3
    go_enter Tryz.func95, Tryz.ntmps95
    go_wp2_with fail
    refine (ahead_any h).mono ?_
    rintro e w1 ⟨rfl, hb1⟩
    have h1 := h.below hb1
    go_wp2_with fail
    refine (name_any _ _ hs).mono ?_
    rintro e w2 ⟨rfl, hb2⟩
    have h2 := h1.below hb2
    rw [e3']
    obtain ⟨n, hn, hm, c0, c1, c2, c3, f1, f3⟩ := h2.open
    have HR : Hid (Rd (w2.setCell ⟨g, 3, none⟩ (.bool true)) g V ts E (.inl (leftS σ))) := h2.wrong
    have HK : Hid (Kp (fun k => k = g) w w2) := (Kp.ofBelow hb1).below hb2
    clear h2 h1 h hn hm c0 c1 c2 f1 e3' hb1 hb2
    go_wp2_with fail
    go_ret
    exact ⟨rfl, HR.out, HK.out.setCell (fun _ => rfl) _⟩
set_option maxHeartbeats 1000000 in
theorem rnumber_any {w : World} {g : Nat} {V : Value} {ts : List Tk} {E : Nat} {σ : Sg} (h : Rd w g V ts E σ) :
    Calls Tryz.prog 175 #[.pointer (some ⟨g, 0, none⟩)] w fun e w' => e = .returned (.int .i64 ((res 0 (pOn σ pNum) : Nat) : Int)) ∧ Rd w' g V ts E (stX (pOn σ pNum)) ∧ Kp (fun k => k = g) w w' := by
  have hs := h.head
  rcases num_cases σ with ⟨t, r, rfl, e1, e2⟩ | ⟨e1, e2, e3⟩
  · have er : res 0 (.inr ((numA t.data.toList).1, r) : PR Nat) = (numA t.data.toList).1 := rfl
    rw [e1, er]
    simp only [stX]
    obtain ⟨v, hv⟩ : ∃ v, (numA t.data.toList).1 = v := ⟨_, rfl⟩
    rw [hv]
    clear e1 er
    go_enter Tryz.func175, Tryz.ntmps175
    go_wp2_with fail
    refine (ahead_any h).mono ?_
    rintro e w1 ⟨rfl, hb1⟩
    have h1 := h.below hb1
    go_wp2_with fail
    refine (number_any _ _ hs).mono ?_
    rintro e w2 ⟨rfl, hb2⟩
    have h2 := h1.below hb2
    simp only [headS]
    rw [e2, hv]
    clear hv
    obtain ⟨n, hn, hm, c0, c1, c2, c3, f1, f3⟩ := h2.open
    have hn' := hn
    simp only [leftS, List.length_cons] at hn'
    have hn2 : n < 9223372036854775807 := by omega
    have HR : Hid (∀ u : Value, u = .int .i64 ((n + 1 : Nat) : Int) → Rd (w2.setCell ⟨g, 1, none⟩ u) g V ts E (.inr r)) := fun u hu => h2.next hn hu
    have HK : Hid (Kp (fun k => k = g) w w2) := (Kp.ofBelow hb1).below hb2
    clear h2 h1 h hn hn' hm c0 c2 c3 f3 e2 hb1 hb2
    go_wp2_with fail
    go_ret
    exact ⟨rfl, HR.out _ rfl, HK.out.setCell (fun _ => rfl) _⟩
  · rw [e1, e2]
    clear e1 e2
    go_enter Tryz.func175, Tryz.ntmps175
    go_wp2_with fail
    refine (ahead_any h).mono ?_
    rintro e w1 ⟨rfl, hb1⟩
    have h1 := h.below hb1
    go_wp2_with fail
    refine (number_any _ _ hs).mono ?_
    rintro e w2 ⟨rfl, hb2⟩
    have h2 := h1.below hb2
    rw [e3]
    obtain ⟨n, hn, hm, c0, c1, c2, c3, f1, f3⟩ := h2.open
    have HR : Hid (Rd (w2.setCell ⟨g, 3, none⟩ (.bool true)) g V ts E (.inl (leftS σ))) := h2.wrong
    have HK : Hid (Kp (fun k => k = g) w w2) := (Kp.ofBelow hb1).below hb2
    clear h2 h1 h hn hm c0 c1 c2 f1 e3 hb1 hb2
    generalize (numA (headS σ).data.toList).1 = v at *
    go_wp2_with fail
    go_ret
    exact ⟨rfl, HR.out, HK.out.setCell (fun _ => rfl) _⟩
end Go.Proofs.YtkfhlgajeejgeaaGreatDoor

/- Reading of more than one piece: a name and its number, a label, what a call is. -/
namespace Go.Proofs.YtkfhlgajeejgeaaGreatDoor
open Go.ChangeShapes Go.WideShapes Go.ChangeAt Go.RowKit
set_option linter.unusedVariables false
set_option linter.unusedSimpArgs false
set_option maxRecDepth 20000

/-- A block of words, newly laid. -/
theorem holds_new1 (w : World) (a : ByteArray) (t : TypeId) : HoldsS (w.alloc (.cells #[.string a] t)) w.heap.size [a] := by
  intro j u hu
  match j, hu with
  | 0, hu => simp at hu; subst hu; simp
theorem holds_new2 (w : World) (a b : ByteArray) (t : TypeId) : HoldsS (w.alloc (.cells #[.string a, .string b] t)) w.heap.size [a, b] := by
  intro j u hu
  match j, hu with
  | 0, hu => simp at hu; subst hu; simp
  | 1, hu => simp at hu; subst hu; simp
theorem holds_new3 (w : World) (a b c : ByteArray) (t : TypeId) : HoldsS (w.alloc (.cells #[.string a, .string b, .string c] t)) w.heap.size [a, b, c] := by
  intro j u hu
  match j, hu with
  | 0, hu => simp at hu; subst hu; simp
  | 1, hu => simp at hu; subst hu; simp
  | 2, hu => simp at hu; subst hu; simp
/-- One word, which must stand, in a block newly laid. -/
theorem one_new {w : World} {g : Nat} {V : Value} {ts : List Tk} {E : Nat} {σ : Sg} (k : ByteArray) (t : TypeId) {b : Nat} (hb0 : b = w.heap.size) (h : Rd w g V ts E σ) (hne : anyS [k] noT = false) :
    Calls Tryz.prog 94 #[.pointer (some ⟨g, 0, none⟩), .slice (some ⟨b, 0, none⟩) 1 1] (w.alloc (.cells #[.string k] t)) fun e w' => ∃ x, e = .returned (.string x) ∧ Rd w' g V ts E (stX (pOn σ (pMust k))) ∧ Kp (fun k => k = g) w w' := by
  subst hb0
  have hb : Below w.heap.size w (w.alloc (.cells #[.string k] t)) := (Below.refl _ _).alloc (Nat.le_refl _) _
  have := one_any [k] w.heap.size (h.below hb) (holds_new1 w k t) (by simp) hne
  refine this.mono ?_
  rintro e w' ⟨rfl, h1, h2⟩
  rw [one_must] at h1
  exact ⟨_, rfl, h1, (Kp.ofBelow hb).trans h2⟩
theorem take_new {w : World} {g : Nat} {V : Value} {ts : List Tk} {E : Nat} {σ : Sg} (k : ByteArray) (t : TypeId) {b : Nat} (hb0 : b = w.heap.size) (h : Rd w g V ts E σ) (hne : anyS [k] noT = false) :
    Calls Tryz.prog 145 #[.pointer (some ⟨g, 0, none⟩), .slice (some ⟨b, 0, none⟩) 1 1] (w.alloc (.cells #[.string k] t)) fun e w' => e = .returned (.string (res noT (pOn σ (pTake [k])))) ∧ Rd w' g V ts E (stX (pOn σ (pTake [k]))) ∧ Kp (fun k => k = g) w w' := by
  subst hb0
  have hb : Below w.heap.size w (w.alloc (.cells #[.string k] t)) := (Below.refl _ _).alloc (Nat.le_refl _) _
  have := take_any [k] w.heap.size (h.below hb) (holds_new1 w k t) (by simp) hne
  refine this.mono ?_
  rintro e w' ⟨rfl, h1, h2⟩
  exact ⟨rfl, h1, (Kp.ofBelow hb).trans h2⟩
theorem take_new2 {w : World} {g : Nat} {V : Value} {ts : List Tk} {E : Nat} {σ : Sg} (k l : ByteArray) (t : TypeId) {b : Nat} (hb0 : b = w.heap.size) (h : Rd w g V ts E σ) (hne : anyS [k, l] noT = false) :
    Calls Tryz.prog 145 #[.pointer (some ⟨g, 0, none⟩), .slice (some ⟨b, 0, none⟩) 2 2] (w.alloc (.cells #[.string k, .string l] t)) fun e w' => e = .returned (.string (res noT (pOn σ (pTake [k, l])))) ∧ Rd w' g V ts E (stX (pOn σ (pTake [k, l]))) ∧ Kp (fun k => k = g) w w' := by
  subst hb0
  have hb : Below w.heap.size w (w.alloc (.cells #[.string k, .string l] t)) := (Below.refl _ _).alloc (Nat.le_refl _) _
  have := take_any [k, l] w.heap.size (h.below hb) (holds_new2 w k l t) (by simp) hne
  refine this.mono ?_
  rintro e w' ⟨rfl, h1, h2⟩
  exact ⟨rfl, h1, (Kp.ofBelow hb).trans h2⟩
theorem one_new2 {w : World} {g : Nat} {V : Value} {ts : List Tk} {E : Nat} {σ : Sg} (k l : ByteArray) (t : TypeId) {b : Nat} (hb0 : b = w.heap.size) (h : Rd w g V ts E σ) (hne : anyS [k, l] noT = false) :
    Calls Tryz.prog 94 #[.pointer (some ⟨g, 0, none⟩), .slice (some ⟨b, 0, none⟩) 2 2] (w.alloc (.cells #[.string k, .string l] t)) fun e w' => e = .returned (.string (res noT (pOn σ (pOne [k, l])))) ∧ Rd w' g V ts E (stX (pOn σ (pOne [k, l]))) ∧ Kp (fun k => k = g) w w' := by
  subst hb0
  have hb : Below w.heap.size w (w.alloc (.cells #[.string k, .string l] t)) := (Below.refl _ _).alloc (Nat.le_refl _) _
  have := one_any [k, l] w.heap.size (h.below hb) (holds_new2 w k l t) (by simp) hne
  refine this.mono ?_
  rintro e w' ⟨rfl, h1, h2⟩
  exact ⟨rfl, h1, (Kp.ofBelow hb).trans h2⟩
theorem one_new3 {w : World} {g : Nat} {V : Value} {ts : List Tk} {E : Nat} {σ : Sg} (k l m : ByteArray) (t : TypeId) {b : Nat} (hb0 : b = w.heap.size) (h : Rd w g V ts E σ) (hne : anyS [k, l, m] noT = false) :
    Calls Tryz.prog 94 #[.pointer (some ⟨g, 0, none⟩), .slice (some ⟨b, 0, none⟩) 3 3] (w.alloc (.cells #[.string k, .string l, .string m] t)) fun e w' => e = .returned (.string (res noT (pOn σ (pOne [k, l, m])))) ∧ Rd w' g V ts E (stX (pOn σ (pOne [k, l, m]))) ∧ Kp (fun k => k = g) w w' := by
  subst hb0
  have hb : Below w.heap.size w (w.alloc (.cells #[.string k, .string l, .string m] t)) := (Below.refl _ _).alloc (Nat.le_refl _) _
  have := one_any [k, l, m] w.heap.size (h.below hb) (holds_new3 w k l m t) (by simp) hne
  refine this.mono ?_
  rintro e w' ⟨rfl, h1, h2⟩
  exact ⟨rfl, h1, (Kp.ofBelow hb).trans h2⟩
set_option maxHeartbeats 1000000 in
theorem named_any {w : World} {g : Nat} {V : Value} {ts : List Tk} {E : Nat} {σ : Sg} (h : Rd w g V ts E σ) :
    Calls Tryz.prog 150 #[.pointer (some ⟨g, 0, none⟩)] w fun e w' => ∃ v : NmS, e = .returned (.tuple #[.string v.name, .int .i64 v.n]) ∧ Res (pOn σ pValue) v ∧ Rd w' g V ts E (stX (pOn σ pValue)) ∧ Kp (fun k => k = g) w w' := by
  have HV : Hid (stX (pOn (stX (pOn (stX (pOn (stX (pOn σ pName)) (pMust kEq))) pNum)) (pMust kSemi)) = stX (pOn σ pValue) ∧
    Res (pOn σ pValue) ⟨res noT (pOn σ pName), (res 0 (pOn (stX (pOn (stX (pOn σ pName)) (pMust kEq))) pNum) : Nat)⟩) := value_st σ
  go_enter Tryz.func150, Tryz.ntmps150
  go_wp2_with fail
  refine (rname_any h).mono ?_
  rintro e w1 ⟨rfl, h1, k1⟩
  generalize res noT (pOn σ pName) = x1 at *
  generalize stX (pOn σ pName) = σ1 at *
  go_wp2_with fail
  refine (one_new kEq _ rfl h1 (by decide +kernel)).mono ?_
  rintro e w2 ⟨x2, rfl, h2, k2⟩
  have k2' := k1.trans k2
  clear k1 k2 h1 h
  generalize stX (pOn σ1 (pMust kEq)) = σ2 at *
  go_wp2_with fail
  refine (rnumber_any h2).mono ?_
  rintro e w3 ⟨rfl, h3, k3⟩
  have k3' := k2'.trans k3
  clear k2' k3 h2
  generalize (res 0 (pOn σ2 pNum) : Nat) = x3 at *
  generalize stX (pOn σ2 pNum) = σ3 at *
  go_wp2_with fail
  refine (one_new kSemi _ rfl h3 (by decide +kernel)).mono ?_
  rintro e w4 ⟨x4, rfl, h4, k4⟩
  have k4' := k3'.trans k4
  clear k3' k4 h3
  rw [HV.out.1] at h4
  go_wp2_with fail
  go_ret2
  exact ⟨_, rfl, HV.out.2, h4, k4'⟩
set_option maxHeartbeats 1000000 in
theorem inner_any {w : World} {g : Nat} {V : Value} {ts : List Tk} {E : Nat} {σ : Sg} (h : Rd w g V ts E σ) :
    Calls Tryz.prog 151 #[.pointer (some ⟨g, 0, none⟩)] w fun e w' => ∃ x : ByteArray, e = .returned (.string x) ∧ Res (pOn σ pIn) x ∧ Rd w' g V ts E (stX (pOn σ pIn)) ∧ Kp (fun k => k = g) w w' := by
  have HV : Hid (stX (pOn (stX (pOn (stX (pOn σ (pMust kPar))) pName)) (pMust kRap)) = stX (pOn σ pIn) ∧ Res (pOn σ pIn) (res noT (pOn (stX (pOn σ (pMust kPar))) pName))) := in_st σ
  go_enter Tryz.func151, Tryz.ntmps151
  go_wp2_with fail
  refine (one_new kPar _ rfl h (by decide +kernel)).mono ?_
  rintro e w1 ⟨x1, rfl, h1, k1⟩
  generalize stX (pOn σ (pMust kPar)) = σ1 at *
  go_wp2_with fail
  refine (rname_any h1).mono ?_
  rintro e w2 ⟨rfl, h2, k2⟩
  have k2' := k1.trans k2
  clear k1 k2 h1 h
  generalize res noT (pOn σ1 pName) = x2 at *
  generalize stX (pOn σ1 pName) = σ2 at *
  go_wp2_with fail
  refine (one_new kRap _ rfl h2 (by decide +kernel)).mono ?_
  rintro e w3 ⟨x3, rfl, h3, k3⟩
  have k3' := k2'.trans k3
  clear k2' k3 h2
  rw [HV.out.1] at h3
  go_wp2_with fail
  go_ret
  exact ⟨_, rfl, HV.out.2, h3, k3'⟩
set_option maxHeartbeats 1000000 in
theorem label_any {w : World} {g : Nat} {V : Value} {ts : List Tk} {E : Nat} {σ : Sg} (h : Rd w g V ts E σ) :
    Calls Tryz.prog 176 #[.pointer (some ⟨g, 0, none⟩)] w fun e w' => e = .returned (.int .i64 (res 1 (pOn σ pLab))) ∧ Rd w' g V ts E (stX (pOn σ pLab)) ∧ Kp (fun k => k = g) w w' := by
  have HV : Hid (stX (pOn σ (pTake [kOptional, kRepeated])) = stX (pOn σ pLab) ∧ labV (res noT (pOn σ (pTake [kOptional, kRepeated]))) = res 1 (pOn σ pLab)) := label_st σ
  rw [← HV.out.1, ← HV.out.2]
  clear HV
  obtain ⟨x, hx⟩ : ∃ x, res noT (pOn σ (pTake [kOptional, kRepeated])) = x := ⟨_, rfl⟩
  rw [hx]
  have HX : Hid (res noT (pOn σ (pTake [kOptional, kRepeated])) = x) := hx
  clear hx
  cases d1 : (x.data.toList == kOptional.data.toList) with
  | true =>
    have e1 : labV x = 2 := by unfold labV; rw [if_pos (by simpa using d1)]
    rw [e1]
    have d1' : (x.toList == [111, 112, 116, 105, 111, 110, 97, 108]) = true := by rw [ByteArray.toList_eq]; exact d1
    clear d1 e1
    go_enter Tryz.func176, Tryz.ntmps176
    go_wp2_with fail
    refine (take_new2 kOptional kRepeated _ rfl h (by decide +kernel)).mono ?_
    rintro e w1 ⟨rfl, h1, k1⟩
    rw [HX.out]
    clear HX h
    go_wp2_with fail
    go_ret
    exact ⟨rfl, h1, k1⟩
  | false =>
    have d1' : (x.toList == [111, 112, 116, 105, 111, 110, 97, 108]) = false := by rw [ByteArray.toList_eq]; exact d1
    have f1 : ¬ x.data.toList = kOptional.data.toList := by rw [beq_eq_false_iff_ne] at d1; exact d1
    clear d1
    cases d2 : (x.data.toList == kRepeated.data.toList) with
    | true =>
      have e1 : labV x = 3 := by unfold labV; rw [if_neg f1, if_pos (by simpa using d2)]
      rw [e1]
      have d2' : (x.toList == [114, 101, 112, 101, 97, 116, 101, 100]) = true := by rw [ByteArray.toList_eq]; exact d2
      clear d2 e1 f1
      go_enter Tryz.func176, Tryz.ntmps176
      go_wp2_with fail
      refine (take_new2 kOptional kRepeated _ rfl h (by decide +kernel)).mono ?_
      rintro e w1 ⟨rfl, h1, k1⟩
      rw [HX.out]
      clear HX h
      go_wp2_with fail
      go_ret
      exact ⟨rfl, h1, k1⟩
    | false =>
      have f2 : ¬ x.data.toList = kRepeated.data.toList := by rw [beq_eq_false_iff_ne] at d2; exact d2
      have e1 : labV x = 1 := by unfold labV; rw [if_neg f1, if_neg f2]
      rw [e1]
      have d2' : (x.toList == [114, 101, 112, 101, 97, 116, 101, 100]) = false := by rw [ByteArray.toList_eq]; exact d2
      clear d2 e1 f1 f2
      go_enter Tryz.func176, Tryz.ntmps176
      go_wp2_with fail
      refine (take_new2 kOptional kRepeated _ rfl h (by decide +kernel)).mono ?_
      rintro e w1 ⟨rfl, h1, k1⟩
      rw [HX.out]
      clear HX h
      go_wp2_with fail
      go_ret
      exact ⟨rfl, h1, k1⟩
end Go.Proofs.YtkfhlgajeejgeaaGreatDoor

/- What the reader's 'call' answers: a method. -/
namespace Go.Proofs.YtkfhlgajeejgeaaGreatDoor
open Go.ChangeShapes Go.WideShapes Go.ChangeAt Go.RowKit
set_option linter.unusedVariables false
set_option linter.unusedSimpArgs false
set_option maxRecDepth 20000

theorem Rd.alloc {w : World} {g : Nat} {V : Value} {ts : List Tk} {E : Nat} {σ : Sg} (h : Rd w g V ts E σ) (o : Obj) : Rd (w.alloc o) g V ts E σ := h.below ((Below.refl _ _).alloc (Nat.le_refl _) _)
/-- A cell of a later block is written. -/
theorem Rd.other {w : World} {g : Nat} {V : Value} {ts : List Tk} {E : Nat} {σ : Sg} (h : Rd w g V ts E σ) {p : Addr} (hp : g < p.block) (u : Value) : Rd (w.setCell p u) g V ts E σ := by
  obtain ⟨a, cap, h1, h2, h3, h4, h5⟩ := h.row
  have hk : Kp (fun k => k = p.block) w (w.setCell p u) := Kp.setCell (S := fun k => k = p.block) (Kp.refl _ w) (fun _ => rfl) u
  refine ⟨h.glob.kp hk (by have := h.pos; omega), h.pos, (hk.block g h.lt (by omega)).trans h.blk, h.left, h.rest, ⟨a, cap, h1, h2, h3, h4, ?_⟩, h.small, h.few⟩
  by_cases hne : ts = []
  · subst hne; exact HoldsT.nil
  refine h5.kp hk ?_
  intro b hb' e
  obtain ⟨q, hq, hqg⟩ := h4 hne
  rw [hb'] at hq
  cases hq
  simp only at e
  omega

set_option maxHeartbeats 1000000 in
theorem rcall_any {w : World} {g : Nat} {V : Value} {ts : List Tk} {E : Nat} {σ : Sg} (h : Rd w g V ts E σ) :
    Calls Tryz.prog 99 #[.pointer (some ⟨g, 0, none⟩)] w fun e w' => ∃ m : MtS, e = .returned (.agg #[.string m.name, .string m.inn, .string m.out]) ∧ Res (pOn σ pCall) m ∧ Rd w' g V ts E (stX (pOn σ pCall)) ∧ Kp (fun k => k = g) w w' := by
  have HV : Hid (∀ a b : ByteArray, Res (pOn (stX (pOn σ pName)) pIn) a → Res (pOn (stX (pOn (stX (pOn (stX (pOn σ pName)) pIn)) (pMust kReturns))) pIn) b →
    stX (pOn (stX (pOn (stX (pOn (stX (pOn (stX (pOn σ pName)) pIn)) (pMust kReturns))) pIn)) (pMust kSemi)) = stX (pOn σ pCall) ∧ Res (pOn σ pCall) ⟨res noT (pOn σ pName), a, b⟩) := call_st σ
  have hg := h.lt
  go_enter Tryz.func99, Tryz.ntmps99
  go_wp2_with fail
  refine (rname_any (h.alloc _)).mono ?_
  rintro e w1 ⟨rfl, h1, k1⟩
  have B1 := (Blk.new w #[.string ⟨#[]⟩, .string ⟨#[]⟩, .string ⟨#[]⟩] 54).kp k1 (by omega)
  have K1 : Kp (fun k => k = g) w w1 := (Kp.ofBelow ((Below.refl _ _).alloc (Nat.le_refl _) _)).trans k1
  have L1 := B1.lt
  clear k1 h
  generalize res noT (pOn σ pName) = x1 at *
  generalize stX (pOn σ pName) = σ1 at *
  obtain ⟨R, hR⟩ : ∃ R, w.heap.size = R := ⟨_, rfl⟩
  rw [hR] at B1 L1 hg ⊢
  have HR : Hid (w.heap.size = R) := hR
  clear hR
  go_wp2_with fail
  refine (inner_any (h1.alloc _)).mono ?_
  rintro e w2 ⟨x2, rfl, r2, h2, k2⟩
  have BM2 := (Blk.new w1 #[.string x1, .string ⟨#[]⟩, .string ⟨#[]⟩] 54).kp k2 (by have := h1.lt; omega)
  have BR2 := (B1.below ((Below.refl _ _).alloc (Nat.le_refl _) _)).kp k2 (by omega)
  have K2 := (K1.alloc _).trans k2
  have hgM : g < w1.heap.size := h1.lt
  have hRM : R < w1.heap.size := L1
  clear k2 h1 K1 B1 L1
  generalize stX (pOn σ1 pIn) = σ2 at *
  generalize w1.heap.size = M at *
  have m1 := BM2.cell 1
  have fm1 := BM2.froz 1
  simp only [List.getElem?_toArray, List.getElem?_cons_succ, List.getElem?_cons_zero] at m1
  have h3 : Rd (w2.setCell ⟨M, 1, none⟩ (.string x2)) g V ts E σ2 := h2.other hgM _
  have BM3 : Blk (w2.setCell ⟨M, 1, none⟩ (.string x2)) M #[.string x1, .string x2, .string ⟨#[]⟩] 54 := BM2.set 1 _ rfl
  have BR3 : Blk (w2.setCell ⟨M, 1, none⟩ (.string x2)) R #[.string ⟨#[]⟩, .string ⟨#[]⟩, .string ⟨#[]⟩] 54 := BR2.other (by simp only; omega) _
  have K3 : Kp (fun k => k = g) w (w2.setCell ⟨M, 1, none⟩ (.string x2)) := K2.setCell (fun hlt => by have := HR.out; simp only at hlt; omega) _
  clear h2 BM2 BR2 K2
  go_wp2_with fail
  clear m1 fm1
  refine (one_new kReturns _ (by simp [World.setCell]) h3 (by decide +kernel)).mono ?_
  rintro e w3 ⟨x3, rfl, h4, k4⟩
  have BM4 := BM3.kp k4 (by omega)
  have BR4 := BR3.kp k4 (by omega)
  have K4 := K3.trans k4
  clear k4 h3 K3 BM3 BR3
  generalize stX (pOn σ2 (pMust kReturns)) = σ3 at *
  go_wp2_with fail
  refine (inner_any h4).mono ?_
  rintro e w4 ⟨x4, rfl, r4, h5, k5⟩
  have BM5 := BM4.kp k5 (by omega)
  have BR5 := BR4.kp k5 (by omega)
  have K5 := K4.trans k5
  clear k5 h4 K4 BM4 BR4
  generalize stX (pOn σ3 pIn) = σ4 at *
  have m1 := BM5.cell 2
  have fm1 := BM5.froz 2
  simp only [List.getElem?_toArray, List.getElem?_cons_succ, List.getElem?_cons_zero] at m1
  have h6 : Rd (w4.setCell ⟨M, 2, none⟩ (.string x4)) g V ts E σ4 := h5.other hgM _
  have BM6 : Blk (w4.setCell ⟨M, 2, none⟩ (.string x4)) M #[.string x1, .string x2, .string x4] 54 := BM5.set 2 _ rfl
  have BR6 : Blk (w4.setCell ⟨M, 2, none⟩ (.string x4)) R #[.string ⟨#[]⟩, .string ⟨#[]⟩, .string ⟨#[]⟩] 54 := BR5.other (by simp only; omega) _
  have K6 : Kp (fun k => k = g) w (w4.setCell ⟨M, 2, none⟩ (.string x4)) := K5.setCell (fun hlt => by have := HR.out; simp only at hlt; omega) _
  clear h5 BM5 BR5 K5
  go_wp2_with fail
  clear m1 fm1
  refine (one_new kSemi _ (by simp [World.setCell]) h6 (by decide +kernel)).mono ?_
  rintro e w5 ⟨x5, rfl, h7, k7⟩
  have BM7 := BM6.kp k7 (by omega)
  have BR7 := BR6.kp k7 (by omega)
  have K7 := K6.trans k7
  clear k7 h6 K6 BM6 BR6
  obtain ⟨hz1, hz2⟩ := HV.out x2 x4 r2 r4
  rw [hz1] at h7
  have HZ : Hid (Res (pOn σ pCall) ⟨x1, x2, x4⟩) := hz2
  clear HV hz1 hz2
  have m0 := BM7.cell 0
  have m1 := BM7.cell 1
  have m2 := BM7.cell 2
  have r0 := BR7.cell 0
  have r1 := BR7.cell 1
  have r2 := BR7.cell 2
  have f0 := BR7.froz 0
  have f1 := BR7.froz 1
  have f2 := BR7.froz 2
  simp only [List.getElem?_toArray, List.getElem?_cons_succ, List.getElem?_cons_zero] at m0 m1 m2 r0 r1 r2
  go_wp2_with fail
  refine bodyPost_ret (results_cell rfl _ _ _ ⟨R, 0, none⟩ (.agg #[.string x1, .string x2, .string x4]) (by go_simp) (by go_simp)) rfl ?_
  refine ⟨⟨x1, x2, x4⟩, rfl, HZ.out, ?_, ?_⟩
  · exact ((h7.other hg _).other hg _).other hg _
  · have hlt : R < w.heap.size → R = g := fun hlt => by have := HR.out; omega
    exact ((K7.setCell hlt _).setCell hlt _).setCell hlt _
end Go.Proofs.YtkfhlgajeejgeaaGreatDoor

/- How many pieces are left where one does not fit; what a loop's round is measured by. -/
namespace Go.Proofs.YtkfhlgajeejgeaaGreatDoor
open Go.ChangeShapes Go.WideShapes Go.ChangeAt Go.RowKit
set_option linter.unusedVariables false
set_option linter.unusedSimpArgs false
set_option maxRecDepth 20000

def InP {α : Type} (x : PR α) (n : Nat) : Prop := ∀ k, x = .inl k → k ≤ n
theorem in_inr {α : Type} (a : α) (r : List ByteArray) (n : Nat) : InP (.inr (a, r)) n := fun k e => by cases e
theorem in_bind {α β : Type} {x : PR α} {f : α → List ByteArray → PR β} {n : Nat} (h : InP x n) (hl : LeP x n) (hf : ∀ a r, InP (f a r) r.length) : InP (pBind x f) n := by
  cases x with
  | inl k => intro j e; exact h j (by simpa [pBind] using e)
  | inr x => obtain ⟨a, r⟩ := x; intro j e; exact Nat.le_trans (hf a r j e) (hl a r rfl)
theorem must_in (k : ByteArray) (ts : List ByteArray) : InP (pMust k ts) ts.length := by
  intro j e; unfold pMust at e; split at e <;> simp at e; omega
theorem name_in (ts : List ByteArray) : InP (pName ts) ts.length := (pName_sh ts).1
theorem num_in (ts : List ByteArray) : InP (pNum ts) ts.length := (pNum_sh ts).1
theorem type_in (ts : List ByteArray) : InP (pType ts) ts.length := by
  cases ts with
  | nil => intro k e; simp [pType] at e; omega
  | cons t r =>
    unfold pType
    simp only
    split
    · exact in_inr _ _ _
    · exact in_bind (name_in _) (name_lt _).le fun _ _ => in_inr _ _ _
theorem field_in (ts : List ByteArray) : InP (pField ts) ts.length := by
  unfold pField
  have hl := label_le ts
  refine in_bind (fun k e => Nat.le_trans (type_in _ k e) hl) (fun a r e => Nat.le_trans (Nat.le_of_lt (type_lt _ a r e)) hl) fun a r => ?_
  exact in_bind (name_in r) (name_lt r).le fun _ r => in_bind (must_in _ r) (must_lt _ r).le fun _ r => in_bind (num_in r) (num_lt r).le fun _ r => in_bind (must_in _ r) (must_lt _ r).le fun _ r => in_inr _ _ _
theorem more_in : ∀ (f : Nat) (acc : List Int) (ts : List ByteArray), InP (pMore f acc ts) ts.length
  | 0, acc, ts => in_bind (must_in _ ts) (must_lt _ ts).le fun _ r => in_inr _ _ _
  | f + 1, acc, ts => by
    unfold pMore
    split
    · have h := in_bind (x := pNum ts.tail) (f := fun n r => pMore f (acc ++ [(n : Int)]) r) (num_in _) (num_lt ts.tail).le fun n r => more_in f _ r
      exact fun a e => Nat.le_trans (h a e) (by simp)
    · exact in_bind (must_in _ ts) (must_lt _ ts).le fun _ r => in_inr _ _ _
theorem member_in (m : MsS) (ts : List ByteArray) : InP (pMember m ts) ts.length := by
  unfold pMember
  split
  · have h := in_bind (x := pNum ts.tail) (f := fun n r => pBind (pMore r.length (m.reserved ++ [(n : Int)]) r) fun l r2 => (.inr (⟨m.name, m.fields, l⟩, r2) : PR MsS)) (num_in _) (num_lt ts.tail).le fun n r => in_bind (more_in _ _ r) (more_le _ _ r) fun _ r => in_inr _ _ _
    exact fun a e => Nat.le_trans (h a e) (by simp)
  · exact in_bind (field_in ts) (field_lt ts).le fun _ r => in_inr _ _ _
theorem members_in : ∀ (f : Nat) (m : MsS) (ts : List ByteArray), InP (pMembers f m ts) ts.length
  | 0, m, ts => fun k e => by simp [pMembers] at e; omega
  | f + 1, m, ts => by
    unfold pMembers
    split
    · exact in_inr _ _ _
    · exact in_bind (member_in m ts) (member_lt m ts).le fun m' r => members_in f m' r
theorem msg_in (ts : List ByteArray) : InP (pMsg ts) ts.length := by
  unfold pMsg
  exact in_bind (name_in ts) (name_lt ts).le fun _ r => in_bind (must_in _ r) (must_lt _ r).le fun _ r => members_in _ _ r
theorem value_in (ts : List ByteArray) : InP (pValue ts) ts.length := by
  unfold pValue
  exact in_bind (name_in ts) (name_lt ts).le fun _ r => in_bind (must_in _ r) (must_lt _ r).le fun _ r => in_bind (num_in r) (num_lt r).le fun _ r => in_bind (must_in _ r) (must_lt _ r).le fun _ r => in_inr _ _ _
theorem values_in : ∀ (f : Nat) (m : EnS) (ts : List ByteArray), InP (pValues f m ts) ts.length
  | 0, m, ts => fun k e => by simp [pValues] at e; omega
  | f + 1, m, ts => by
    unfold pValues
    split
    · exact in_inr _ _ _
    · exact in_bind (value_in ts) (value_lt ts).le fun m' r => values_in f _ r
theorem enum_in (ts : List ByteArray) : InP (pEnum ts) ts.length := by
  unfold pEnum
  exact in_bind (name_in ts) (name_lt ts).le fun _ r => in_bind (must_in _ r) (must_lt _ r).le fun _ r => values_in _ _ r
theorem call_in (ts : List ByteArray) : InP (pCall ts) ts.length := by
  unfold pCall
  exact in_bind (name_in ts) (name_lt ts).le fun _ r => in_bind (must_in _ r) (must_lt _ r).le fun _ r => in_bind (name_in r) (name_lt r).le fun _ r => in_bind (must_in _ r) (must_lt _ r).le fun _ r => in_bind (must_in _ r) (must_lt _ r).le fun _ r => in_bind (must_in _ r) (must_lt _ r).le fun _ r => in_bind (name_in r) (name_lt r).le fun _ r => in_bind (must_in _ r) (must_lt _ r).le fun _ r => in_bind (must_in _ r) (must_lt _ r).le fun _ r => in_inr _ _ _
/-- What a loop's round is measured by: the reader's own cells. -/
def flagOf : Option Value → Nat
  | some (.bool true) => 0
  | _ => 1
def msr (g N : Nat) (w : World) : Nat := 2 * (N - (intOf ((w.cell? ⟨g, 1, none⟩).getD undef)).toNat) + flagOf (w.cell? ⟨g, 3, none⟩)
def weigh (σ : Sg) : Nat := 2 * leftS σ + (if badS σ = true then 0 else 1)
theorem msr_rd {w : World} {g : Nat} {V : Value} {ts : List Tk} {E : Nat} {σ : Sg} (h : Rd w g V ts E σ) : msr g ts.length w = weigh σ := by
  obtain ⟨n, hn, hm, c0, c1, c2, c3, f1, f3⟩ := h.open
  unfold msr weigh
  rw [c1, c3]
  simp only [Option.getD_some, intOf, Int.toNat_natCast]
  have : ts.length - n = leftS σ := by omega
  rw [this]
  cases badS σ <;> rfl
theorem weigh_lt {α : Type} {x : PR α} {r : List ByteArray} (h1 : LtP x r.length) (h2 : InP x r.length) : weigh (stX x) < weigh (.inr r) := by
  cases x with
  | inl k => have := h2 k rfl; simp [weigh, stX, leftS, badS]; omega
  | inr x => obtain ⟨a, r'⟩ := x; have := h1 a r' rfl; simp [weigh, stX, leftS, badS]; omega
/-- How long a list may be. -/
def Bd (N : Nat) (σ : Sg) (n : Nat) : Prop := n ≤ N + 1 ∧ ∀ r, σ = .inr r → n + r.length ≤ N
theorem Bd.step {α : Type} {N n : Nat} {r : List ByteArray} {x : PR α} (h : Bd N (.inr r) n) (hx : LtP x r.length) : Bd N (stX x) (n + 1) := by
  have h0 := h.2 r rfl
  refine ⟨by omega, fun r' e => ?_⟩
  cases x with
  | inl k => cases e
  | inr x =>
    obtain ⟨a, r1⟩ := x
    simp only [stX, Sum.inr.injEq] at e
    subst e
    have := hx a r1 rfl
    omega
theorem Bd.keep {α : Type} {N n : Nat} {r : List ByteArray} {x : PR α} (h : Bd N (.inr r) n) (hx : LeP x r.length) : Bd N (stX x) n := by
  have h0 := h.2 r rfl
  refine ⟨by omega, fun r' e => ?_⟩
  cases x with
  | inl k => cases e
  | inr x =>
    obtain ⟨a, r1⟩ := x
    simp only [stX, Sum.inr.injEq] at e
    subst e
    have := hx a r1 rfl
    omega
theorem Rd.kp {S : Nat → Prop} {w w' : World} {g : Nat} {V : Value} {ts : List Tk} {E : Nat} {σ : Sg} (h : Rd w g V ts E σ) (hk : Kp S w w') (hs : ∀ k, k ≤ g → ¬ S k) : Rd w' g V ts E σ := by
  obtain ⟨a, cap, h1, h2, h3, h4, h5⟩ := h.row
  refine ⟨h.glob.kp hk (hs 1 (by have := h.pos; omega)), h.pos, (hk.block g h.lt (hs g (Nat.le_refl _))).trans h.blk, h.left, h.rest, ⟨a, cap, h1, h2, h3, h4, ?_⟩, h.small, h.few⟩
  by_cases hne : ts = []
  · subst hne; exact HoldsT.nil
  refine h5.kp hk ?_
  intro b hb'
  obtain ⟨q, hq, hqg⟩ := h4 hne
  rw [hb'] at hq
  cases hq
  exact hs q (by omega)
/-- The cells of an element newly laid. -/
theorem cells_new (w : World) (cs : Array Value) (t : TypeId) : ∀ j u, cs.toList[j]? = some u → (w.alloc (.cells cs t)).cell? ((⟨w.heap.size, 0, none⟩ : Addr).add j) = some u := by
  intro j u hu
  rw [Addr.add_lit, Nat.zero_add, World.cell?_alloc_at _ _ _ _ rfl]
  simpa using hu
end Go.Proofs.YtkfhlgajeejgeaaGreatDoor
