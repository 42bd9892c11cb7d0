/- Reading a schema's pieces, in plain mathematics: what the pieces make, or how many are left where one does not fit. -/
import Derived.Test.YtfffjfccochccaaDoorLxNum
import Derived.Test.YtfffjfccochccaaDoorRuNameQ
import Derived.Test.YtfffjfccochccaaDoorScMath
import Derived.Test.YtfffjfccochccaaDoorTkRow
namespace Go.Proofs.YtfffjfccochccaaDoor
open Go.RowKit
set_option linter.unusedVariables false
set_option linter.unusedSimpArgs false
set_option maxRecDepth 20000

/-- What is read, and the rest; or how many are left. -/
abbrev PR (α : Type) := Sum Nat (α × List ByteArray)
def pBind {α β : Type} (x : PR α) (f : α → List ByteArray → PR β) : PR β := match x with
  | .inl n => .inl n
  | .inr (a, r) => f a r
def pIs (k : ByteArray) (ts : List ByteArray) : Bool := match ts with
  | [] => false
  | t :: _ => t.data.toList == k.data.toList
def pMust (k : ByteArray) (ts : List ByteArray) : PR Unit := if pIs k ts = true then .inr ((), ts.tail) else .inl ts.length
def pName (ts : List ByteArray) : PR ByteArray := match ts with
  | [] => .inl 0
  | t :: r => if nameK t.data.toList = true then .inr (t, r) else .inl (r.length + 1)
def pNum (ts : List ByteArray) : PR Nat := match ts with
  | [] => .inl 0
  | t :: r => if (numA t.data.toList).2 = true then .inr ((numA t.data.toList).1, r) else .inl (r.length + 1)

def kSchema : ByteArray := ⟨#[115, 99, 104, 101, 109, 97]⟩
def kMessage : ByteArray := ⟨#[109, 101, 115, 115, 97, 103, 101]⟩
def kEnum : ByteArray := ⟨#[101, 110, 117, 109]⟩
def kCall : ByteArray := ⟨#[99, 97, 108, 108]⟩
def kReturns : ByteArray := ⟨#[114, 101, 116, 117, 114, 110, 115]⟩
def kReserved : ByteArray := ⟨#[114, 101, 115, 101, 114, 118, 101, 100]⟩
def kOptional : ByteArray := ⟨#[111, 112, 116, 105, 111, 110, 97, 108]⟩
def kRepeated : ByteArray := ⟨#[114, 101, 112, 101, 97, 116, 101, 100]⟩
def kSemi : ByteArray := ⟨#[59]⟩
def kOpen : ByteArray := ⟨#[123]⟩
def kShut : ByteArray := ⟨#[125]⟩
def kPar : ByteArray := ⟨#[40]⟩
def kRap : ByteArray := ⟨#[41]⟩
def kEq : ByteArray := ⟨#[61]⟩
def kComma : ByteArray := ⟨#[44]⟩
/-- A scalar type's kind; 0: it is none. -/
def scalN (t : ByteArray) : Nat := if t.data.toList = [105, 110, 116, 51, 50] then 1 else if t.data.toList = [105, 110, 116, 54, 52] then 2 else if t.data.toList = [98, 111, 111, 108] then 3 else if t.data.toList = [116, 101, 120, 116] then 4 else if t.data.toList = [98, 121, 116, 101, 115] then 5 else 0

/-- Numbers, behind the first one. -/
def pMore : Nat → List Int → List ByteArray → PR (List Int)
  | 0, acc, ts => pBind (pMust kSemi ts) fun _ r => .inr (acc, r)
  | f + 1, acc, ts => if pIs kComma ts = true then pBind (pNum ts.tail) fun n r => pMore f (acc ++ [(n : Int)]) r else pBind (pMust kSemi ts) fun _ r => .inr (acc, r)
def pLabel (ts : List ByteArray) : Int × List ByteArray := if pIs kOptional ts = true then (2, ts.tail) else if pIs kRepeated ts = true then (3, ts.tail) else (1, ts)
def pType (ts : List ByteArray) : PR (Int × ByteArray) := match ts with
  | [] => .inl 0
  | t :: r => if 0 < scalN t then .inr (((scalN t : Nat), ⟨#[]⟩), r) else pBind (pName ts) fun n r => .inr ((0, n), r)
def pField (ts : List ByteArray) : PR FlS :=
  pBind (pType (pLabel ts).2) fun ty r1 => pBind (pName r1) fun n r2 => pBind (pMust kEq r2) fun _ r3 => pBind (pNum r3) fun g r4 => pBind (pMust kSemi r4) fun _ r5 => .inr (⟨n, g, (pLabel ts).1, ty.1, ty.2⟩, r5)
/-- A field, or a line of reserved numbers. -/
def pMember (m : MsS) (ts : List ByteArray) : PR MsS :=
  if pIs kReserved ts = true then pBind (pNum ts.tail) fun n r => pBind (pMore r.length (m.reserved ++ [(n : Int)]) r) fun l r2 => .inr (⟨m.name, m.fields, l⟩, r2)
  else pBind (pField ts) fun f r => .inr (⟨m.name, m.fields ++ [f], m.reserved⟩, r)
def pMembers : Nat → MsS → List ByteArray → PR MsS
  | 0, _, ts => .inl ts.length
  | f + 1, m, ts => if pIs kShut ts = true then .inr (m, ts.tail) else pBind (pMember m ts) fun m' r => pMembers f m' r
def pMsg (ts : List ByteArray) : PR MsS := pBind (pName ts) fun n r => pBind (pMust kOpen r) fun _ r2 => pMembers (r2.length + 1) ⟨n, [], []⟩ r2
def pValue (ts : List ByteArray) : PR NmS := pBind (pName ts) fun n r => pBind (pMust kEq r) fun _ r2 => pBind (pNum r2) fun v r3 => pBind (pMust kSemi r3) fun _ r4 => .inr (⟨n, v⟩, r4)
def pValues : Nat → EnS → List ByteArray → PR EnS
  | 0, _, ts => .inl ts.length
  | f + 1, m, ts => if pIs kShut ts = true then .inr (m, ts.tail) else pBind (pValue ts) fun v r => pValues f ⟨m.name, m.values ++ [v]⟩ r
def pEnum (ts : List ByteArray) : PR EnS := pBind (pName ts) fun n r => pBind (pMust kOpen r) fun _ r2 => pValues (r2.length + 1) ⟨n, []⟩ r2
def pCall (ts : List ByteArray) : PR MtS :=
  pBind (pName ts) fun n r => pBind (pMust kPar r) fun _ r => pBind (pName r) fun i r => pBind (pMust kRap r) fun _ r => pBind (pMust kReturns r) fun _ r => pBind (pMust kPar r) fun _ r => pBind (pName r) fun o r => pBind (pMust kRap r) fun _ r => pBind (pMust kSemi r) fun _ r => .inr (⟨n, i, o⟩, r)
def pDecl (s : ScS) (ts : List ByteArray) : PR ScS :=
  if pIs kMessage ts = true then pBind (pMsg ts.tail) fun m r => .inr (⟨s.name, s.msgs ++ [m], s.enums, s.methods⟩, r)
  else if pIs kEnum ts = true then pBind (pEnum ts.tail) fun m r => .inr (⟨s.name, s.msgs, s.enums ++ [m], s.methods⟩, r)
  else if pIs kCall ts = true then pBind (pCall ts.tail) fun m r => .inr (⟨s.name, s.msgs, s.enums, s.methods ++ [m]⟩, r)
  else .inl ts.length
def pDecls : Nat → ScS → List ByteArray → PR ScS
  | 0, s, ts => .inr (s, ts)
  | f + 1, s, ts => if ts.isEmpty = true then .inr (s, []) else pBind (pDecl s ts) fun s' r => pDecls f s' r
def pText (ts : List ByteArray) : PR ScS := pBind (pMust kSchema ts) fun _ r => pBind (pName r) fun n r2 => pBind (pMust kSemi r2) fun _ r3 => pDecls r3.length ⟨n, [], [], []⟩ r3
/-- Which name is an enumeration's. -/
def kindF (es : List EnS) (f : FlS) : FlS := if f.kind = 0 then ⟨f.name, f.tag, f.label, if es.any (fun e => e.name.data.toList == f.tname.data.toList) = true then 6 else 7, f.tname⟩ else f
def kindM (es : List EnS) (m : MsS) : MsS := ⟨m.name, m.fields.map (kindF es), m.reserved⟩
def kindS (s : ScS) : ScS := ⟨s.name, s.msgs.map (kindM s.enums), s.enums, s.methods⟩
/-- Where a piece begins, so many from the end. -/
def placeN (l : List Tk) (size left : Nat) : Nat := match l[l.length - left]? with
  | none => size
  | some t => t.pos
/-- What Parse answers: the schema, the place, the error. -/
def parseA (s : ByteArray) : ScS × Nat × Nat :=
  if (tokA s).2.2 ≠ 0 then (zeroS, (tokA s).2.1, (tokA s).2.2) else match pText ((tokA s).1.map Tk.bytes) with
    | .inl n => (zeroS, placeN (tokA s).1 s.size n, 5)
    | .inr (x, _) => (kindS x, 0, 0)

/-- Reading never makes more of it. -/
def Shrinks {α : Type} (x : PR α) (n : Nat) : Prop := (∀ k, x = .inl k → k ≤ n) ∧ ∀ a r, x = .inr (a, r) → r.length ≤ n
theorem pBind_ok {α β : Type} {a : α} {r : List ByteArray} (f : α → List ByteArray → PR β) : pBind (.inr (a, r)) f = f a r := rfl
theorem pBind_no {α β : Type} (n : Nat) (f : α → List ByteArray → PR β) : pBind (.inl n : PR α) f = .inl n := rfl
theorem shrinks_bind {α β : Type} {x : PR α} {f : α → List ByteArray → PR β} {n : Nat} (h : Shrinks x n) (hf : ∀ a r, x = .inr (a, r) → Shrinks (f a r) r.length) : Shrinks (pBind x f) n := by
  cases x with
  | inl k => exact ⟨fun k' hk => by simp [pBind] at hk; subst hk; exact h.1 k rfl, fun a r hr => by simp [pBind] at hr⟩
  | inr x =>
    obtain ⟨a, r⟩ := x
    have h1 := h.2 a r rfl
    have h2 := hf a r rfl
    exact ⟨fun k hk => Nat.le_trans (h2.1 k hk) h1, fun b r' hr => Nat.le_trans (h2.2 b r' hr) h1⟩
theorem pIs_cons {k : ByteArray} {ts : List ByteArray} (h : pIs k ts = true) : ∃ t r, ts = t :: r ∧ t.data.toList = k.data.toList := by
  cases ts with
  | nil => simp [pIs] at h
  | cons t r => exact ⟨t, r, rfl, by simpa [pIs] using h⟩
theorem pMust_sh (k : ByteArray) (ts : List ByteArray) : Shrinks (pMust k ts) ts.length := by
  unfold pMust
  split
  · exact ⟨fun k hk => by simp at hk, fun a r hr => by simp at hr; rw [← hr]; simp⟩
  · exact ⟨fun k hk => by simp at hk; omega, fun a r hr => by simp at hr⟩
theorem pName_sh (ts : List ByteArray) : Shrinks (pName ts) ts.length := by
  unfold pName
  cases ts with
  | nil => exact ⟨fun k hk => by simp at hk; omega, fun a r hr => by simp at hr⟩
  | cons t r =>
    simp only
    split
    · exact ⟨fun k hk => by simp at hk, fun a r hr => by simp at hr; rw [← hr.2]; simp⟩
    · exact ⟨fun k hk => by simp at hk; simp; omega, fun a r hr => by simp at hr⟩
theorem pNum_sh (ts : List ByteArray) : Shrinks (pNum ts) ts.length := by
  unfold pNum
  cases ts with
  | nil => exact ⟨fun k hk => by simp at hk; omega, fun a r hr => by simp at hr⟩
  | cons t r =>
    simp only
    split
    · exact ⟨fun k hk => by simp at hk, fun a r hr => by simp at hr; rw [← hr.2]; simp⟩
    · exact ⟨fun k hk => by simp at hk; simp; omega, fun a r hr => by simp at hr⟩
end Go.Proofs.YtfffjfccochccaaDoor
