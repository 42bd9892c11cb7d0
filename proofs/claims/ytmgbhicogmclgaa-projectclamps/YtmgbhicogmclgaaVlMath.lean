/- Values that fit a schema, in plain words. -/
import Derived.Test.YtmgbhicogmclgaaTvMath
import Derived.Test.YtmgbhicogmclgaaCkMath
import Derived.Test.YtmgbhicogmclgaaRuAllMath
import Derived.Test.YtmgbhicogmclgaaDpMath
namespace Go.Proofs.Ytmgbhicogmclgaa
set_option linter.unusedVariables false
set_option linter.unusedSimpArgs false

/-- May a number be of a type's kind? -/
def nmrB (k n : Int) : Bool :=
  if k = 3 then decide (0 ≤ n) && decide (n ≤ 1) else if k = 6 then decide (0 ≤ n) && decide (n ≤ 2147483647)
  else if k = 1 then decide (-2147483648 ≤ n) && decide (n ≤ 2147483647) else decide (k = 2)
/-- The kind of a type's trees. -/
def kindT (k : Int) : Int := if k = 1 ∨ k = 2 ∨ k = 3 ∨ k = 6 then 1 else if k = 4 ∨ k = 5 then 2 else if k = 7 then 3 else 0
/-- Is a value nothing? -/
def zroB (t : Tr) : Bool := decide (t.kind = 1 ∨ t.kind = 2 ∨ t.kind = 3) && decide (t.n = 0) && decide (t.s.size = 0) && decide (t.es.length = 0) && decide (t.rest.length = 0)
/-- The first that is not 0. -/
def errF : List Int → Int
  | [] => 0
  | a :: l => if a = 0 then errF l else a
def fldOf (fs : List FlS) (tag : Int) : Option FlS := fs.find? fun f => decide (f.tag = tag)
def msgOf (s : ScS) (nm : ByteArray) : Option MsS := s.msgs.find? fun m => decide (m.name = nm)
def zMs : MsS := ⟨⟨#[]⟩, [], []⟩
def treeV (M : ByteArray → Tr → Int) (k : Int) (tn : ByteArray) (t : Tr) : Int :=
  if t.kind ≠ kindT k then 8 else if t.kind = 1 ∧ nmrB k t.n = false then 11 else if k = 4 ∧ validB t.s.data.toList = false then 9 else if t.kind = 3 then M tn t else 0
def oneV (M : ByteArray → Tr → Int) (f : FlS) (t : Tr) : Int :=
  if treeV M f.kind f.tname t ≠ 0 then treeV M f.kind f.tname t else if f.label = 1 ∧ zroB t = true then 12 else 0
def entV (M : ByteArray → Tr → Int) (fs : List FlS) (e : Int × List Tr) : Int :=
  match fldOf fs e.1 with
  | none => 7
  | some f => if f.label ≠ 3 ∧ 1 < e.2.length then 4 else errF (e.2.map (oneV M f))
/-- What Valid says of a message (down to n). -/
def msgV : Nat → ScS → ByteArray → Tr → Int
  | 0, _, _, _ => 0
  | n + 1, s, nm, t =>
    if errF (t.es.map (entV (msgV n s) ((msgOf s nm).getD zMs).fields)) ≠ 0 then errF (t.es.map (entV (msgV n s) ((msgOf s nm).getD zMs).fields))
    else if (t.rest.any fun f => (fldOf ((msgOf s nm).getD zMs).fields f.tag).isSome) = true then 7 else 0
def validA (n : Nat) (s : ScS) (nm : ByteArray) (t : Tr) : Int :=
  if checkA s ≠ 0 then 1 else if (msgOf s nm).isSome = false then 14 else if chkN n t = false ∨ t.kind ≠ 3 then 1 else msgV n s nm t
theorem errF_congr {α : Type} {f g : α → Int} {l : List α} (h : ∀ x ∈ l, f x = g x) : errF (l.map f) = errF (l.map g) := by
  rw [List.map_congr_left h]
theorem treeV_congr {M M' : ByteArray → Tr → Int} {k : Int} {tn : ByteArray} {t : Tr} (h : M tn t = M' tn t) : treeV M k tn t = treeV M' k tn t := by
  unfold treeV; rw [h]
theorem oneV_congr {M M' : ByteArray → Tr → Int} {f : FlS} {t : Tr} (h : M f.tname t = M' f.tname t) : oneV M f t = oneV M' f t := by
  unfold oneV; rw [treeV_congr h]
theorem entV_congr {M M' : ByteArray → Tr → Int} {fs : List FlS} {e : Int × List Tr} (h : ∀ x ∈ e.2, ∀ nm, M nm x = M' nm x) : entV M fs e = entV M' fs e := by
  unfold entV
  split
  · rfl
  · rename_i f _
    rw [errF_congr (g := oneV M' f) fun x hx => oneV_congr (h x hx _)]
theorem msgV_more : ∀ (n m : Nat) (s : ScS) (nm : ByteArray) (t : Tr), DpN n t → DpN m t → msgV n s nm t = msgV m s nm t
  | 0, _, _, _, _, h, _ => h.elim
  | _ + 1, 0, _, _, _, _, h => h.elim
  | n + 1, m + 1, s, nm, t, h, k => by
    have : errF (t.es.map (entV (msgV n s) ((msgOf s nm).getD zMs).fields)) = errF (t.es.map (entV (msgV m s) ((msgOf s nm).getD zMs).fields)) :=
      errF_congr fun e he => entV_congr fun x hx nm' => msgV_more n m s nm' x (h e he x hx) (k e he x hx)
    simp only [msgV, this]
theorem errF_step {l : List Int} {a : Int} : errF (l ++ [a]) = if errF l ≠ 0 then errF l else a := by
  induction l with
  | nil =>
    by_cases h : a = 0
    · simp [errF, h]
    · simp [errF, h]
  | cons b l ih =>
    by_cases h : b = 0
    · simp [errF, h, ih]
    · simp [errF, h]
theorem errF_hit {α : Type} {f : α → Int} {l : List α} {i : Nat} {x : α} (h : l[i]? = some x) (h0 : errF ((l.take i).map f) = 0) (hx : f x ≠ 0) : errF (l.map f) = f x := by
  obtain ⟨hl, rfl⟩ := List.getElem?_eq_some_iff.1 h
  have h1 : l = l.take i ++ (l[i] :: l.drop (i + 1)) := by rw [← List.drop_eq_getElem_cons hl, List.take_append_drop]
  have h2 : ∀ (a b : List Int), errF a = 0 → errF (a ++ b) = errF b := fun a b => by
    induction a with
    | nil => intro _; rfl
    | cons c a ih =>
      intro hc
      by_cases hz : c = 0
      · simp only [errF, hz, if_true, List.cons_append] at hc ⊢; exact ih hc
      · simp only [errF, if_neg hz] at hc; exact absurd hc hz
  have h3 : l.map f = (l.take i).map f ++ (f l[i] :: (l.drop (i + 1)).map f) := by
    conv => lhs; rw [h1]
    rw [List.map_append, List.map_cons]
  rw [h3, h2 _ _ h0, errF, if_neg hx]
theorem errF_on {α : Type} {f : α → Int} {l : List α} {i : Nat} {x : α} (h : l[i]? = some x) (h0 : errF ((l.take i).map f) = 0) (hx : f x = 0) : errF ((l.take (i + 1)).map f) = 0 := by
  obtain ⟨hl, rfl⟩ := List.getElem?_eq_some_iff.1 h
  rw [List.take_succ_eq_append_getElem hl, List.map_append, List.map_cons, List.map_nil, errF_step, h0]
  simp [hx]
end Go.Proofs.Ytmgbhicogmclgaa
