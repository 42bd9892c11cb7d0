/- What Check answers, as a plain function of a schema; what is found in one. -/
import Derived.Test.YtmgbhicogmclgaaRuAllMath
import Derived.Test.YtmgbhicogmclgaaScMath
namespace Go.Proofs.Ytmgbhicogmclgaa
open Go.RowKit
set_option linter.unusedVariables false
set_option linter.unusedSimpArgs false
set_option maxRecDepth 20000

def memB (x : ByteArray) (l : List ByteArray) : Bool := l.any fun y => decide (x = y)
theorem memB_iff {x : ByteArray} {l : List ByteArray} : memB x l = true ↔ x ∈ l := by simp [memB]
theorem memB_no {x : ByteArray} {l : List ByteArray} : memB x l = false ↔ x ∉ l := by rw [← memB_iff]; simp
def memI (x : Int) (l : List Int) : Bool := decide (x ∈ l)
def freshB (x : ByteArray) (l : List ByteArray) : Bool := nameB x && !memB x l
def tagR (n : Int) : Bool := decide (1 ≤ n ∧ n ≤ 500)
def tagB (n : Int) (l : List Int) : Bool := tagR n && !memI n l
def numR (n : Int) : Bool := decide (0 ≤ n ∧ n ≤ 2147483647)
def numB (n : Int) (l : List Int) : Bool := numR n && !memI n l
def labB (n : Int) : Bool := decide (1 ≤ n ∧ n ≤ 3)
def typeB (mn en : List ByteArray) (k : Int) (t : ByteArray) : Bool :=
  (decide (1 ≤ k ∧ k ≤ 5) && decide (t = ⟨#[]⟩)) || (decide (k = 6) && memB t en) || (decide (k = 7) && memB t mn)
/-- The first of two answers that is an error. -/
def orE (a b : Int) : Int := if a = 0 then b else a
def chkRes : List Int → List Int → Int
  | _, [] => 0
  | a, n :: l => if tagB n a = true then chkRes (a ++ [n]) l else 7
def chkFs (mn en : List ByteArray) : List ByteArray → List Int → List FlS → Int
  | _, _, [] => 0
  | a, t, f :: l => if freshB f.name a = false then 6 else if tagB f.tag t = false then 7 else if (labB f.label && typeB mn en f.kind f.tname) = false then 8 else chkFs mn en (a ++ [f.name]) (t ++ [f.tag]) l
def bigM (m : MsS) : Bool := decide (16 < m.fields.length ∨ 32 < m.reserved.length)
def chkMb (mn en : List ByteArray) (m : MsS) : Int := if bigM m = true then 4 else orE (chkRes [] m.reserved) (chkFs mn en [] m.reserved m.fields)
def chkMs (mn en : List ByteArray) : List ByteArray → List MsS → Int
  | _, [] => 0
  | a, m :: l => if freshB m.name a = false then 6 else orE (chkMb mn en m) (chkMs mn en (a ++ [m.name]) l)
def chkVs : List ByteArray → List Int → List NmS → Int
  | _, _, [] => 0
  | a, t, v :: l => if freshB v.name a = false then 6 else if numB v.n t = false then 11 else chkVs (a ++ [v.name]) (t ++ [v.n]) l
def zeroE (e : EnS) : Bool := e.values.any fun v => decide (v.n = 0)
def chkEb (e : EnS) : Int := if 16 < e.values.length then 4 else if zeroE e = false then 12 else chkVs [] [] e.values
def chkEs : List ByteArray → List EnS → Int
  | _, [] => 0
  | a, e :: l => if freshB e.name a = false then 6 else orE (chkEb e) (chkEs (a ++ [e.name]) l)
def chkTs (mn : List ByteArray) : List ByteArray → List MtS → Int
  | _, [] => 0
  | a, m :: l => if freshB m.name a = false then 6 else if (memB m.inn mn && memB m.out mn) = false then 8 else chkTs mn (a ++ [m.name]) l
def ScS.mn (s : ScS) : List ByteArray := s.msgs.map MsS.name
def ScS.en (s : ScS) : List ByteArray := s.enums.map EnS.name
def ScS.tn (s : ScS) : List ByteArray := s.methods.map MtS.name
def bigS (s : ScS) : Bool := decide (10 < s.msgs.length ∨ 6 < s.enums.length ∨ 6 < s.methods.length)
def wholeA (s : ScS) : Int := if nameB s.name = false then 6 else if s.msgs.length = 0 then 12 else if bigS s = true then 4 else 0
def partsA (s : ScS) : Int := orE (chkMs s.mn s.en [] s.msgs) (chkEs s.mn s.enums)
def checkA (s : ScS) : Int := orE (wholeA s) (orE (partsA s) (chkTs s.mn [] s.methods))
/-- What is found. -/
def findM (s : ScS) (nm : ByteArray) : Option MsS := s.msgs.find? fun m => decide (m.name = nm)
def findE (s : ScS) (nm : ByteArray) : Option EnS := s.enums.find? fun m => decide (m.name = nm)
def findT (s : ScS) (nm : ByteArray) : Option MtS := s.methods.find? fun m => decide (m.name = nm)
def findF (fs : List FlS) (t : Int) : Option FlS := fs.find? fun f => decide (f.tag = t)

/-! Steps, for the loops -/
theorem drop_at {α : Type} {l : List α} {k : Nat} {x : α} (h : l[k]? = some x) : l.drop k = x :: l.drop (k + 1) := by
  obtain ⟨hk, rfl⟩ := List.getElem?_eq_some_iff.1 h
  exact List.drop_eq_getElem_cons hk
theorem drop_end {α : Type} {l : List α} {k : Nat} (h : l.length ≤ k) : l.drop k = [] := List.drop_eq_nil_of_le h
theorem orE_zero (b : Int) : orE 0 b = b := by simp [orE]
theorem orE_ne {a : Int} (h : a ≠ 0) (b : Int) : orE a b = a := by simp [orE, h]
theorem memB_nil (x : ByteArray) : memB x [] = false := by simp [memB]
theorem memI_nil (x : Int) : memI x [] = false := by simp [memI]
theorem memB_snoc (x y : ByteArray) (l : List ByteArray) : memB x (l ++ [y]) = (memB x l || decide (x = y)) := by simp [memB]
theorem memI_snoc (x y : Int) (l : List Int) : memI x (l ++ [y]) = (memI x l || decide (x = y)) := by simp [memI, Bool.decide_or]
theorem memI_append (x : Int) (l m : List Int) : memI x (l ++ m) = (memI x l || memI x m) := by simp [memI, Bool.decide_or]
theorem memB_append (x : ByteArray) (l m : List ByteArray) : memB x (l ++ m) = (memB x l || memB x m) := by simp [memB]
theorem bytes_eq_iff (a b : ByteArray) : a = b ↔ a.data.toList = b.data.toList :=
  ⟨fun h => by rw [h], fun h => by obtain ⟨⟨l⟩⟩ := a; obtain ⟨⟨m⟩⟩ := b; simp at h; subst h; rfl⟩
theorem beq_bytes (a b : ByteArray) : (a.data.toList == b.data.toList) = decide (a = b) := by
  rw [Bool.eq_iff_iff, beq_iff_eq, decide_eq_true_iff, bytes_eq_iff]

/-! When Check answers OK -/
theorem orE_ok {a b : Int} : orE a b = 0 ↔ a = 0 ∧ b = 0 := by unfold orE; split <;> omega
theorem freshB_iff {x : ByteArray} {l : List ByteArray} : freshB x l = true ↔ nameB x = true ∧ x ∉ l := by unfold freshB; rw [Bool.and_eq_true, Bool.not_eq_true', memB_no]
theorem tagB_iff {x : Int} {l : List Int} : tagB x l = true ↔ tagR x = true ∧ x ∉ l := by simp [tagB, memI]
theorem numB_iff {x : Int} {l : List Int} : numB x l = true ↔ numR x = true ∧ x ∉ l := by simp [numB, memI]
theorem chkRes_ok : ∀ (l a : List Int), chkRes a l = 0 ↔ (∀ n ∈ l, tagR n = true ∧ n ∉ a) ∧ l.Nodup
  | [], a => by simp [chkRes]
  | n :: l, a => by
    unfold chkRes
    by_cases h : tagB n a = true
    · rw [if_pos h, chkRes_ok l]
      rw [tagB_iff] at h
      simp only [List.mem_append, List.mem_singleton, not_or, List.forall_mem_cons, List.nodup_cons]
      constructor
      · rintro ⟨h1, h2⟩
        exact ⟨⟨h, fun m hm => ⟨(h1 m hm).1, (h1 m hm).2.1⟩⟩, fun hn => (h1 n hn).2.2 rfl, h2⟩
      · rintro ⟨⟨_, h1⟩, h2, h3⟩
        exact ⟨fun m hm => ⟨(h1 m hm).1, (h1 m hm).2, fun e => h2 (e ▸ hm)⟩, h3⟩
    · rw [if_neg h]
      rw [tagB_iff] at h
      simp only [List.mem_cons, forall_eq_or_imp]
      constructor
      · intro e; omega
      · rintro ⟨⟨h1, _⟩, _⟩; exact absurd h1 h
def fieldOk (mn en : List ByteArray) (f : FlS) : Prop := nameB f.name = true ∧ tagR f.tag = true ∧ labB f.label = true ∧ typeB mn en f.kind f.tname = true
theorem chkFs_ok (mn en : List ByteArray) : ∀ (l : List FlS) (a : List ByteArray) (t : List Int), chkFs mn en a t l = 0 ↔ (∀ f ∈ l, fieldOk mn en f ∧ f.name ∉ a ∧ f.tag ∉ t) ∧ (l.map FlS.name).Nodup ∧ (l.map FlS.tag).Nodup
  | [], a, t => by simp [chkFs]
  | f :: l, a, t => by
    unfold chkFs
    simp only [List.mem_cons, forall_eq_or_imp, List.map_cons, List.nodup_cons, List.mem_map, not_exists, not_and]
    by_cases h1 : freshB f.name a = true
    · rw [if_neg (by rw [h1]; decide)]
      by_cases h2 : tagB f.tag t = true
      · rw [if_neg (by rw [h2]; decide)]
        by_cases h3 : (labB f.label && typeB mn en f.kind f.tname) = true
        · rw [if_neg (by rw [h3]; decide), chkFs_ok mn en l]
          rw [freshB_iff] at h1
          rw [tagB_iff] at h2
          rw [Bool.and_eq_true] at h3
          simp only [List.mem_append, List.mem_singleton, not_or]
          constructor
          · rintro ⟨g1, g2, g3⟩
            exact ⟨⟨⟨⟨h1.1, h2.1, h3.1, h3.2⟩, h1.2, h2.2⟩, fun m hm => ⟨(g1 m hm).1, (g1 m hm).2.1.1, (g1 m hm).2.2.1⟩⟩, ⟨fun m hm => (g1 m hm).2.1.2, g2⟩, ⟨fun m hm => (g1 m hm).2.2.2, g3⟩⟩
          · rintro ⟨⟨_, g1⟩, ⟨g2, g3⟩, ⟨g4, g5⟩⟩
            exact ⟨fun m hm => ⟨(g1 m hm).1, ⟨(g1 m hm).2.1, g2 m hm⟩, ⟨(g1 m hm).2.2, g4 m hm⟩⟩, g3, g5⟩
        · rw [if_pos (by simpa using h3)]
          constructor
          · intro e; omega
          · rintro ⟨⟨⟨⟨_, _, g1, g2⟩, _⟩, _⟩, _⟩; rw [g1, g2] at h3; exact absurd rfl h3
      · rw [if_pos (by simpa using h2)]
        constructor
        · intro e; omega
        · rintro ⟨⟨⟨⟨_, g1, _⟩, _, g2⟩, _⟩, _⟩; exact absurd (tagB_iff.2 ⟨g1, g2⟩) h2
    · rw [if_pos (by simpa using h1)]
      constructor
      · intro e; omega
      · rintro ⟨⟨⟨⟨g1, _⟩, g2, _⟩, _⟩, _⟩; exact absurd (freshB_iff.2 ⟨g1, g2⟩) h1
def msgOk (mn en : List ByteArray) (m : MsS) : Prop := bigM m = false ∧ (∀ n ∈ m.reserved, tagR n = true) ∧ m.reserved.Nodup ∧ (∀ f ∈ m.fields, fieldOk mn en f ∧ f.tag ∉ m.reserved) ∧ (m.fields.map FlS.name).Nodup ∧ (m.fields.map FlS.tag).Nodup
theorem chkMb_ok (mn en : List ByteArray) (m : MsS) : chkMb mn en m = 0 ↔ msgOk mn en m := by
  unfold chkMb msgOk
  cases h : bigM m
  · rw [if_neg (by decide), orE_ok, chkRes_ok, chkFs_ok]
    simp only [List.not_mem_nil, not_false_eq_true, and_true, true_and]
    constructor
    · rintro ⟨⟨h1, h2⟩, h3, h4, h5⟩; exact ⟨h1, h2, h3, h4, h5⟩
    · rintro ⟨h1, h2, h3, h4, h5⟩; exact ⟨⟨h1, h2⟩, h3, h4, h5⟩
  · rw [if_pos rfl]; constructor
    · intro e; omega
    · rintro ⟨e, _⟩; cases e
theorem chkMs_ok (mn en : List ByteArray) : ∀ (l : List MsS) (a : List ByteArray), chkMs mn en a l = 0 ↔ (∀ m ∈ l, nameB m.name = true ∧ m.name ∉ a ∧ msgOk mn en m) ∧ (l.map MsS.name).Nodup
  | [], a => by simp [chkMs]
  | m :: l, a => by
    unfold chkMs
    simp only [List.mem_cons, forall_eq_or_imp, List.map_cons, List.nodup_cons, List.mem_map, not_exists, not_and]
    by_cases h1 : freshB m.name a = true
    · rw [if_neg (by rw [h1]; decide), orE_ok, chkMs_ok mn en l, chkMb_ok]
      rw [freshB_iff] at h1
      simp only [List.mem_append, List.mem_singleton, not_or]
      constructor
      · rintro ⟨g0, g1, g2⟩
        exact ⟨⟨⟨h1.1, h1.2, g0⟩, fun x hx => ⟨(g1 x hx).1, (g1 x hx).2.1.1, (g1 x hx).2.2⟩⟩, fun x hx => (g1 x hx).2.1.2, g2⟩
      · rintro ⟨⟨⟨_, _, g0⟩, g1⟩, g2, g3⟩
        exact ⟨g0, fun x hx => ⟨(g1 x hx).1, ⟨(g1 x hx).2.1, g2 x hx⟩, (g1 x hx).2.2⟩, g3⟩
    · rw [if_pos (by simpa using h1)]
      constructor
      · intro e; omega
      · rintro ⟨⟨⟨g1, g2, _⟩, _⟩, _⟩; exact absurd (freshB_iff.2 ⟨g1, g2⟩) h1
theorem chkVs_ok : ∀ (l : List NmS) (a : List ByteArray) (t : List Int), chkVs a t l = 0 ↔ (∀ v ∈ l, nameB v.name = true ∧ v.name ∉ a ∧ numR v.n = true ∧ v.n ∉ t) ∧ (l.map NmS.name).Nodup ∧ (l.map NmS.n).Nodup
  | [], a, t => by simp [chkVs]
  | f :: l, a, t => by
    unfold chkVs
    simp only [List.mem_cons, forall_eq_or_imp, List.map_cons, List.nodup_cons, List.mem_map, not_exists, not_and]
    by_cases h1 : freshB f.name a = true
    · rw [if_neg (by rw [h1]; decide)]
      by_cases h2 : numB f.n t = true
      · rw [if_neg (by rw [h2]; decide), chkVs_ok l]
        rw [freshB_iff] at h1
        rw [numB_iff] at h2
        simp only [List.mem_append, List.mem_singleton, not_or]
        constructor
        · rintro ⟨g1, g2, g3⟩
          exact ⟨⟨⟨h1.1, h1.2, h2.1, h2.2⟩, fun m hm => ⟨(g1 m hm).1, (g1 m hm).2.1.1, (g1 m hm).2.2.1, (g1 m hm).2.2.2.1⟩⟩, ⟨fun m hm => (g1 m hm).2.1.2, g2⟩, ⟨fun m hm => (g1 m hm).2.2.2.2, g3⟩⟩
        · rintro ⟨⟨_, g1⟩, ⟨g2, g3⟩, ⟨g4, g5⟩⟩
          exact ⟨fun m hm => ⟨(g1 m hm).1, ⟨(g1 m hm).2.1, g2 m hm⟩, (g1 m hm).2.2.1, ⟨(g1 m hm).2.2.2, g4 m hm⟩⟩, g3, g5⟩
      · rw [if_pos (by simpa using h2)]
        constructor
        · intro e; omega
        · rintro ⟨⟨⟨_, _, g1, g2⟩, _⟩, _⟩; exact absurd (numB_iff.2 ⟨g1, g2⟩) h2
    · rw [if_pos (by simpa using h1)]
      constructor
      · intro e; omega
      · rintro ⟨⟨⟨g1, g2, _⟩, _⟩, _⟩; exact absurd (freshB_iff.2 ⟨g1, g2⟩) h1
theorem chkEs_ok : ∀ (l : List EnS) (a : List ByteArray), chkEs a l = 0 ↔ (∀ e ∈ l, nameB e.name = true ∧ e.name ∉ a ∧ chkEb e = 0) ∧ (l.map EnS.name).Nodup
  | [], a => by simp [chkEs]
  | m :: l, a => by
    unfold chkEs
    simp only [List.mem_cons, forall_eq_or_imp, List.map_cons, List.nodup_cons, List.mem_map, not_exists, not_and]
    by_cases h1 : freshB m.name a = true
    · rw [if_neg (by rw [h1]; decide), orE_ok, chkEs_ok l]
      rw [freshB_iff] at h1
      simp only [List.mem_append, List.mem_singleton, not_or]
      constructor
      · rintro ⟨g0, g1, g2⟩
        exact ⟨⟨⟨h1.1, h1.2, g0⟩, fun x hx => ⟨(g1 x hx).1, (g1 x hx).2.1.1, (g1 x hx).2.2⟩⟩, fun x hx => (g1 x hx).2.1.2, g2⟩
      · rintro ⟨⟨⟨_, _, g0⟩, g1⟩, g2, g3⟩
        exact ⟨g0, fun x hx => ⟨(g1 x hx).1, ⟨(g1 x hx).2.1, g2 x hx⟩, (g1 x hx).2.2⟩, g3⟩
    · rw [if_pos (by simpa using h1)]
      constructor
      · intro e; omega
      · rintro ⟨⟨⟨g1, g2, _⟩, _⟩, _⟩; exact absurd (freshB_iff.2 ⟨g1, g2⟩) h1
theorem chkTs_ok (mn : List ByteArray) : ∀ (l : List MtS) (a : List ByteArray), chkTs mn a l = 0 ↔ (∀ e ∈ l, nameB e.name = true ∧ e.name ∉ a ∧ e.inn ∈ mn ∧ e.out ∈ mn) ∧ (l.map MtS.name).Nodup
  | [], a => by simp [chkTs]
  | m :: l, a => by
    unfold chkTs
    simp only [List.mem_cons, forall_eq_or_imp, List.map_cons, List.nodup_cons, List.mem_map, not_exists, not_and]
    by_cases h1 : freshB m.name a = true
    · rw [if_neg (by rw [h1]; decide)]
      by_cases h2 : (memB m.inn mn && memB m.out mn) = true
      · rw [if_neg (by rw [h2]; decide), chkTs_ok mn l]
        rw [freshB_iff] at h1
        have h2' : m.inn ∈ mn ∧ m.out ∈ mn := by rw [Bool.and_eq_true, memB_iff, memB_iff] at h2; exact h2
        simp only [List.mem_append, List.mem_singleton, not_or]
        constructor
        · rintro ⟨g1, g2⟩
          exact ⟨⟨⟨h1.1, h1.2, h2'⟩, fun x hx => ⟨(g1 x hx).1, (g1 x hx).2.1.1, (g1 x hx).2.2⟩⟩, fun x hx => (g1 x hx).2.1.2, g2⟩
        · rintro ⟨⟨_, g1⟩, g2, g3⟩
          exact ⟨fun x hx => ⟨(g1 x hx).1, ⟨(g1 x hx).2.1, g2 x hx⟩, (g1 x hx).2.2⟩, g3⟩
      · rw [if_pos (by simpa using h2)]
        constructor
        · intro e; omega
        · rintro ⟨⟨⟨_, _, g1, g2⟩, _⟩, _⟩
          exact absurd (by rw [Bool.and_eq_true, memB_iff, memB_iff]; exact ⟨g1, g2⟩) h2
    · rw [if_pos (by simpa using h1)]
      constructor
      · intro e; omega
      · rintro ⟨⟨⟨g1, g2, _⟩, _⟩, _⟩; exact absurd (freshB_iff.2 ⟨g1, g2⟩) h1
/-- A schema that may be. -/
structure OkS (s : ScS) : Prop where
  name : nameB s.name = true
  some : 0 < s.msgs.length
  big : bigS s = false
  msgs : ∀ m ∈ s.msgs, nameB m.name = true ∧ msgOk s.mn s.en m
  enums : ∀ e ∈ s.enums, nameB e.name = true ∧ chkEb e = 0
  meths : ∀ t ∈ s.methods, nameB t.name = true ∧ t.inn ∈ s.mn ∧ t.out ∈ s.mn
  names : s.mn.Nodup
  enms : s.en.Nodup
  apart : ∀ x ∈ s.en, x ∉ s.mn
  tns : s.tn.Nodup
theorem wholeA_ok (s : ScS) : wholeA s = 0 ↔ nameB s.name = true ∧ 0 < s.msgs.length ∧ bigS s = false := by
  unfold wholeA
  cases h1 : nameB s.name
  · simp
  · by_cases h2 : s.msgs.length = 0
    · rw [if_neg (by decide), if_pos h2]; simp [h2]
    · rw [if_neg (by decide), if_neg h2]
      cases h3 : bigS s
      · simp; omega
      · simp
theorem checkA_ok (s : ScS) : checkA s = 0 ↔ OkS s := by
  unfold checkA partsA
  rw [orE_ok, orE_ok, orE_ok, wholeA_ok, chkMs_ok, chkEs_ok, chkTs_ok]
  constructor
  · rintro ⟨⟨h1, h2, h3⟩, ⟨⟨h4, h5⟩, h6, h7⟩, h8, h9⟩
    exact ⟨h1, h2, h3, fun m hm => ⟨(h4 m hm).1, (h4 m hm).2.2⟩, fun e he => ⟨(h6 e he).1, (h6 e he).2.2⟩, fun t ht => ⟨(h8 t ht).1, (h8 t ht).2.2⟩, h5, h7,
      fun x hx => by obtain ⟨e, he, rfl⟩ := List.mem_map.1 hx; exact (h6 e he).2.1, h9⟩
  · rintro ⟨h1, h2, h3, h4, h5, h6, h7, h8, h9, h10⟩
    exact ⟨⟨h1, h2, h3⟩, ⟨⟨fun m hm => ⟨(h4 m hm).1, by simp, (h4 m hm).2⟩, h7⟩, fun e he => ⟨(h5 e he).1, h9 _ (List.mem_map_of_mem he), (h5 e he).2⟩, h8⟩, fun t ht => ⟨(h6 t ht).1, by simp, (h6 t ht).2⟩, h10⟩
end Go.Proofs.Ytmgbhicogmclgaa
