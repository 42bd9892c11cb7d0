/- Part 6 of what the proof stands on. -/
import Derived.Test.YtcjfeandnmochaaGreatDoorPkAE
import Derived.Laws.Externs
import Derived.Laws.Strings2
namespace Go.Proofs.YtcjfeandnmochaaGreatDoor
open Go.RowKit
set_option linter.unusedVariables false
set_option linter.unusedSimpArgs false
set_option maxRecDepth 20000
theorem nxL_append {l : List UInt8} {c k : Nat} (h : nxL l = some (c, k)) (t : List UInt8) : nxL (l ++ t) = some (c, k) := by
 obtain ⟨h1, h2, h3, h4, h5, _⟩ := nxL_some l c k h
 have e : l ++ t = (Utf8.encode c).data.toList ++ (l.drop k ++ t) := by
  rw [h2, ← List.append_assoc, List.take_append_drop]
 rw [e, nxL_encode c h1, h3]
theorem nxL_short {l : List UInt8} {c k : Nat} (h : nxL l = some (c, k)) (m : Nat) (hm : m < k) : nxL (l.take m) = none := by
 cases e : nxL (l.take m) with
 | none => rfl
 | some x =>
  obtain ⟨c', k'⟩ := x
  have h2 := nxL_append e (l.drop m)
  rw [List.take_append_drop, h] at h2
  simp only [Option.some.injEq, Prod.mk.injEq] at h2
  obtain ⟨_, _, _, _, h5, _⟩ := nxL_some _ _ _ e
  rw [List.length_take] at h5
  omega
theorem runesOf_append (f : Nat) : ∀ (l : List UInt8), l.length ≤ f → ∀ (acc : List Nat) (t : List UInt8), runesOf l = some acc → runesOf (l ++ t) = (runesOf t).map (acc ++ ·) := by
 induction f with
 | zero =>
  intro l hl acc t h
  have : l = [] := List.length_eq_zero_iff.1 (by omega)
  subst this
  rw [runesOf_nil] at h
  simp at h; subst h
  simp
 | succ f ih =>
  intro l hl acc t h
  match l with
  | [] =>
   rw [runesOf_nil] at h
   simp at h; subst h
   simp
  | a :: r =>
   cases e : nxL (a :: r) with
   | none => rw [runesOf_bad (by simp) e] at h; cases h
   | some x =>
    obtain ⟨c, k⟩ := x
    obtain ⟨_, _, _, h4, h5, _⟩ := nxL_some _ _ _ e
    rw [runesOf_step e] at h
    cases e2 : runesOf ((a :: r).drop k) with
    | none => rw [e2] at h; cases h
    | some rs' =>
     rw [e2] at h
     simp at h; subst h
     have hd : (a :: r ++ t).drop k = (a :: r).drop k ++ t := by
      rw [List.drop_append_of_le_length h5]
     rw [runesOf_step (nxL_append e t), hd, ih _ (by simp at hl h5 ⊢; omega) rs' t e2]
     cases runesOf t <;> simp
theorem runes_join {l t : List UInt8} {acc : List Nat} (h : runesOf l = some acc) : runesOf (l ++ t) = (runesOf t).map (acc ++ ·) := runesOf_append l.length l (Nat.le_refl _) acc t h
theorem runesOf_encode (c : Nat) (h : Utf8.valid c = true) : runesOf (Utf8.encode c).data.toList = some [c] := by
 have e := nxL_encode c h []
 rw [List.append_nil] at e
 rw [runesOf_step e]
 generalize Utf8.encode (c : Int) = b
 have : (b.data.toList).drop b.size = [] := List.drop_eq_nil_of_le (by rw [Array.length_toList]; exact Nat.le_refl _)
 rw [this, runesOf_nil]; rfl
def CutAt (l : List UInt8) (pos : Nat) (acc : List Nat) : Prop := runesOf (l.take pos) = some acc
theorem CutAt.start (l : List UInt8) : CutAt l 0 [] := by unfold CutAt; simp [runesOf_nil]
theorem CutAt.rest {l : List UInt8} {pos : Nat} {acc : List Nat} (h : CutAt l pos acc) : runesOf l = (runesOf (l.drop pos)).map (acc ++ ·) := by
 have := runes_join (t := l.drop pos) h
 rw [List.take_append_drop] at this
 exact this
theorem CutAt.next {l : List UInt8} {pos : Nat} {acc rs : List Nat} (h : CutAt l pos acc) (hr : runesOf l = some rs) (hp : pos < l.length) :
    ∃ c k, nxL (l.drop pos) = some (c, k) ∧ CutAt l (pos + k) (acc ++ [c]) ∧ 1 ≤ k ∧ k ≤ 4 ∧ pos + k ≤ l.length ∧ ∀ m, pos < m → m < pos + k → runesOf (l.take m) = none := by
  cases e : nxL (l.drop pos) with
  | none =>
    have h1 := h.rest
    have hne : l.drop pos ≠ [] := by intro e2; have : (l.drop pos).length = 0 := by rw [e2]; rfl
                                     rw [List.length_drop] at this; omega
    rw [hr, runesOf_bad hne e] at h1
    cases h1
  | some x =>
    obtain ⟨c, k⟩ := x
    obtain ⟨g1, g2, g3, g4, g5, g6, _⟩ := nxL_some _ _ _ e
    rw [List.length_drop] at g5
    refine ⟨c, k, rfl, ?_, g4, g6, by omega, ?_⟩
    · unfold CutAt at h ⊢
      rw [List.take_add, runes_join h, ← g2, runesOf_encode c g1]; rfl
    · intro m h1 h2
      have e2 : l.take m = l.take pos ++ (l.drop pos).take (m - pos) := by
        have e4 : pos + (m - pos) = m := by omega
        rw [← List.take_add, e4]
      rw [e2, runes_join h, runesOf_bad ?_ (nxL_short e (m - pos) (by omega))]; rfl
      intro e3
      have : ((l.drop pos).take (m - pos)).length = 0 := by rw [e3]; rfl
      rw [List.length_take, List.length_drop] at this; omega
theorem CutAt.done {l : List UInt8} {pos : Nat} {acc rs : List Nat} (h : CutAt l pos acc) (hr : runesOf l = some rs) :
  validB (l.take pos) = true ∧ validB (l.drop pos) = true ∧ countN (l.take pos) + countN (l.drop pos) = countN l := by
 have h1 := h.rest
 unfold CutAt at h
 rw [hr] at h1
 cases e : runesOf (l.drop pos) with
 | none => rw [e] at h1; cases h1
 | some r =>
  rw [e] at h1
  simp at h1
  subst h1
  unfold validB countN
  rw [h, e, hr]
  simp
def blankB (a : UInt8) : Bool := decide (a.toNat = 32 ∨ a.toNat = 9 ∨ a.toNat = 13 ∨ a.toNat = 10)
def headN (l : List UInt8) : Nat := match l with
 | [] => 0
 | a :: _ => a.toNat
def skipG : Bool → List UInt8 → Nat
 | _, [] => 0
 | true, a :: r => if a.toNat = 10 then 1 + skipG false r else 1 + skipG true r
 | false, a :: r => if blankB a = true then 1 + skipG false r else if a.toNat = 47 ∧ headN r = 47 then 1 + skipG true r else 0
def skipN (l : List UInt8) : Nat := skipG false l
def lineN : List UInt8 → Nat
 | [] => 0
 | a :: r => if a.toNat = 10 then 0 else 1 + lineN r
theorem skipG_line (l : List UInt8) : skipG true l = lineN l + skipG false (l.drop (lineN l)) := by
 induction l with
 | nil => rfl
 | cons a r ih =>
  by_cases h : a.toNat = 10
  ·simp [skipG, lineN, h, blankB]
  ·simp only [skipG, lineN, if_neg h, ih]
   rw [Nat.add_comm 1 (lineN r), List.drop_succ_cons]; omega
theorem lineN_le (l : List UInt8) : lineN l ≤ l.length := by
 induction l with
 | nil => simp [lineN]
 | cons a r ih => simp only [lineN, List.length_cons]; split <;> omega
theorem skipG_le (l : List UInt8) : ∀ b, skipG b l ≤ l.length := by
 induction l with
 | nil => intro b; cases b <;> simp [skipG]
 | cons a r ih =>
  intro b
  have h1 := ih true
  have h2 := ih false
  cases b <;> simp only [skipG, List.length_cons]
  ·split
   ·omega
   ·split <;> omega
  ·split <;> omega
theorem skipN_le (l : List UInt8) : skipN l ≤ l.length := skipG_le l false
theorem skipN_nil : skipN [] = 0 := rfl
theorem skipN_blank {l : List UInt8} {a : UInt8} {r : List UInt8} (h : l = a :: r) (hb : blankB a = true) : skipN l = 1 + skipN (l.drop 1) := by
 subst h; simp [skipN, skipG, hb]
theorem skipN_slash {l : List UInt8} (h : [47, 47].isPrefixOf l = true) : skipN l = lineN l + skipN (l.drop (lineN l)) ∧ 2 ≤ lineN l := by
 match l with
 | [] => simp [List.isPrefixOf] at h
 | [a] => simp [List.isPrefixOf] at h
 | a :: b :: r =>
  simp [List.isPrefixOf] at h
  obtain ⟨rfl, rfl⟩ := h
  constructor
  ·have h2 := skipG_line (47 :: r)
   simp only [skipN, skipG, lineN, headN, blankB] at h2 ⊢
   simp at h2 ⊢
   rw [h2]
   have e : (47 :: 47 :: r : List UInt8).drop (1 + (1 + lineN r)) = (47 :: r : List UInt8).drop (1 + lineN r) := by rw [Nat.add_comm 1 (1 + lineN r), List.drop_succ_cons]
   rw [e]; omega
  ·simp [lineN]; omega
theorem skipN_none {l : List UInt8} {a : UInt8} {r : List UInt8} (h : l = a :: r) (hb : blankB a = false) (hs : [47, 47].isPrefixOf l = false) : skipN l = 0 := by
 subst h
 simp only [skipN, skipG, hb]
 rw [if_neg (by simp), if_neg]
 rintro ⟨h1, h2⟩
 match r, h2 with
 | [], h2 => simp [headN] at h2
 | b :: r', h2 =>
  simp only [headN] at h2
  have ea : a = 47 := UInt8.toNat_inj.1 (by rw [h1]; rfl)
  have eb : b = 47 := UInt8.toNat_inj.1 (by rw [h2]; rfl)
  subst ea eb
  simp [List.isPrefixOf] at hs
def signB (c : Nat) : Bool := decide (c = 123 ∨ c = 125 ∨ c = 40 ∨ c = 41 ∨ c = 59 ∨ c = 61 ∨ c = 44)
def kindN (c : Nat) : Nat := if letB c = true then 1 else if digB c = true then 2 else if signB c = true then 3 else 0
def goesB (k c : Nat) : Bool := (k == 1 && (letB c || digB c)) || (k == 2 && digB c)
def goN : Nat → Nat → List UInt8 → Nat
 | 0, _, _ => 0
 | f + 1, k, l => match nxL l with
  | none => 0
  | some (c, m) => if goesB k c = true then m + goN f k (l.drop m) else 0
def runN (k : Nat) (l : List UInt8) : Nat := goN l.length k l
def contB (k : Nat) (l : List UInt8) : Bool := match nxL l with
 | none => false
 | some (c, _) => goesB k c
theorem nx_len {l : List UInt8} {c m : Nat} (h : nxL l = some (c, m)) : 1 ≤ m ∧ m ≤ l.length := by
 obtain ⟨_, _, _, h4, h5, _⟩ := nxL_some _ _ _ h
 exact ⟨h4, h5⟩
theorem goN_fuel (k f : Nat) : ∀ (g : Nat) (l : List UInt8), l.length ≤ f → l.length ≤ g → goN f k l = goN g k l := by
 induction f with
 | zero =>
  intro g l h1 _
  have : l = [] := List.length_eq_zero_iff.1 (by omega)
  subst this
  cases g <;> simp [goN, nxL]
 | succ f ih =>
  intro g l h1 h2
  cases g with
  | zero =>
   have : l = [] := List.length_eq_zero_iff.1 (by omega)
   subst this
   simp [goN, nxL]
  | succ g =>
   simp only [goN]
   cases e : nxL l with
   | none => rfl
   | some x =>
    obtain ⟨c, m⟩ := x
    obtain ⟨h4, h5⟩ := nx_len e
    simp only
    rw [ih g (l.drop m) (by rw [List.length_drop]; omega) (by rw [List.length_drop]; omega)]
theorem runN_stop0 {k : Nat} {l : List UInt8} (h : contB k l = false) : runN k l = 0 := by
 unfold runN
 cases e : l.length with
 | zero => rfl
 | succ f =>
  simp only [goN]
  unfold contB at h
  cases e2 : nxL l with
  | none => rfl
  | some x =>
   obtain ⟨c, m⟩ := x
   rw [e2] at h
   simp only at h ⊢
   rw [h]; rfl
theorem runN_yes {k c m : Nat} {l : List UInt8} (h : nxL l = some (c, m)) (hg : goesB k c = true) : runN k l = m + runN k (l.drop m) := by
 obtain ⟨h4, h5⟩ := nx_len h
 unfold runN
 cases e : l.length with
 | zero => omega
 | succ f =>
  simp only [goN, h]
  rw [if_pos hg, goN_fuel k f (l.drop m).length (l.drop m) (by rw [List.length_drop]; omega) (Nat.le_refl _)]
theorem contB_yes {k c m : Nat} {l : List UInt8} (h : nxL l = some (c, m)) : contB k l = goesB k c := by unfold contB; rw [h]
theorem contB_none {k : Nat} {l : List UInt8} (h : nxL l = none) : contB k l = false := by unfold contB; rw [h]
theorem runN_le (k : Nat) (f : Nat) : ∀ l : List UInt8, l.length ≤ f → runN k l ≤ l.length ∧ contB k (l.drop (runN k l)) = false := by
 induction f with
 | zero =>
  intro l hl
  have : l = [] := List.length_eq_zero_iff.1 (by omega)
  subst this
  exact ⟨Nat.le_refl _, rfl⟩
 | succ f ih =>
  intro l hl
  cases e : contB k l with
  | false => rw [runN_stop0 e]; exact ⟨Nat.zero_le _, e⟩
  | true =>
   cases e2 : nxL l with
   | none => rw [contB_none e2] at e; cases e
   | some x =>
    obtain ⟨c, m⟩ := x
    obtain ⟨h4, h5⟩ := nx_len e2
    rw [contB_yes e2] at e
    rw [runN_yes e2 e]
    have := ih (l.drop m) (by rw [List.length_drop]; omega)
    rw [List.length_drop, List.drop_drop] at this
    exact ⟨by omega, this.2⟩
theorem runN_len (k : Nat) (l : List UInt8) : runN k l ≤ l.length := (runN_le k l.length l (Nat.le_refl _)).1
structure Tk where
 kind : Nat
 text : List UInt8
 pos : Nat
abbrev LexA := Sum (Nat × Nat) (List Tk)
def consA (t : Tk) : LexA → LexA
 | .inl e => .inl e
 | .inr ts => .inr (t :: ts)
def catA (acc : List Tk) : LexA → LexA
 | .inl e => .inl e
 | .inr ts => .inr (acc ++ ts)
def pieceN (k m : Nat) (l : List UInt8) : Nat := m + runN k (l.drop m)
def lexF : Nat → List UInt8 → Nat → LexA
 | 0, _, _ => .inr []
 | f + 1, l, p => if (l.drop (skipN l)).isEmpty = true then .inr [] else match nxL (l.drop (skipN l)) with
  | none => .inl (p + skipN l, 9)
  | some (c, m) => if kindN c = 0 then .inl (p + skipN l, 5) else
   consA ⟨kindN c, (l.drop (skipN l)).take (pieceN (kindN c) m (l.drop (skipN l))), p + skipN l⟩
    (lexF f ((l.drop (skipN l)).drop (pieceN (kindN c) m (l.drop (skipN l)))) (p + skipN l + pieceN (kindN c) m (l.drop (skipN l))))
def lexO (l : List UInt8) (p : Nat) : LexA := lexF l.length l p
theorem piece_bd {k c m : Nat} {l : List UInt8} (h : nxL l = some (c, m)) : 1 ≤ pieceN k m l ∧ pieceN k m l ≤ l.length ∧ m ≤ pieceN k m l := by
 obtain ⟨h4, h5⟩ := nx_len h
 have := runN_len k (l.drop m)
 rw [List.length_drop] at this
 unfold pieceN
 omega
theorem lexF_fuel (f : Nat) : ∀ (g : Nat) (l : List UInt8) (p : Nat), l.length ≤ f → l.length ≤ g → lexF f l p = lexF g l p := by
 induction f with
 | zero =>
  intro g l p h1 _
  have : l = [] := List.length_eq_zero_iff.1 (by omega)
  subst this
  cases g <;> simp [lexF, skipN_nil]
 | succ f ih =>
  intro g l p h1 h2
  cases g with
  | zero =>
   have : l = [] := List.length_eq_zero_iff.1 (by omega)
   subst this
   simp [lexF, skipN_nil]
  | succ g =>
   simp only [lexF]
   split
   ·rfl
   ·cases e : nxL (l.drop (skipN l)) with
    | none => rfl
    | some x =>
     obtain ⟨c, m⟩ := x
     obtain ⟨h4, h5, _⟩ := piece_bd (k := kindN c) e
     simp only
     split
     ·rfl
     ·rw [ih g _ _ (by rw [List.length_drop]; rw [List.length_drop] at h5 ⊢; omega) (by rw [List.length_drop]; rw [List.length_drop] at h5 ⊢; omega)]
theorem lexO_fin {l : List UInt8} (h : skipN l = l.length) (p : Nat) : lexO l p = .inr [] := by
 unfold lexO
 cases e : l.length with
 | zero => rfl
 | succ f => simp only [lexF]; rw [if_pos (by rw [h]; simp)]
theorem drop_ne {l : List UInt8} {n : Nat} (h : n < l.length) : (l.drop n).isEmpty = false := by
 cases e : l.drop n with
 | nil => have := congrArg List.length e; rw [List.length_drop] at this; simp at this; omega
 | cons a r => rfl
theorem lexO_text {l : List UInt8} (h : skipN l < l.length) (hn : nxL (l.drop (skipN l)) = none) (p : Nat) : lexO l p = .inl (p + skipN l, 9) := by
 unfold lexO
 cases e : l.length with
 | zero => omega
 | succ f => simp only [lexF]; rw [if_neg (by rw [drop_ne h]; simp), hn]
theorem lexO_syn {l : List UInt8} {c m : Nat} (hn : nxL (l.drop (skipN l)) = some (c, m)) (hk : kindN c = 0) (p : Nat) : lexO l p = .inl (p + skipN l, 5) := by
 have h := (nx_len hn)
 rw [List.length_drop] at h
 unfold lexO
 cases e : l.length with
 | zero => omega
 | succ f => simp only [lexF]; rw [if_neg (by rw [drop_ne (by omega)]; simp), hn]; simp only; rw [if_pos hk]
theorem lexO_tok {l : List UInt8} {c m : Nat} (hn : nxL (l.drop (skipN l)) = some (c, m)) (hk : kindN c ≠ 0) (p : Nat) :
  lexO l p = consA ⟨kindN c, (l.drop (skipN l)).take (pieceN (kindN c) m (l.drop (skipN l))), p + skipN l⟩
   (lexO (l.drop (skipN l + pieceN (kindN c) m (l.drop (skipN l)))) (p + skipN l + pieceN (kindN c) m (l.drop (skipN l)))) := by
 have h := (nx_len hn)
 have h2 := piece_bd (k := kindN c) hn
 rw [List.length_drop] at h h2
 unfold lexO
 cases e : l.length with
 | zero => omega
 | succ f =>
  simp only [lexF]
  rw [if_neg (by rw [drop_ne (by omega)]; simp), hn]
  simp only
  rw [if_neg hk, List.drop_drop, lexF_fuel f _ _ _ (by rw [List.length_drop]; omega) (Nat.le_refl _)]
def StepAt (l : List UInt8) (pos : Nat) (t : Tk) (e : Nat) : Prop := ∃ c m, t.pos = pos + skipN (l.drop pos) ∧ nxL (l.drop t.pos) = some (c, m) ∧ kindN c ≠ 0 ∧ t.kind = kindN c ∧
 t.text = (l.drop t.pos).take (pieceN t.kind m (l.drop t.pos)) ∧ e = t.pos + pieceN t.kind m (l.drop t.pos)
def ReadR (l : List UInt8) : List Tk → Nat → Prop
 | [], pos => pos = 0
 | t :: r, e => ∃ pos, ReadR l r pos ∧ StepAt l pos t e
def Read (l : List UInt8) (pos : Nat) (acc : List Tk) : Prop := ReadR l acc.reverse pos
theorem Read.start {l : List UInt8} : Read l 0 [] := rfl
theorem Read.step {l : List UInt8} {pos e : Nat} {acc : List Tk} {t : Tk} (h : Read l pos acc) (hs : StepAt l pos t e) : Read l e (acc ++ [t]) := by
 unfold Read
 rw [List.reverse_append]
 exact ⟨pos, h, hs⟩
theorem Read.inv {l : List UInt8} {pos : Nat} {acc : List Tk} (h : Read l pos acc) : (pos = 0 ∧ acc = []) ∨ ∃ p a t, Read l p a ∧ StepAt l p t pos ∧ acc = a ++ [t] := by
 unfold Read at h
 cases e : acc.reverse with
 | nil =>
  rw [e] at h
  exact .inl ⟨h, by simpa using e⟩
 | cons t r =>
  rw [e] at h
  obtain ⟨p, h1, h2⟩ := h
  refine .inr ⟨p, r.reverse, t, ?_, h2, ?_⟩
  ·unfold Read; rwa [List.reverse_reverse]
  ·rw [← List.reverse_reverse acc, e, List.reverse_cons]
theorem Read.ind {l : List UInt8} (M : Nat → List Tk → Prop) (h0 : M 0 []) (hs : ∀ pos acc t e, Read l pos acc → StepAt l pos t e → M pos acc → M e (acc ++ [t])) : ∀ (n : Nat) (acc : List Tk), acc.length = n → ∀ pos, Read l pos acc → M pos acc := by
 intro n
 induction n with
 | zero =>
  intro acc hn pos h
  rcases h.inv with ⟨rfl, rfl⟩ | ⟨p, a, t, _, _, rfl⟩
  ·exact h0
  ·simp at hn
 | succ n ih =>
  intro acc hn pos h
  rcases h.inv with ⟨rfl, rfl⟩ | ⟨p, a, t, h1, h2, rfl⟩
  ·simp at hn
  ·exact hs p a t pos h1 h2 (ih a (by simpa using hn) p h1)
theorem StepAt.bd {l : List UInt8} {pos e : Nat} {t : Tk} (h : StepAt l pos t e) : pos ≤ t.pos ∧ t.pos < e ∧ e ≤ l.length ∧ t.text.length = e - t.pos ∧ t.text = (l.drop t.pos).take (e - t.pos) ∧ t.kind ≤ 3 := by
 obtain ⟨c, m, h1, h2, h3, h4, h5, h6⟩ := h
 have hp := piece_bd (k := t.kind) h2
 rw [List.length_drop] at hp
 have e1 : e - t.pos = pieceN t.kind m (l.drop t.pos) := by omega
 refine ⟨by omega, by omega, by omega, ?_, by rw [e1]; exact h5, ?_⟩
 ·rw [h5, List.length_take, List.length_drop]; omega
 ·rw [h4]; unfold kindN; split
  ·omega
  ·split
   ·omega
   ·split <;> omega
theorem Read.bd {l : List UInt8} {pos : Nat} {acc : List Tk} (h : Read l pos acc) : pos ≤ l.length ∧ acc.length ≤ pos := by
 refine Read.ind (fun pos acc => pos ≤ l.length ∧ acc.length ≤ pos) ⟨Nat.zero_le _, Nat.le_refl _⟩ ?_ _ acc rfl pos h
 intro pos acc t e h hs ih
 have := hs.bd
 simp only [List.length_append, List.length_singleton]
 omega
theorem catA_nil (x : LexA) : catA [] x = x := by cases x <;> rfl
theorem catA_cons (acc : List Tk) (t : Tk) (x : LexA) : catA acc (consA t x) = catA (acc ++ [t]) x := by cases x <;> simp [catA, consA]
theorem step_lex {l : List UInt8} {pos e : Nat} {t : Tk} (h : StepAt l pos t e) : lexO (l.drop pos) pos = consA t (lexO (l.drop e) e) := by
 obtain ⟨c, m, h1, h2, h3, h4, h5, h6⟩ := h
 have e1 : (l.drop pos).drop (skipN (l.drop pos)) = l.drop t.pos := by rw [List.drop_drop, h1]
 rw [lexO_tok (l := l.drop pos) (by rw [e1]; exact h2) h3 pos, e1, ← h1, ← h4]
 have e2 : (l.drop pos).drop (skipN (l.drop pos) + pieceN t.kind m (l.drop t.pos)) = l.drop e := by
  rw [List.drop_drop, h6, h1, Nat.add_assoc]
 rw [e2, ← h6, ← h5]
theorem Read.rest {l : List UInt8} {pos : Nat} {acc : List Tk} (h : Read l pos acc) : lexO l 0 = catA acc (lexO (l.drop pos) pos) := by
 refine Read.ind (fun pos acc => lexO l 0 = catA acc (lexO (l.drop pos) pos)) ?_ ?_ _ acc rfl pos h
 ·rw [catA_nil]; rfl
 ·intro pos acc t e h hs ih
  rw [ih, step_lex hs, catA_cons]
theorem drop_to (l : List UInt8) (pos : Nat) : (l.drop pos).drop (skipN (l.drop pos)) = l.drop (pos + skipN (l.drop pos)) := by rw [List.drop_drop]
theorem Read.fin {l : List UInt8} {pos : Nat} {acc : List Tk} (h : Read l pos acc) (hf : pos + skipN (l.drop pos) = l.length) : lexO l 0 = .inr acc := by
 rw [h.rest, lexO_fin (by rw [List.length_drop]; omega)]
 simp [catA]
theorem Read.text {l : List UInt8} {pos : Nat} {acc : List Tk} (h : Read l pos acc) (hf : pos + skipN (l.drop pos) < l.length) (hn : nxL (l.drop (pos + skipN (l.drop pos))) = none) : lexO l 0 = .inl (pos + skipN (l.drop pos), 9) := by
 rw [h.rest, lexO_text (by rw [List.length_drop]; omega) (by rw [drop_to]; exact hn)]
 rfl
theorem Read.syn {l : List UInt8} {pos : Nat} {acc : List Tk} {c m : Nat} (h : Read l pos acc) (hn : nxL (l.drop (pos + skipN (l.drop pos))) = some (c, m)) (hk : kindN c = 0) : lexO l 0 = .inl (pos + skipN (l.drop pos), 5) := by
 rw [h.rest, lexO_syn (by rw [drop_to]; exact hn) hk]
 rfl
theorem Read.tok {l : List UInt8} {pos : Nat} {acc : List Tk} {c m : Nat} (h : Read l pos acc) (hn : nxL (l.drop (pos + skipN (l.drop pos))) = some (c, m)) (hk : kindN c ≠ 0) :
  Read l (pos + skipN (l.drop pos) + pieceN (kindN c) m (l.drop (pos + skipN (l.drop pos)))) (acc ++ [⟨kindN c, (l.drop (pos + skipN (l.drop pos))).take (pieceN (kindN c) m (l.drop (pos + skipN (l.drop pos)))), pos + skipN (l.drop pos)⟩]) :=
 h.step ⟨c, m, rfl, hn, hk, rfl, rfl, rfl⟩
def Ends (l : List UInt8) (pos : Nat) (x : LexA) (acc : List Tk) : Prop :=
 (pos + skipN (l.drop pos) = l.length ∧ x = .inr acc) ∨
 (pos + skipN (l.drop pos) < l.length ∧ nxL (l.drop (pos + skipN (l.drop pos))) = none ∧ x = .inl (pos + skipN (l.drop pos), 9)) ∨
 ∃ c m, nxL (l.drop (pos + skipN (l.drop pos))) = some (c, m) ∧ kindN c = 0 ∧ x = .inl (pos + skipN (l.drop pos), 5)
theorem read_ends (l : List UInt8) (f : Nat) : ∀ pos acc, l.length - pos ≤ f → Read l pos acc → ∃ pos' acc', Read l pos' acc' ∧ Ends l pos' (lexO l 0) acc' := by
 induction f with
 | zero =>
  intro pos acc hf h
  have hb := h.bd
  have : l.drop pos = [] := List.drop_eq_nil_of_le (by omega)
  have hz : pos + skipN (l.drop pos) = l.length := by rw [this, skipN_nil]; omega
  exact ⟨pos, acc, h, by rw [h.fin hz]; exact .inl ⟨hz, rfl⟩⟩
 | succ f ih =>
  intro pos acc hf h
  have hb := h.bd
  have hsk := skipN_le (l.drop pos)
  rw [List.length_drop] at hsk
  by_cases hz : pos + skipN (l.drop pos) = l.length
  ·exact ⟨pos, acc, h, by rw [h.fin hz]; exact .inl ⟨hz, rfl⟩⟩
  ·cases e : nxL (l.drop (pos + skipN (l.drop pos))) with
   | none => exact ⟨pos, acc, h, by rw [h.text (by omega) e]; exact .inr (.inl ⟨by omega, e, rfl⟩)⟩
   | some x =>
    obtain ⟨c, m⟩ := x
    by_cases hk : kindN c = 0
    ·exact ⟨pos, acc, h, by rw [h.syn e hk]; exact .inr (.inr ⟨c, m, e, hk, rfl⟩)⟩
    ·have hp := piece_bd (k := kindN c) e
     exact ih _ _ (by omega) (h.tok e hk)
theorem lex_ends (l : List UInt8) : ∃ pos acc, Read l pos acc ∧ Ends l pos (lexO l 0) acc := read_ends l l.length 0 [] (by omega) Read.start
theorem lex_ok {l : List UInt8} {ts : List Tk} (h : lexO l 0 = .inr ts) : ∃ pos, Read l pos ts ∧ pos + skipN (l.drop pos) = l.length := by
 obtain ⟨pos, acc, h1, h2⟩ := lex_ends l
 rw [h] at h2
 rcases h2 with ⟨h3, h4⟩ | ⟨_, _, h4⟩ | ⟨_, _, _, _, h4⟩
 ·simp only [Sum.inr.injEq] at h4
  subst h4
  exact ⟨pos, h1, h3⟩
 ·cases h4
 ·cases h4
theorem Read.at {l : List UInt8} {pos : Nat} {acc : List Tk} (h : Read l pos acc) : ∀ (i : Nat) (t : Tk), acc[i]? = some t → ∃ p e, Read l p (acc.take i) ∧ StepAt l p t e ∧ Read l e (acc.take (i + 1)) ∧ e ≤ pos := by
 refine Read.ind (fun pos acc => ∀ (i : Nat) (t : Tk), acc[i]? = some t → ∃ p e, Read l p (acc.take i) ∧ StepAt l p t e ∧ Read l e (acc.take (i + 1)) ∧ e ≤ pos) ?_ ?_ _ acc rfl pos h
 ·intro i t ht; simp at ht
 ·intro pos acc t0 e0 h hs ih i t ht
  by_cases hi : i < acc.length
  ·rw [List.getElem?_append_left hi] at ht
   obtain ⟨p, e, g1, g2, g3, g4⟩ := ih i t ht
   refine ⟨p, e, ?_, g2, ?_, ?_⟩
   ·rwa [List.take_append_of_le_length (by omega)]
   ·rwa [List.take_append_of_le_length (by omega)]
   ·have := hs.bd; omega
  ·have hl := (List.getElem?_eq_some_iff.1 ht).1
   rw [List.length_append, List.length_singleton] at hl
   obtain rfl : i = acc.length := by omega
   obtain rfl : t0 = t := by simpa using ht
   refine ⟨pos, e0, by simpa using h, hs, ?_, Nat.le_refl _⟩
   have := Read.step h hs
   rwa [List.take_of_length_le (by simp)]
end Go.Proofs.YtcjfeandnmochaaGreatDoor
namespace Go.Proofs.YtcjfeandnmochaaGreatDoor
open Go.ChangeShapes Go.WideShapes Go.ChangeAt Go.RowKit
set_option linter.unusedVariables false
set_option linter.unusedSimpArgs false
set_option maxRecDepth 20000
set_option maxHeartbeats 1000000 in
theorem blank_any (a : UInt8) (w : World) :
  Calls Tryz.prog 93 #[.int .u8 (a.toNat : Int)] w fun e w' => e = .returned (.bool (blankB a)) ∧ w' = w := by
 have HB : Hid (blankB a = decide ((a.toNat : Int) = 32 ∨ (a.toNat : Int) = 9 ∨ (a.toNat : Int) = 13 ∨ (a.toNat : Int) = 10)) := by
  show _ = _; unfold blankB; congr 1; apply propext; omega
 generalize (a.toNat : Int) = x at *
 go_enter Tryz.func93, Tryz.ntmps93
 go_wp2
 all_goals
  go_ret
  refine ⟨ret_bool ?_, rfl⟩
  rw [HB.out, Bool.eq_iff_iff]
  simp
  try omega
set_option maxHeartbeats 1000000 in
theorem begins_any (c : Nat) (w : World) :
  Calls Tryz.prog 53 #[.int .i32 (c : Int)] w fun e w' => e = .returned (.int .i64 (kindN c)) ∧ w' = w := by
 cases h1 : letB c with
 | true =>
  have HK : Hid ((1 : Int) = kindN c) := by show _ = _; unfold kindN; rw [if_pos h1]; rfl
  have H1 : Hid (letB c = true) := h1
  clear h1
  go_enter Tryz.func53, Tryz.ntmps53
  go_wp2_with fail
  refine (letter_any _ _).mono ?_
  rintro e w1 ⟨rfl, rfl⟩
  rw [H1.out]
  go_wp2_with fail
  go_ret
  exact ⟨ret_int HK.out, rfl⟩
 | false =>
  cases h2 : digB c with
  | true =>
   have HK : Hid ((2 : Int) = kindN c) := by show _ = _; unfold kindN; rw [if_neg (by simp [h1]), if_pos h2]; rfl
   have H1 : Hid (letB c = false) := h1
   have H2 : Hid (digB c = true) := h2
   clear h1 h2
   go_enter Tryz.func53, Tryz.ntmps53
   go_wp2_with fail
   refine (letter_any _ _).mono ?_
   rintro e w1 ⟨rfl, rfl⟩
   rw [H1.out]
   go_wp2_with fail
   refine (digit_any _ _).mono ?_
   rintro e w2 ⟨rfl, rfl⟩
   rw [H2.out]
   go_wp2_with fail
   go_ret
   exact ⟨ret_int HK.out, rfl⟩
  | false =>
   have HK : Hid ((kindN c : Int) = if (c : Int) = 123 ∨ (c : Int) = 125 ∨ (c : Int) = 40 ∨ (c : Int) = 41 ∨ (c : Int) = 59 ∨ (c : Int) = 61 ∨ (c : Int) = 44 then 3 else 0) := by
    show _ = _; unfold kindN; rw [if_neg (by simp [h1]), if_neg (by simp [h2])]
    unfold signB
    simp only [decide_eq_true_eq]
    split
    ·rw [if_pos (by omega)]; rfl
    ·rw [if_neg (by omega)]; rfl
   have H1 : Hid (letB c = false) := h1
   have H2 : Hid (digB c = false) := h2
   clear h1 h2
   go_enter Tryz.func53, Tryz.ntmps53
   go_wp2_with fail
   refine (letter_any _ _).mono ?_
   rintro e w1 ⟨rfl, rfl⟩
   rw [H1.out]
   go_wp2_with fail
   refine (digit_any _ _).mono ?_
   rintro e w2 ⟨rfl, rfl⟩
   rw [H2.out]
   generalize (c : Int) = x at *
   clear H1 H2
   go_wp2_with fail
   all_goals
    go_ret
    refine ⟨ret_int ?_, rfl⟩
    rw [HK.out]
    simp_all
set_option maxHeartbeats 1000000 in
theorem goesOn_any (k c : Nat) (w : World) :
  Calls Tryz.prog 100 #[.int .i64 (k : Int), .int .i32 (c : Int)] w fun e w' => e = .returned (.bool (goesB k c)) ∧ w' = w := by
 by_cases h1 : k = 1
 ·subst h1
  cases h2 : letB c with
  | true =>
   have HK : Hid (true = goesB 1 c) := by show _ = _; simp [goesB, h2]
   have H2 : Hid (letB c = true) := h2
   clear h2
   go_enter Tryz.func100, Tryz.ntmps100
   go_wp2_with fail
   refine (letter_any _ _).mono ?_
   rintro e w1 ⟨rfl, rfl⟩
   rw [H2.out]
   go_wp2_with fail
   go_ret
   exact ⟨ret_bool HK.out, rfl⟩
  | false =>
   have HK : Hid (digB c = goesB 1 c) := by show _ = _; simp [goesB, h2]
   have H2 : Hid (letB c = false) := h2
   clear h2
   go_enter Tryz.func100, Tryz.ntmps100
   go_wp2_with fail
   refine (letter_any _ _).mono ?_
   rintro e w1 ⟨rfl, rfl⟩
   rw [H2.out]
   go_wp2_with fail
   refine (digit_any _ _).mono ?_
   rintro e w2 ⟨rfl, rfl⟩
   go_wp2_with fail
   go_ret
   exact ⟨ret_bool HK.out, rfl⟩
 ·have hd1 : ((k : Int) == 1) = false := by rw [beq_eq_false_iff_ne]; omega
  by_cases h2 : k = 2
  ·subst h2
   have HK : Hid (digB c = goesB 2 c) := by show _ = _; simp [goesB]
   clear hd1
   go_enter Tryz.func100, Tryz.ntmps100
   go_wp2_with fail
   refine (digit_any _ _).mono ?_
   rintro e w2 ⟨rfl, rfl⟩
   go_wp2_with fail
   go_ret
   exact ⟨ret_bool HK.out, rfl⟩
  ·have hd2 : ((k : Int) == 2) = false := by rw [beq_eq_false_iff_ne]; omega
   have HK : Hid (false = goesB k c) := by show _ = _; simp [goesB, h1, h2]
   go_enter Tryz.func100, Tryz.ntmps100
   go_wp2_with fail
   go_ret
   exact ⟨ret_bool HK.out, rfl⟩
theorem lineN_at (l : List UInt8) (h : lineN l < l.length) : (l.getD (lineN l) 0).toNat = 10 := by
 induction l with
 | nil => simp at h
 | cons a r ih =>
  simp only [lineN] at h ⊢
  split
  ·rename_i h1; simpa using h1
  ·rename_i h1
   rw [if_neg h1] at h
   rw [Nat.add_comm, List.getD_cons_succ]
   exact ih (by simp at h; omega)
theorem lineN_ahead (l : List UInt8) : ∀ j, j < lineN l → (l.getD j 0).toNat ≠ 10 := by
 induction l with
 | nil => intro j h; simp [lineN] at h
 | cons a r ih =>
  intro j h
  simp only [lineN] at h
  split at h
  ·omega
  ·rename_i h1
   match j with
   | 0 => simpa using h1
   | j + 1 => rw [List.getD_cons_succ]; exact ih j (by omega)
theorem byte_at (s : ByteArray) (i : Nat) : (s[i]! : UInt8) = s.data.toList.getD i default := by
 obtain ⟨⟨l⟩⟩ := s
 by_cases h : i < l.length
 ·rw [getElem!_pos (ByteArray.mk l.toArray) i (show i < (ByteArray.mk l.toArray).size from by rw [size_list]; exact h)]
  show l[i] = _
  rw [List.getD_eq_getElem?_getD, List.getElem?_eq_getElem h]; rfl
 ·rw [getElem!_neg (ByteArray.mk l.toArray) i (show ¬ i < (ByteArray.mk l.toArray).size from by rw [size_list]; exact h)]
  rw [List.getD_eq_getElem?_getD, List.getElem?_eq_none (show l.length ≤ i from by omega)]; rfl
theorem first_line (s : ByteArray) : firstIdx s 10 = if lineN s.data.toList < s.data.toList.length then (lineN s.data.toList : Int) else -1 := by
 have hs : s.size = s.data.toList.length := by rw [len_data]
 unfold firstIdx
 split
 ·rename_i i hi
  rw [List.find?_range_eq_some] at hi
  obtain ⟨h1, h2, h3⟩ := hi
  rw [List.mem_range, hs] at h2
  have h1' : (s.data.toList.getD i default).toNat = 10 := by
   rw [byte_at] at h1
   have := beq_iff_eq.1 h1
   rw [this]; rfl
  have hle : lineN s.data.toList ≤ i := by
   by_cases hc : i < lineN s.data.toList
   ·exact absurd h1' (lineN_ahead _ i hc)
   ·omega
  rw [if_pos (by omega)]
  by_cases hc : lineN s.data.toList < i
  ·have := h3 _ hc
   rw [byte_at] at this
   have h4 := lineN_at s.data.toList (by omega)
   have h5 : s.data.toList.getD (lineN s.data.toList) default = 10 := UInt8.toNat_inj.1 h4
   rw [h5] at this
   simp at this
  ·have : lineN s.data.toList = i := by omega
   rw [this]
 ·rename_i hi
  rw [List.find?_range_eq_none] at hi
  rw [if_neg]
  intro hc
  have := hi _ (by rw [hs]; exact hc)
  rw [byte_at] at this
  have h5 : s.data.toList.getD (lineN s.data.toList) default = 10 := UInt8.toNat_inj.1 (lineN_at s.data.toList hc)
  rw [h5] at this
  simp at this
theorem run_index (s : ByteArray) (w : World) : (callFunc 173 #[.string s, .int .u8 10]).run Tryz.prog w = .ok (.value (.int .i64 (firstIdx s 10))) w := by
 rw [run_callFunc_extern (P := Tryz.prog) (f := 173) (fn := Tryz.f173) (e := Extern.BytealgIndexByte.indexByte) Tryz.func173 (by kernel_rfl) (by kernel_rfl) (by kernel_rfl) (by kernel_rfl)]
 rw [run_indexByte_string]; rfl
set_option maxHeartbeats 1000000 in
theorem indexIn_any (s : ByteArray) (w : World) :
  Calls Tryz.prog 158 #[.string s, .int .u8 10] w fun e w' => e = .returned (.int .i64 (firstIdx s 10)) ∧ w' = w := by
 have hx := run_index s
 go_enter Tryz.func158, Tryz.ntmps158
 go_wp2_with fail
 go_ret
 exact ⟨rfl, rfl⟩
set_option maxHeartbeats 1000000 in
theorem index_any (s : ByteArray) (w : World) :
  Calls Tryz.prog 129 #[.string s, .int .u8 10] w fun e w' => e = .returned (.int .i64 (firstIdx s 10)) ∧ w' = w := by
 go_enter Tryz.func129, Tryz.ntmps129
 go_wp2_with fail
 refine (indexIn_any _ _).mono ?_
 rintro e w1 ⟨rfl, rfl⟩
 go_wp2_with fail
 go_ret
 exact ⟨rfl, rfl⟩
set_option maxHeartbeats 1000000 in
theorem lineEnd_any (s : ByteArray) (p : Nat) (w : World) (hs : s.size ≤ 140737488351232) (hp : p ≤ s.size) :
  Calls Tryz.prog 95 #[.string s, .int .i64 (p : Int)] w fun e w' => e = .returned (.int .i64 ((p + lineN (s.data.toList.drop p) : Nat) : Int)) ∧ w' = w := by
 have HF : Hid (firstIdx (s.extract p s.size) 10 = if lineN (s.data.toList.drop p) < s.size - p then (lineN (s.data.toList.drop p) : Int) else -1) := by
  show _ = _
  rw [first_line, extract_drop, List.length_drop, len_data]
 have hl := lineN_le (s.data.toList.drop p)
 rw [List.length_drop, len_data] at hl
 generalize lineN (s.data.toList.drop p) = n at *
 by_cases hn : n < s.size - p
 ·have HG : Hid (firstIdx (s.extract p s.size) 10 = (n : Int)) := by show _ = _; rw [HF.out, if_pos hn]
  clear HF
  go_enter Tryz.func95, Tryz.ntmps95
  go_wp2_with fail
  refine (index_any _ _).mono ?_
  rintro e w1 ⟨rfl, rfl⟩
  rw [HG.out]
  go_wp2_with fail
  go_ret
  exact ⟨ret_int (by omega), rfl⟩
 ·have HG : Hid (firstIdx (s.extract p s.size) 10 = -1) := by show _ = _; rw [HF.out, if_neg hn]
  clear HF
  go_enter Tryz.func95, Tryz.ntmps95
  go_wp2_with fail
  refine (index_any _ _).mono ?_
  rintro e w1 ⟨rfl, rfl⟩
  rw [HG.out]
  go_wp2_with fail
  go_ret
  exact ⟨ret_int (by omega), rfl⟩
set_option maxHeartbeats 1000000 in
theorem skip_any (s : ByteArray) (p : Nat) (w : World) (hs : s.size ≤ 140737488351232) (hp : p ≤ s.size) :
  Calls Tryz.prog 51 #[.string s, .int .i64 (p : Int)] w fun e w' => e = .returned (.int .i64 ((p + skipN (s.data.toList.drop p) : Nat) : Int)) ∧ w' = w := by
 obtain ⟨E, hE⟩ : ∃ E, p + skipN (s.data.toList.drop p) = E := ⟨_, rfl⟩
 rw [hE]
 have HS : Hid (p + skipN (s.data.toList.drop p) = E) := hE
 clear hE
 go_enter Tryz.func51, Tryz.ntmps51
 go_wp2_with fail
 go_loop [1] (fun iv => ∃ i : Nat, iv = .int .i64 (i : Int) ∧ i ≤ s.size ∧ Hid (i + skipN (s.data.toList.drop i) = E)) (fun iv => s.size - (intOf iv).toNat)
 case atStart => exact ⟨p, rfl, hp, HS⟩
 case round =>
  obtain ⟨i, rfl, hi, HI⟩ := hrel
  by_cases hlt : i < s.size
  ·have HD : Hid (s.data.toList.drop i = s[i] :: s.data.toList.drop (i + 1)) := drop_cons s i hlt
   go_wp2_with fail
   refine (blank_any _ _).mono ?_
   rintro e w1 ⟨rfl, rfl⟩
   cases hb : blankB s[i] with
   | true =>
    have HN : Hid (i + 1 + skipN (s.data.toList.drop (i + 1)) = E) := by
     have h1 := skipN_blank HD.out hb
     rw [List.drop_drop] at h1
     show _ = _
     rw [← HI.out, h1]; omega
    clear hb HD
    go_wp2_with fail
    go_round
    case rel => exact ⟨i + 1, by go_num, by omega, HN⟩
    case measure => simp [intOf]; omega
   | false =>
    have HB : Hid (blankB s[i] = false) := hb
    clear hb
    have HX : Hid ((ByteArray.mk #[47, 47]).toList.isPrefixOf (s.extract i s.size).toList = [47, 47].isPrefixOf (s.data.toList.drop i)) := by
     show _ = _
     rw [ByteArray.toList_eq, ByteArray.toList_eq, extract_drop]
    go_wp2_with fail
    refine (hasPrefix_any _ _ _ (extract_size_le s _ hs) (by decide)).mono ?_
    rintro e w2 ⟨rfl, rfl⟩
    rw [HX.out]
    cases hc : [47, 47].isPrefixOf (s.data.toList.drop i) with
    | true =>
     obtain ⟨h1, h2⟩ := skipN_slash hc
     rw [List.drop_drop] at h1
     have hl := lineN_le (s.data.toList.drop i)
     rw [List.length_drop, len_data] at hl
     have HN : Hid (i + lineN (s.data.toList.drop i) + skipN (s.data.toList.drop (i + lineN (s.data.toList.drop i))) = E) := by
      show _ = _; rw [← HI.out, h1]; omega
     clear hc HD HX h1 HB HI
     go_wp2_with fail
     refine (lineEnd_any s i _ hs hi).mono ?_
     rintro e w3 ⟨rfl, rfl⟩
     generalize lineN (s.data.toList.drop i) = n at *
     go_wp2_with fail
     go_round
     case rel => exact ⟨i + n, rfl, by omega, HN⟩
     case measure => simp [intOf]; omega
    | false =>
     have HN : Hid (i = E) := by
      show _ = _; rw [← HI.out, skipN_none HD.out HB.out hc]; rfl
     clear hc HD HX
     go_wp2_with fail
     go_ret
     exact ⟨ret_int (by rw [HN.out]), rfl⟩
  ·have HN : Hid (i = E) := by
    show _ = _
    rw [← HI.out, drop_none s i (by omega), skipN_nil]; rfl
   go_wp2_with fail
   go_ret
   exact ⟨ret_int (by rw [HN.out]), rfl⟩
theorem goes_rune {k c m : Nat} {l : List UInt8} (h1 : standsB l c = true → nxL l = some (c, m)) (h2 : standsB l c = false → nxL l = none) : goesB k c = true → nxL l = some (c, m) := by
 intro h
 refine h1 ?_
 cases e : standsB l c with
 | true => rfl
 | false =>
  exfalso
  unfold standsB at e
  simp at e
  have : c = 65533 := by omega
  subst this
  simp [goesB, letB, digB] at h
theorem goes_cont {k c m : Nat} {l : List UInt8} (h1 : standsB l c = true → nxL l = some (c, m)) (h2 : standsB l c = false → nxL l = none) (h : goesB k c = false) : contB k l = false := by
 cases e : standsB l c with
 | true => rw [contB_yes (h1 e)]; exact h
 | false => exact contB_none (h2 e)
set_option maxHeartbeats 1000000 in
theorem behind_any (s : ByteArray) (p k c m : Nat) (w : World) (hs : s.size ≤ 140737488351232) (hp : p < s.size) (hn : nxL (s.data.toList.drop p) = some (c, m)) :
  Calls Tryz.prog 54 #[.string s, .int .i64 (p : Int), .int .i64 (k : Int)] w fun e w' => e = .returned (.int .i64 ((p + pieceN k m (s.data.toList.drop p) : Nat) : Int)) ∧ Below w.heap.size w w' := by
 have hpb := piece_bd (k := k) hn
 rw [List.length_drop, len_data] at hpb
 obtain ⟨E, hE⟩ : ∃ E, pieceN k m (s.data.toList.drop p) = E := ⟨_, rfl⟩
 rw [hE] at hpb ⊢
 have HE : Hid (pieceN k m (s.data.toList.drop p) = E) := hE
 have HN : Hid (nxL (s.data.toList.drop p) = some (c, m)) := hn
 clear hE hn
 have HT : Hid ((s.extract p s.size).data.toList = s.data.toList.drop p) := extract_drop s p
 have HTS : Hid ((s.extract p s.size).size = s.size - p) := by show _ = _; rw [ByteArray.size_extract]; omega
 go_enter Tryz.func54, Tryz.ntmps54
 go_wp2
 generalize s.extract p s.size = t at *
 go_loopw [] (fun wr => ∃ pos : Nat, wr = w.iter t pos ∧ pos ≤ E ∧ Hid (pos = 0 ∨ 0 < pos ∧ pos + runN k (t.data.toList.drop pos) = E)) (fun wr => t.size - wr.iterPos w.heap.size)
 case atStart => exact ⟨0, rfl, by omega, .inl rfl⟩
 case round =>
  obtain ⟨pos, rfl, hpE, H⟩ := hrel
  by_cases hlt : pos < t.size
  ·obtain ⟨c', k', hd, h1, h2⟩ := dec_at t pos hlt
   have hnx : ∀ ty, (Instr.next (.pointer (some ⟨w.heap.size, 0, none⟩)) true ty).run Tryz.prog (w.iter t pos) = .ok (.tuple #[.bool true, .int .i64 (pos : Int), .int .i32 (c' : Int)]) (w.iter t (pos + k')) := by
    intro ty
    have := run_next_any (P := Tryz.prog) w t pos ty hlt
    rw [hd] at this
    exact this
   have HG1 : Hid (goesB k c' = true → nxL (t.data.toList.drop pos) = some (c', k')) := goes_rune h1 h2
   have HG2 : Hid (goesB k c' = false → contB k (t.data.toList.drop pos) = false) := goes_cont h1 h2
   have H1 : Hid (standsB (t.data.toList.drop pos) c' = true → nxL (t.data.toList.drop pos) = some (c', k')) := h1
   have H2 : Hid (standsB (t.data.toList.drop pos) c' = false → nxL (t.data.toList.drop pos) = none) := h2
   clear hd h1 h2
   by_cases h0 : pos = 0
   ·have HM : Hid (k' = m) := by
     show _ = _
     have h3 : nxL (t.data.toList.drop pos) = some (c, m) := by rw [h0, List.drop_zero, HT.out]; exact HN.out
     have h4 := dec_of_nx H1.out H2.out h3
     rw [h3] at h4
     simp at h4
     exact h4.2.symm
    have HR : Hid (pos + k' = 0 ∨ 0 < pos + k' ∧ pos + k' + runN k (t.data.toList.drop (pos + k')) = E) := by
     right
     rw [HM.out, HT.out, h0]
     have h9 := HE.out
     unfold pieceN at h9
     have := (nx_len HN.out).1
     refine ⟨by omega, by rw [Nat.zero_add]; exact h9⟩
    have hk1 : 1 ≤ k' ∧ pos + k' ≤ E := by
     have := HM.out
     have := (nx_len HN.out).1
     have := hpb.2.2
     omega
    have hd0 : decide (0 < pos) = false := by simp; omega
    clear H HG1 HG2 H1 H2 h0
    go_wp2_with fail
    go_roundw
    case rel => exact ⟨pos + k', rfl, hk1.2, HR⟩
    case measure => simp; omega
   ·have hd0 : decide (0 < pos) = true := by simp; omega
    have H' : Hid (pos + runN k (t.data.toList.drop pos) = E) := by
     rcases H.out with h | h
     ·exact absurd h h0
     ·exact h.2
    clear H h0
    go_wp2_with fail
    refine (goesOn_any k c' _).mono ?_
    rintro e w1 ⟨rfl, rfl⟩
    cases hg : goesB k c' with
    | true =>
     have hnx2 := HG1.out hg
     have hk1 := (nx_len hnx2).1
     have HR : Hid (pos + k' = 0 ∨ 0 < pos + k' ∧ pos + k' + runN k (t.data.toList.drop (pos + k')) = E) := by
      right
      have := runN_yes hnx2 hg
      rw [List.drop_drop] at this
      have h9 := H'.out
      omega
     have hE2 : pos + k' ≤ E := by
      rcases HR.out with h | h
      ·omega
      ·have := h.2; omega
     clear hnx2 HG1 HG2 H1 H2
     go_wp2_with fail
     go_roundw
     case rel => exact ⟨pos + k', rfl, hE2, HR⟩
     case measure => simp; omega
    | false =>
     have hz : pos = E := by
      have := runN_stop0 (HG2.out hg)
      have h9 := H'.out
      omega
     clear HG1 HG2 H1 H2
     subst hz
     go_wp2_with fail
     go_ret
     exact ⟨ret_int (by omega), below_iter _ _ _⟩
  ·have hz : pos = E ∧ p + E = s.size := by
    have h8 := HTS.out
    rcases H.out with h | h
    ·omega
    ·have : t.data.toList.drop pos = [] := List.drop_eq_nil_of_le (by rw [len_data]; omega)
     rw [this] at h
     have h9 := h.2
     have : runN k [] = 0 := rfl
     omega
   have hnx : ∀ ty, (Instr.next (.pointer (some ⟨w.heap.size, 0, none⟩)) true ty).run Tryz.prog (w.iter t pos) = _ := fun ty => run_next_end w t pos ty hlt
   obtain ⟨hpz, hz⟩ := hz
   clear hpz
   have HZ : Hid (p + E = s.size) := hz
   clear hz
   go_wp2_with fail
   go_ret
   exact ⟨ret_int (by rw [HZ.out]), below_iter _ _ _⟩
theorem nx_small {a : UInt8} {r : List UInt8} {c m : Nat} (h : nxL (a :: r) = some (c, m)) : (a.toNat < 128 ∧ c = a.toNat ∧ m = 1) ∨ (128 ≤ a.toNat ∧ 128 ≤ c) := by
 simp only [nxL] at h
 by_cases h0 : a.toNat < 128
 ·rw [if_pos h0] at h
  simp only [Option.some.injEq, Prod.mk.injEq] at h
  exact .inl ⟨h0, h.1.symm, h.2.symm⟩
 ·right
  refine ⟨by omega, ?_⟩
  rw [if_neg h0] at h
  split at h
  ·split at h
   ·split at h
    ·rename_i g; simp only [Option.some.injEq, Prod.mk.injEq] at h; omega
    ·cases h
   ·cases h
  ·split at h
   ·split at h
    ·split at h
     ·rename_i g; simp only [Option.some.injEq, Prod.mk.injEq] at h; omega
     ·cases h
    ·cases h
   ·split at h
    ·split at h
     ·split at h
      ·rename_i g; simp only [Option.some.injEq, Prod.mk.injEq] at h; omega
      ·cases h
     ·cases h
    ·cases h
def digU (a : UInt8) : Bool := decide (48 ≤ a.toNat ∧ a.toNat ≤ 57)
def numV : List UInt8 → Nat → Nat
 | [], n => n
 | a :: r, n => numV r (10 * n + (a.toNat - 48))
def numA (l : List UInt8) : Nat × Bool := if l.length < 1 ∨ 10 < l.length ∨ (1 < l.length ∧ headN l = 48) then (0, false) else if l.all digU = true then (numV l 0, true) else (0, false)
theorem numA_none {l : List UInt8} (h : l.length < 1 ∨ 10 < l.length ∨ (1 < l.length ∧ headN l = 48)) : numA l = (0, false) := by unfold numA; rw [if_pos h]
structure NumAt (l : List UInt8) (pos v : Nat) : Prop where
 sum : numV (l.drop pos) v = numV l 0
 all : l.all digU = (l.drop pos).all digU
 lt : v < 10 ^ pos
theorem NumAt.start (l : List UInt8) : NumAt l 0 0 := ⟨by simp, by simp, by decide⟩
theorem NumAt.step {s : ByteArray} {pos v : Nat} (h : NumAt s.data.toList pos v) (hp : pos < s.size) (hd : digU s[pos] = true) : NumAt s.data.toList (pos + 1) (10 * v + (s[pos].toNat - 48)) := by
 have e := drop_cons s pos hp
 obtain ⟨h1, h2, h3⟩ := h
 refine ⟨?_, ?_, ?_⟩
 ·rw [← h1, e]; rfl
 ·rw [h2, e]; simp [hd]
 ·rw [Nat.pow_succ]
  unfold digU at hd
  simp only [decide_eq_true_eq] at hd
  omega
theorem NumAt.bd {l : List UInt8} {pos v : Nat} (h : NumAt l pos v) (hp : pos ≤ 10) : v < 10000000000 := by
 have h1 := h.lt
 have h2 := Nat.pow_le_pow_right (n := 10) (by omega) hp
 have : (10 : Nat) ^ 10 = 10000000000 := by decide
 omega
theorem NumAt.bad {s : ByteArray} {pos v : Nat} (h : NumAt s.data.toList pos v) (hp : pos < s.size) (hd : digU s[pos] = false) : numA s.data.toList = (0, false) := by
 have e := drop_cons s pos hp
 unfold numA
 split
 ·rfl
 ·rw [if_neg]
  rw [h.all, e]; simp [hd]
theorem NumAt.done {s : ByteArray} {pos v : Nat} (h : NumAt s.data.toList pos v) (hp : s.size ≤ pos) (hn : ¬ (s.size < 1 ∨ 10 < s.size ∨ (1 < s.size ∧ headN s.data.toList = 48))) : numA s.data.toList = (v, true) := by
 have e := drop_none s pos hp
 have h1 := h.sum
 have h2 := h.all
 rw [e] at h1 h2
 unfold numA
 rw [if_neg (by rw [len_data]; exact hn), if_pos (by rw [h2]; rfl), ← h1]; rfl
theorem dig_dec {s : ByteArray} {pos c k : Nat} (hp : pos < s.size) (h1 : standsB (s.data.toList.drop pos) c = true → nxL (s.data.toList.drop pos) = some (c, k)) (h2 : standsB (s.data.toList.drop pos) c = false → nxL (s.data.toList.drop pos) = none) :
  digB c = digU s[pos] ∧ (digU s[pos] = true → c = s[pos].toNat ∧ k = 1) := by
 have e := drop_cons s pos hp
 cases hst : standsB (s.data.toList.drop pos) c with
 | true =>
  have h3 := h1 hst
  rw [e] at h3
  rcases nx_small h3 with ⟨g1, g2, g3⟩ | ⟨g1, g2⟩
  ·rw [← g2]
   refine ⟨?_, fun _ => ⟨rfl, g3⟩⟩
   unfold digB digU
   rw [← g2]
   congr 1; apply propext; omega
  ·constructor
   ·unfold digB digU
    rw [decide_eq_false (by omega), decide_eq_false (by omega)]
   ·unfold digU; simp only [decide_eq_true_eq]; omega
 | false =>
  have h3 := h2 hst
  have hc : c = 65533 := by unfold standsB at hst; simp at hst; omega
  rw [e] at h3
  have ha : 128 ≤ s[pos].toNat := by
   by_cases h : s[pos].toNat < 128
   ·simp [nxL, h] at h3
   ·omega
  constructor
  ·unfold digB digU
   rw [hc, decide_eq_false (by omega), decide_eq_false (by omega)]
  ·unfold digU; simp only [decide_eq_true_eq]; omega
theorem head_byte (s : ByteArray) (h : 0 < s.size) : headN s.data.toList = s[0].toNat := by
 have := drop_cons s 0 h
 rw [List.drop_zero] at this
 rw [this]; rfl
set_option maxHeartbeats 1000000 in
theorem number_any (s : ByteArray) (w : World) (hs : s.size ≤ 140737488351232) :
  Calls Tryz.prog 160 #[.string s] w fun e w' => e = .returned (.tuple #[.int .i64 ((numA s.data.toList).1 : Int), .bool (numA s.data.toList).2]) ∧ Below w.heap.size w w' := by
 obtain ⟨R, hR⟩ : ∃ R, numA s.data.toList = R := ⟨_, rfl⟩
 rw [hR]
 have HR : Hid (numA s.data.toList = R) := hR
 clear hR
 by_cases h1 : s.size < 1
 ·have : R = (0, false) := by rw [← HR.out]; exact numA_none (.inl (by rw [len_data]; exact h1))
  subst this
  have hz : s = ⟨#[]⟩ := by
   obtain ⟨⟨l⟩⟩ := s
   have : l.length = 0 := by have := h1; rw [size_list] at this; omega
   rw [List.length_eq_zero_iff.1 this]
  clear HR
  subst hz
  go_enter Tryz.func160, Tryz.ntmps160
  go_wp2_with fail
  go_ret2
  exact ⟨rfl, Below.refl _ _⟩
 ·have hne : (s.toList == ([] : List UInt8)) = false := by
   rw [beq_eq_false_iff_ne, ByteArray.toList_eq]
   intro e
   have := congrArg List.length e
   rw [len_data, List.length_nil] at this; omega
  by_cases h2 : 10 < s.size
  ·have : R = (0, false) := by rw [← HR.out]; exact numA_none (.inr (.inl (by rw [len_data]; exact h2)))
   subst this
   have hd2 : decide (10 < (s.size : Int)) = true := by simp; omega
   clear HR
   go_enter Tryz.func160, Tryz.ntmps160
   go_wp2_with fail
   go_ret2
   exact ⟨rfl, Below.refl _ _⟩
  ·have hd2 : decide (10 < (s.size : Int)) = false := by simp; omega
   have hb0 : 0 < s.size := by omega
   by_cases h3 : 1 < s.size ∧ headN s.data.toList = 48
   ·have : R = (0, false) := by rw [← HR.out]; exact numA_none (.inr (.inr (by rw [len_data]; exact h3)))
    subst this
    have hd3 : decide (1 < (s.size : Int)) = true := by simp; omega
    have hb : ((s[0].toNat : Int) == 48) = true := by rw [beq_iff_eq, ← head_byte s hb0, h3.2]; rfl
    clear HR h3
    go_enter Tryz.func160, Tryz.ntmps160
    go_wp2_with fail
    go_ret2
    exact ⟨rfl, Below.refl _ _⟩
   ·have HN : Hid (¬ (s.size < 1 ∨ 10 < s.size ∨ (1 < s.size ∧ headN s.data.toList = 48))) := by
     rintro (h | h | h)
     ·exact h1 h
     ·exact h2 h
     ·exact h3 h
    have hgo : (decide (1 < (s.size : Int)) = false) ∨ (decide (1 < (s.size : Int)) = true ∧ ((s[0].toNat : Int) == 48) = false) := by
     by_cases h : 1 < s.size
     ·right
      refine ⟨by simp; omega, ?_⟩
      rw [beq_eq_false_iff_ne, ← head_byte s hb0]
      intro e
      exact h3 ⟨h, by omega⟩
     ·left; simp; omega
    have hle : s.size ≤ 10 := by omega
    clear h3 h2
    rcases hgo with hd3 | ⟨hd3, hb⟩
    all_goals
     go_enter Tryz.func160, Tryz.ntmps160
     go_wp2_with fail
     go_loopw [4] (fun nv wr => ∃ (pos v : Nat), nv = .int .i64 (v : Int) ∧ wr = w.iter s pos ∧ pos ≤ s.size ∧ v < 10000000000 ∧ Hid (NumAt s.data.toList pos v)) (fun _ wr => s.size - wr.iterPos w.heap.size)
     case atStart => exact ⟨0, 0, rfl, rfl, by omega, by omega, NumAt.start _⟩
     case round =>
      obtain ⟨pos, v, rfl, rfl, hps, hv, H⟩ := hrel
      by_cases hlt : pos < s.size
      ·obtain ⟨c, k, hdc, g1, g2⟩ := dec_at s pos hlt
       have hnx : ∀ ty, (Instr.next (.pointer (some ⟨w.heap.size, 0, none⟩)) true ty).run Tryz.prog (w.iter s pos) = .ok (.tuple #[.bool true, .int .i64 (pos : Int), .int .i32 (c : Int)]) (w.iter s (pos + k)) := by
        intro ty
        have := run_next_any (P := Tryz.prog) w s pos ty hlt
        rw [hdc] at this
        exact this
       obtain ⟨q1, q2⟩ := dig_dec hlt g1 g2
       have Q1 : Hid (digB c = digU s[pos]) := q1
       cases hdu : digU s[pos] with
       | false =>
        have : R = (0, false) := by rw [← HR.out]; exact H.out.bad hlt hdu
        subst this
        have HF : Hid (digB c = false) := by show _ = _; rw [q1]; exact hdu
        clear hdc g1 g2 q1 q2 Q1 HR hdu H
        go_wp2_with fail
        refine (digit_any _ _).mono ?_
        rintro e w1 ⟨rfl, rfl⟩
        rw [HF.out]
        go_wp2_with fail
        go_ret2
        exact ⟨rfl, below_iter _ _ _⟩
       | true =>
        obtain ⟨q3, q4⟩ := q2 hdu
        have HF : Hid (digB c = true) := by show _ = _; rw [q1]; exact hdu
        have hstep := H.out.step hlt hdu
        rw [← q3] at hstep
        have HS : Hid (NumAt s.data.toList (pos + k) (10 * v + (c - 48))) := by rw [q4]; exact hstep
        have hvb := hstep.bd (by omega)
        have hcb : 48 ≤ c ∧ c ≤ 57 := by
         unfold digU at hdu
         simp only [decide_eq_true_eq] at hdu
         omega
        have hk : 1 ≤ k ∧ pos + k ≤ s.size := by omega
        have hv2 : v < 1000000000 := by omega
        clear hdc g1 g2 q1 q2 Q1 hdu H q3 q4 hstep
        go_wp2_with fail
        refine (digit_any _ _).mono ?_
        rintro e w1 ⟨rfl, rfl⟩
        rw [HF.out]
        go_wp2_with fail
        go_roundw
        case rel => exact ⟨pos + k, 10 * v + (c - 48), by congr 1; omega, rfl, hk.2, hvb, HS⟩
        case measure => simp; omega
      ·have hnx : ∀ ty, (Instr.next (.pointer (some ⟨w.heap.size, 0, none⟩)) true ty).run Tryz.prog (w.iter s pos) = _ := fun ty => run_next_end w s pos ty hlt
       have : R = (v, true) := by rw [← HR.out]; exact H.out.done (by omega) HN.out
       subst this
       clear HR
       go_wp2_with fail
       go_ret2
       exact ⟨rfl, below_iter _ _ _⟩
end Go.Proofs.YtcjfeandnmochaaGreatDoor
namespace Go.Proofs.YtcjfeandnmochaaGreatDoor
open Go.RowKit
def keyK (l : List UInt8) : Bool := [[115, 99, 104, 101, 109, 97], [109, 101, 115, 115, 97, 103, 101], [101, 110, 117, 109], [99, 97, 108, 108], [114, 101, 116, 117, 114, 110, 115], [114, 101, 115, 101, 114, 118, 101, 100],
 [111, 112, 116, 105, 111, 110, 97, 108], [114, 101, 112, 101, 97, 116, 101, 100], [105, 110, 116, 51, 50], [105, 110, 116, 54, 52], [98, 111, 111, 108], [116, 101, 120, 116], [98, 121, 116, 101, 115]].any fun (k : List UInt8) => l == k
def nameK (l : List UInt8) : Bool := decide (1 ≤ countN l ∧ countN l ≤ 20) && !keyK l && okFrom true ((runesOf l).getD [])
theorem keyB_eq (s : ByteArray) : keyB s = keyK s.data.toList := by unfold keyB keyK; rw [ByteArray.toList_eq]
theorem nameB_eq (s : ByteArray) : nameB s = nameK s.data.toList := by unfold nameB nameK; rw [keyB_eq]
end Go.Proofs.YtcjfeandnmochaaGreatDoor
namespace Go.Proofs.YtcjfeandnmochaaGreatDoor
open Go.ChangeShapes Go.WideShapes Go.ChangeAt Go.RowKit
set_option linter.unusedVariables false
set_option linter.unusedSimpArgs false
set_option maxRecDepth 20000
theorem infoTk : (Tryz.prog.info? 85).map (fun i => (i.zero, i.size, i.bytes)) = some (some (.agg #[.int .i64 0, .string ⟨#[]⟩, .int .i64 0]), 3, 32) := by kernel_rfl
def Tk.bytes (t : Tk) : ByteArray := ⟨t.text.toArray⟩
def Tk.cells (t : Tk) : List Value := [.int .i64 (t.kind : Int), .string t.bytes, .int .i64 (t.pos : Int)]
def tkCells (rs : List Tk) : List Value := rs.flatMap Tk.cells
theorem tkCells_nil : tkCells [] = [] := rfl
theorem tkCells_cons (r : Tk) (l : List Tk) : tkCells (r :: l) = r.cells ++ tkCells l := by simp [tkCells]
theorem tkCells_app (a b : List Tk) : tkCells (a ++ b) = tkCells a ++ tkCells b := by simp [tkCells]
theorem tkCells_len (rs : List Tk) : (tkCells rs).length = rs.length * 3 := by
 induction rs with
 | nil => rfl
 | cons r l ih => rw [tkCells_cons, List.length_append, ih, List.length_cons]; simp [Tk.cells]; omega
theorem tkCells_snoc (acc : List Tk) (r : Tk) : (acc ++ [r]).length = acc.length + 1 ∧ tkCells (acc ++ [r]) = tkCells acc ++ r.cells := by
 constructor
 ·simp
 ·rw [tkCells_app, tkCells_cons, tkCells_nil, List.append_nil]
theorem tkCells_get : ∀ (rs : List Tk) (i : Nat) (r : Tk), rs[i]? = some r → ∀ c u, r.cells[c]? = some u → (tkCells rs)[i * 3 + c]? = some u
 | [], i, r, h, c, u, hu => by simp at h
 | x :: l, 0, r, h, c, u, hu => by
  obtain rfl : x = r := by simpa using h
  rw [tkCells_cons, Nat.zero_mul, Nat.zero_add, List.getElem?_append_left (List.getElem?_eq_some_iff.1 hu).1]
  exact hu
 | x :: l, i + 1, r, h, c, u, hu => by
  have := tkCells_get l i r (by simpa using h) c u hu
  rw [tkCells_cons, List.getElem?_append_right (by simp [Tk.cells]; omega)]
  have e : (i + 1) * 3 + c - x.cells.length = i * 3 + c := by simp [Tk.cells]; omega
  rw [e]
  exact this
def HoldsT (w : World) (a : Option Addr) (rs : List Tk) : Prop := ∀ b, a = some b → ∀ j u, (tkCells rs)[j]? = some u → w.cell? (b.add j) = some u
theorem HoldsT.below {w w1 : World} {a : Option Addr} {rs : List Tk} (h : HoldsT w a rs) (hb : Below w.heap.size w w1) : HoldsT w1 a rs := by
 intro b hab j u hu
 have := h b hab j u hu
 rw [hb.cell (World.block_lt_of_cell? _ _ this)]
 exact this
theorem HoldsT.nil {w : World} {a : Option Addr} : HoldsT w a [] := by
 intro b _ j u hu
 simp [tkCells] at hu
theorem HoldsT.at {w : World} {g off : Nat} {rs : List Tk} (h : HoldsT w (some ⟨g, off, none⟩) rs) {i : Nat} {r : Tk} (hi : rs[i]? = some r) :
  w.cell? ⟨g, off + i * 3, none⟩ = some (.int .i64 (r.kind : Int)) ∧ w.cell? ⟨g, off + i * 3 + 1, none⟩ = some (.string r.bytes) ∧ w.cell? ⟨g, off + i * 3 + 2, none⟩ = some (.int .i64 (r.pos : Int)) := by
 refine ⟨?_, ?_, ?_⟩
 ·have := h _ rfl _ _ (tkCells_get rs i r hi 0 _ rfl); rwa [Addr.add_lit] at this
 ·have := h _ rfl _ _ (tkCells_get rs i r hi 1 _ rfl); rwa [Addr.add_lit, ← Nat.add_assoc] at this
 ·have := h _ rfl _ _ (tkCells_get rs i r hi 2 _ rfl); rwa [Addr.add_lit, ← Nat.add_assoc] at this
theorem HoldsT.at0 {w : World} {g : Nat} {rs : List Tk} (h : HoldsT w (some ⟨g, 0, none⟩) rs) {i : Nat} {r : Tk} (hi : rs[i]? = some r) :
  w.cell? ⟨g, i * 3, none⟩ = some (.int .i64 (r.kind : Int)) ∧ w.cell? ⟨g, i * 3 + 1, none⟩ = some (.string r.bytes) ∧ w.cell? ⟨g, i * 3 + 2, none⟩ = some (.int .i64 (r.pos : Int)) := by
 have := h.at hi
 rwa [Nat.zero_add] at this
theorem own_openT {w : World} {B : Nat} {r : Value} {n : Nat} {rs : List Tk} (h : w.ownsRow B 85 3 r n (tkCells rs)) :
  ∃ a cap, r = .slice a rs.length cap ∧ n = rs.length ∧ ((a = none ∧ rs = [] ∧ cap = 0) ∨ ∃ g, a = some ⟨g, 0, none⟩ ∧ B ≤ g ∧ g < w.heap.size) ∧ rs.length ≤ cap ∧ cap ≤ maxLen ∧ HoldsT w a rs := by
 have hn : n = rs.length := by have := h.1; rw [tkCells_len] at this; omega
 have h0 := h
 subst hn
 rcases h.2 with ⟨rfl, h2⟩ | ⟨g, cap, cur, rfl, hb, hg, hc, hm, _⟩
 ·have : rs = [] := List.eq_nil_of_length_eq_zero h2
  subst this
  exact ⟨none, 0, rfl, rfl, .inl ⟨rfl, rfl, rfl⟩, Nat.le_refl _, by decide, HoldsT.nil⟩
 ·refine ⟨_, cap, rfl, rfl, .inr ⟨g, rfl, hb, (Array.getElem?_eq_some_iff.1 hg).1⟩, hc, hm, ?_⟩
  intro b hb' j u hu
  obtain rfl : ⟨g, 0, none⟩ = b := by simpa using hb'
  exact h0.cells (g := g) rfl j u hu
structure RowT (w : World) (v : Value) (rs : List Tk) : Prop where
 form : ∃ a cap, v = .slice a rs.length cap ∧ rs.length ≤ cap ∧ cap ≤ maxLen ∧ (rs ≠ [] → ∃ g, a = some ⟨g, 0, none⟩) ∧ HoldsT w a rs
theorem row_own {w : World} {B : Nat} {r : Value} {n : Nat} {rs : List Tk} (h : w.ownsRow B 85 3 r n (tkCells rs)) : RowT w r rs := by
 obtain ⟨a, cap, h1, _, h3, h4, h5, h6⟩ := own_openT h
 refine ⟨a, cap, h1, h4, h5, ?_, h6⟩
 intro hne
 rcases h3 with h3 | ⟨g, h3, _⟩
 ·exact absurd h3.2.1 hne
 ·exact ⟨g, h3⟩
theorem RowT.below {w w1 : World} {v : Value} {rs : List Tk} (h : RowT w v rs) (hb : Below w.heap.size w w1) : RowT w1 v rs := by
 obtain ⟨a, cap, h1, h2, h3, h4, h5⟩ := h.form
 exact ⟨a, cap, h1, h2, h3, h4, h5.below hb⟩
def ansA : LexA → List Tk × Nat × Nat
 | .inl (p, e) => ([], p, e)
 | .inr ts => (ts, 0, 0)
def tokA (s : ByteArray) : List Tk × Nat × Nat := if 16384 < s.size then ([], 0, 4) else ansA (lexO s.data.toList 0)
theorem extract_list (s : ByteArray) (a n : Nat) : (s.extract a (a + n)).data.toList = (s.data.toList.drop a).take n := by
 obtain ⟨⟨l⟩⟩ := s
 simp [ByteArray.data_extract, ByteArray.size]
theorem extract_piece (s : ByteArray) (a n : Nat) : s.extract a (a + n) = ⟨((s.data.toList.drop a).take n).toArray⟩ := by
 have h := extract_list s a n
 generalize s.extract a (a + n) = t at *
 obtain ⟨⟨m⟩⟩ := t
 simp only at h
 rw [h]
theorem slice_text (W : World) (s : ByteArray) (p X : Nat) (h1 : p ≤ X) (h2 : X ≤ s.size) : (Instr.slice 9 (.string s) (some (.int .i64 (p : Int))) (some (.int .i64 (X : Int))) none).run Tryz.prog W = .ok (.string (s.extract p X)) W := by
 have := run_slice_string (P := Tryz.prog) W 9 s .i64 .i64 (p : Int) (X : Int) Tryz.underlying9 (by omega) (by omega) (by omega)
 rwa [Int.toNat_natCast, Int.toNat_natCast] at this
end Go.Proofs.YtcjfeandnmochaaGreatDoor
namespace Go.Proofs.YtcjfeandnmochaaGreatDoor
open Go.RowKit
set_option linter.unusedVariables false
set_option linter.unusedSimpArgs false
set_option maxRecDepth 20000
abbrev PR (α : Type) := Sum Nat (α × List ByteArray)
def pBind {α β : Type} (x : PR α) (f : α → List ByteArray → PR β) : PR β := match x with
 | .inl n => .inl n
 | .inr (a, r) => f a r
def pIs (k : ByteArray) (ts : List ByteArray) : Bool := match ts with
 | [] => false
 | t :: _ => t.data.toList == k.data.toList
def pMust (k : ByteArray) (ts : List ByteArray) : PR Unit := if pIs k ts = true then .inr ((), ts.tail) else .inl ts.length
def pName (ts : List ByteArray) : PR ByteArray := match ts with
 | [] => .inl 0
 | t :: r => if nameK t.data.toList = true then .inr (t, r) else .inl (r.length + 1)
def pNum (ts : List ByteArray) : PR Nat := match ts with
 | [] => .inl 0
 | t :: r => if (numA t.data.toList).2 = true then .inr ((numA t.data.toList).1, r) else .inl (r.length + 1)
def kSchema : ByteArray := ⟨#[115, 99, 104, 101, 109, 97]⟩
def kMessage : ByteArray := ⟨#[109, 101, 115, 115, 97, 103, 101]⟩
def kEnum : ByteArray := ⟨#[101, 110, 117, 109]⟩
def kCall : ByteArray := ⟨#[99, 97, 108, 108]⟩
def kReturns : ByteArray := ⟨#[114, 101, 116, 117, 114, 110, 115]⟩
def kReserved : ByteArray := ⟨#[114, 101, 115, 101, 114, 118, 101, 100]⟩
def kOptional : ByteArray := ⟨#[111, 112, 116, 105, 111, 110, 97, 108]⟩
def kRepeated : ByteArray := ⟨#[114, 101, 112, 101, 97, 116, 101, 100]⟩
def kSemi : ByteArray := ⟨#[59]⟩
def kOpen : ByteArray := ⟨#[123]⟩
def kShut : ByteArray := ⟨#[125]⟩
def kPar : ByteArray := ⟨#[40]⟩
def kRap : ByteArray := ⟨#[41]⟩
def kEq : ByteArray := ⟨#[61]⟩
def kComma : ByteArray := ⟨#[44]⟩
def scalN (t : ByteArray) : Nat := if t.data.toList = [105, 110, 116, 51, 50] then 1 else if t.data.toList = [105, 110, 116, 54, 52] then 2 else if t.data.toList = [98, 111, 111, 108] then 3 else if t.data.toList = [116, 101, 120, 116] then 4 else if t.data.toList = [98, 121, 116, 101, 115] then 5 else 0
def pMore : Nat → List Int → List ByteArray → PR (List Int)
 | 0, acc, ts => pBind (pMust kSemi ts) fun _ r => .inr (acc, r)
 | f + 1, acc, ts => if pIs kComma ts = true then pBind (pNum ts.tail) fun n r => pMore f (acc ++ [(n : Int)]) r else pBind (pMust kSemi ts) fun _ r => .inr (acc, r)
def pLabel (ts : List ByteArray) : Int × List ByteArray := if pIs kOptional ts = true then (2, ts.tail) else if pIs kRepeated ts = true then (3, ts.tail) else (1, ts)
def pType (ts : List ByteArray) : PR (Int × ByteArray) := match ts with
 | [] => .inl 0
 | t :: r => if 0 < scalN t then .inr (((scalN t : Nat), ⟨#[]⟩), r) else pBind (pName ts) fun n r => .inr ((0, n), r)
def pField (ts : List ByteArray) : PR FlS :=
 pBind (pType (pLabel ts).2) fun ty r1 => pBind (pName r1) fun n r2 => pBind (pMust kEq r2) fun _ r3 => pBind (pNum r3) fun g r4 => pBind (pMust kSemi r4) fun _ r5 => .inr (⟨n, g, (pLabel ts).1, ty.1, ty.2⟩, r5)
def pMember (m : MsS) (ts : List ByteArray) : PR MsS :=
 if pIs kReserved ts = true then pBind (pNum ts.tail) fun n r => pBind (pMore r.length (m.reserved ++ [(n : Int)]) r) fun l r2 => .inr (⟨m.name, m.fields, l⟩, r2)
 else pBind (pField ts) fun f r => .inr (⟨m.name, m.fields ++ [f], m.reserved⟩, r)
def pMembers : Nat → MsS → List ByteArray → PR MsS
 | 0, _, ts => .inl ts.length
 | f + 1, m, ts => if pIs kShut ts = true then .inr (m, ts.tail) else pBind (pMember m ts) fun m' r => pMembers f m' r
def pMsg (ts : List ByteArray) : PR MsS := pBind (pName ts) fun n r => pBind (pMust kOpen r) fun _ r2 => pMembers (r2.length + 1) ⟨n, [], []⟩ r2
def pValue (ts : List ByteArray) : PR NmS := pBind (pName ts) fun n r => pBind (pMust kEq r) fun _ r2 => pBind (pNum r2) fun v r3 => pBind (pMust kSemi r3) fun _ r4 => .inr (⟨n, v⟩, r4)
def pValues : Nat → EnS → List ByteArray → PR EnS
 | 0, _, ts => .inl ts.length
 | f + 1, m, ts => if pIs kShut ts = true then .inr (m, ts.tail) else pBind (pValue ts) fun v r => pValues f ⟨m.name, m.values ++ [v]⟩ r
def pEnum (ts : List ByteArray) : PR EnS := pBind (pName ts) fun n r => pBind (pMust kOpen r) fun _ r2 => pValues (r2.length + 1) ⟨n, []⟩ r2
def pCall (ts : List ByteArray) : PR MtS :=
 pBind (pName ts) fun n r => pBind (pMust kPar r) fun _ r => pBind (pName r) fun i r => pBind (pMust kRap r) fun _ r => pBind (pMust kReturns r) fun _ r => pBind (pMust kPar r) fun _ r => pBind (pName r) fun o r => pBind (pMust kRap r) fun _ r => pBind (pMust kSemi r) fun _ r => .inr (⟨n, i, o⟩, r)
def pDecl (s : ScS) (ts : List ByteArray) : PR ScS :=
 if pIs kMessage ts = true then pBind (pMsg ts.tail) fun m r => .inr (⟨s.name, s.msgs ++ [m], s.enums, s.methods⟩, r)
 else if pIs kEnum ts = true then pBind (pEnum ts.tail) fun m r => .inr (⟨s.name, s.msgs, s.enums ++ [m], s.methods⟩, r)
 else if pIs kCall ts = true then pBind (pCall ts.tail) fun m r => .inr (⟨s.name, s.msgs, s.enums, s.methods ++ [m]⟩, r)
 else .inl ts.length
def pDecls : Nat → ScS → List ByteArray → PR ScS
 | 0, s, ts => .inr (s, ts)
 | f + 1, s, ts => if ts.isEmpty = true then .inr (s, []) else pBind (pDecl s ts) fun s' r => pDecls f s' r
def pText (ts : List ByteArray) : PR ScS := pBind (pMust kSchema ts) fun _ r => pBind (pName r) fun n r2 => pBind (pMust kSemi r2) fun _ r3 => pDecls r3.length ⟨n, [], [], []⟩ r3
def kindF (es : List EnS) (f : FlS) : FlS := if f.kind = 0 then ⟨f.name, f.tag, f.label, if es.any (fun e => e.name.data.toList == f.tname.data.toList) = true then 6 else 7, f.tname⟩ else f
def kindM (es : List EnS) (m : MsS) : MsS := ⟨m.name, m.fields.map (kindF es), m.reserved⟩
def kindS (s : ScS) : ScS := ⟨s.name, s.msgs.map (kindM s.enums), s.enums, s.methods⟩
def placeN (l : List Tk) (size left : Nat) : Nat := match l[l.length - left]? with
 | none => size
 | some t => t.pos
def parseA (s : ByteArray) : ScS × Nat × Nat :=
 if (tokA s).2.2 ≠ 0 then (zeroS, (tokA s).2.1, (tokA s).2.2) else match pText ((tokA s).1.map Tk.bytes) with
  | .inl n => (zeroS, placeN (tokA s).1 s.size n, 5)
  | .inr (x, _) => (kindS x, 0, 0)
def Shrinks {α : Type} (x : PR α) (n : Nat) : Prop := (∀ k, x = .inl k → k ≤ n) ∧ ∀ a r, x = .inr (a, r) → r.length ≤ n
theorem pBind_ok {α β : Type} {a : α} {r : List ByteArray} (f : α → List ByteArray → PR β) : pBind (.inr (a, r)) f = f a r := rfl
theorem pIs_cons {k : ByteArray} {ts : List ByteArray} (h : pIs k ts = true) : ∃ t r, ts = t :: r ∧ t.data.toList = k.data.toList := by
 cases ts with
 | nil => simp [pIs] at h
 | cons t r => exact ⟨t, r, rfl, by simpa [pIs] using h⟩
theorem pName_sh (ts : List ByteArray) : Shrinks (pName ts) ts.length := by
 unfold pName
 cases ts with
 | nil => exact ⟨fun k hk => by simp at hk; omega, fun a r hr => by simp at hr⟩
 | cons t r =>
  simp only
  split
  ·exact ⟨fun k hk => by simp at hk, fun a r hr => by simp at hr; rw [← hr.2]; simp⟩
  ·exact ⟨fun k hk => by simp at hk; simp; omega, fun a r hr => by simp at hr⟩
theorem pNum_sh (ts : List ByteArray) : Shrinks (pNum ts) ts.length := by
 unfold pNum
 cases ts with
 | nil => exact ⟨fun k hk => by simp at hk; omega, fun a r hr => by simp at hr⟩
 | cons t r =>
  simp only
  split
  ·exact ⟨fun k hk => by simp at hk, fun a r hr => by simp at hr; rw [← hr.2]; simp⟩
  ·exact ⟨fun k hk => by simp at hk; simp; omega, fun a r hr => by simp at hr⟩
abbrev Sg := Sum Nat (List ByteArray)
def stX {α : Type} (x : PR α) : Sg := match x with
 | .inl n => .inl n
 | .inr (_, r) => .inr r
def pOn {α : Type} (σ : Sg) (f : List ByteArray → PR α) : PR α := match σ with
 | .inl n => .inl n
 | .inr r => f r
def res {α : Type} (d : α) (x : PR α) : α := match x with
 | .inl _ => d
 | .inr (a, _) => a
def Res {α : Type} (x : PR α) (a : α) : Prop := ∀ b r, x = .inr (b, r) → a = b
def noT : ByteArray := ⟨#[]⟩
def badS (σ : Sg) : Bool := match σ with
 | .inl _ => true
 | .inr _ => false
def leftS (σ : Sg) : Nat := match σ with
 | .inl n => n
 | .inr r => r.length
def headS (σ : Sg) : ByteArray := match σ with
 | .inl _ => noT
 | .inr [] => noT
 | .inr (t :: _) => t
theorem Res.no {α : Type} {n : Nat} {a : α} : Res (.inl n) a := fun b r h => by cases h
theorem Res.yes {α : Type} {a : α} {r : List ByteArray} : Res (.inr (a, r)) a := fun b r' h => by simp at h; exact h.1
def pTake (ws : List ByteArray) (ts : List ByteArray) : PR ByteArray := match ts with
 | [] => .inr (noT, [])
 | t :: r => if ws.any (fun k => k.data.toList == t.data.toList) = true then .inr (t, r) else .inr (noT, t :: r)
def pOne (ws : List ByteArray) (ts : List ByteArray) : PR ByteArray := match ts with
 | [] => .inl 0
 | t :: r => if ws.any (fun k => k.data.toList == t.data.toList) = true then .inr (t, r) else .inl (r.length + 1)
theorem ba_eq {a b : ByteArray} : a.data.toList = b.data.toList ↔ a = b := by
 constructor
 ·intro h; obtain ⟨⟨x⟩⟩ := a; obtain ⟨⟨y⟩⟩ := b; simp only at h; rw [h]
 ·intro h; rw [h]
theorem must_cons (k t : ByteArray) (r : List ByteArray) : pMust k (t :: r) = if t.data.toList = k.data.toList then .inr ((), r) else .inl (r.length + 1) := by
 unfold pMust pIs
 by_cases h : t.data.toList = k.data.toList
 ·rw [if_pos h]; simp only [h, beq_self_eq_true, if_true, List.tail_cons]
 ·rw [if_neg h]
  have h2 : (t.data.toList == k.data.toList) = false := by rw [beq_eq_false_iff_ne]; exact h
  simp only [h2, Bool.false_eq_true, if_false, List.length_cons]
theorem is_cons (k t : ByteArray) (r : List ByteArray) : (pIs k (t :: r) = true) = (t.data.toList = k.data.toList) := by
 unfold pIs
 exact propext beq_iff_eq
theorem one_must (k : ByteArray) (σ : Sg) : stX (pOn σ (pOne [k])) = stX (pOn σ (pMust k)) := by
 cases σ with
 | inl n => rfl
 | inr r =>
  simp only [pOn]
  cases r with
  | nil => simp [pOne, pMust, pIs, stX]
  | cons t r =>
   rw [must_cons]
   by_cases h : t.data.toList = k.data.toList
   ·rw [if_pos h]
    simp [pOne, h, stX]
   ·rw [if_neg h]
    have h' : ¬ k.data.toList = t.data.toList := fun e => h e.symm
    have h2 : (k.data.toList == t.data.toList) = false := by rw [beq_eq_false_iff_ne]; exact h'
    simp only [pOne, List.any_cons, List.any_nil, h2, Bool.or_false, Bool.false_eq_true, if_false]
    rfl
theorem value_st (σ : Sg) : stX (pOn (stX (pOn (stX (pOn (stX (pOn σ pName)) (pMust kEq))) pNum)) (pMust kSemi)) = stX (pOn σ pValue) ∧
  Res (pOn σ pValue) ⟨res noT (pOn σ pName), (res 0 (pOn (stX (pOn (stX (pOn σ pName)) (pMust kEq))) pNum) : Nat)⟩ := by
 cases σ with
 | inl n => exact ⟨rfl, Res.no⟩
 | inr r =>
  simp only [pOn, pValue]
  cases h1 : pName r with
  | inl n => exact ⟨rfl, Res.no⟩
  | inr x =>
   obtain ⟨a, r1⟩ := x
   simp only [stX, pBind, res]
   cases h2 : pMust kEq r1 with
   | inl n => exact ⟨rfl, Res.no⟩
   | inr x =>
    obtain ⟨_, r2⟩ := x
    simp only [stX, pBind, res]
    cases h3 : pNum r2 with
    | inl n => exact ⟨rfl, Res.no⟩
    | inr x =>
     obtain ⟨v, r3⟩ := x
     simp only [stX, pBind, res]
     cases h4 : pMust kSemi r3 with
     | inl n => exact ⟨rfl, Res.no⟩
     | inr x => obtain ⟨_, r4⟩ := x; exact ⟨rfl, Res.yes⟩
def pLab (ts : List ByteArray) : PR Int := .inr (pLabel ts)
def labV (t : ByteArray) : Int := if t.data.toList = kOptional.data.toList then 2 else if t.data.toList = kRepeated.data.toList then 3 else 1
theorem label_st (σ : Sg) : stX (pOn σ (pTake [kOptional, kRepeated])) = stX (pOn σ pLab) ∧ labV (res noT (pOn σ (pTake [kOptional, kRepeated]))) = res 1 (pOn σ pLab) := by
 cases σ with
 | inl n => exact ⟨rfl, by simp [res, pOn, labV, noT, kOptional, kRepeated]⟩
 | inr r =>
  cases r with
  | nil => simp [pOn, pTake, pLab, pLabel, pIs, stX, res, labV, noT, kOptional, kRepeated]
  | cons t r =>
   simp only [pOn, pTake, pLab, pLabel, List.any_cons, List.any_nil, is_cons]
   by_cases h : t.data.toList = kOptional.data.toList
   ·rw [if_pos h]; simp [h, stX, res, labV]
   ·rw [if_neg h]
    have h2 : (kOptional.data.toList == t.data.toList) = false := by rw [beq_eq_false_iff_ne]; exact fun e => h e.symm
    by_cases h3 : t.data.toList = kRepeated.data.toList
    ·rw [if_pos h3]; simp [h3, stX, res, labV]; simp [kRepeated, kOptional]
    ·rw [if_neg h3]
     have h4 : (kRepeated.data.toList == t.data.toList) = false := by rw [beq_eq_false_iff_ne]; exact fun e => h3 e.symm
     simp only [h2, h4, Bool.or_self, Bool.false_eq_true, if_false]
     simp [stX, res, labV, noT, kOptional, kRepeated]
def k7 (k : Int) : Int := if k = 0 then 7 else k
theorem field_st (σ : Sg) (v : NmS) (hv : Res (pOn (stX (pOn (stX (pOn σ pLab)) pType)) pValue) v) :
  stX (pOn (stX (pOn (stX (pOn σ pLab)) pType)) pValue) = stX (pOn σ pField) ∧
  Res (pOn σ pField) ⟨v.name, v.n, res 1 (pOn σ pLab), (res (0, noT) (pOn (stX (pOn σ pLab)) pType)).1, (res (0, noT) (pOn (stX (pOn σ pLab)) pType)).2⟩ := by
 cases σ with
 | inl n => first | exact ⟨rfl, Res.no⟩ | exact ⟨trivial, Res.no⟩
 | inr ts =>
  have e1 : stX (pOn (.inr ts) pLab) = .inr (pLabel ts).2 := rfl
  have e2 : res 1 (pOn (.inr ts) pLab) = (pLabel ts).1 := rfl
  rw [e1] at hv ⊢
  rw [e2]
  simp only [pOn] at hv ⊢
  unfold pField
  cases h1 : pType (pLabel ts).2 with
  | inl n => first | exact ⟨rfl, Res.no⟩ | exact ⟨trivial, Res.no⟩
  | inr x =>
   obtain ⟨ty, r1⟩ := x
   rw [h1] at hv
   simp only [stX, pBind, res, pOn, pValue] at hv ⊢
   cases h2 : pName r1 with
   | inl n => first | exact ⟨rfl, Res.no⟩ | exact ⟨trivial, Res.no⟩
   | inr x =>
    obtain ⟨nm, r2⟩ := x
    rw [h2] at hv
    simp only [pBind] at hv ⊢
    cases h3 : pMust kEq r2 with
    | inl n => first | exact ⟨rfl, Res.no⟩ | exact ⟨trivial, Res.no⟩
    | inr x =>
     obtain ⟨_, r3⟩ := x
     rw [h3] at hv
     simp only [pBind] at hv ⊢
     cases h4 : pNum r3 with
     | inl n => first | exact ⟨rfl, Res.no⟩ | exact ⟨trivial, Res.no⟩
     | inr x =>
      obtain ⟨g, r4⟩ := x
      rw [h4] at hv
      simp only [pBind] at hv ⊢
      cases h5 : pMust kSemi r4 with
      | inl n => first | exact ⟨rfl, Res.no⟩ | exact ⟨trivial, Res.no⟩
      | inr x =>
       obtain ⟨_, r5⟩ := x
       rw [h5] at hv
       simp only [pBind] at hv ⊢
       have := hv _ _ rfl
       subst this
       first | exact ⟨rfl, Res.yes⟩ | exact ⟨trivial, Res.yes⟩
def pIn (ts : List ByteArray) : PR ByteArray := pBind (pMust kPar ts) fun _ r => pBind (pName r) fun n r => pBind (pMust kRap r) fun _ r => .inr (n, r)
theorem in_st (σ : Sg) : stX (pOn (stX (pOn (stX (pOn σ (pMust kPar))) pName)) (pMust kRap)) = stX (pOn σ pIn) ∧ Res (pOn σ pIn) (res noT (pOn (stX (pOn σ (pMust kPar))) pName)) := by
 cases σ with
 | inl n => first | exact ⟨rfl, Res.no⟩ | exact ⟨trivial, Res.no⟩
 | inr r =>
  simp only [pOn, pIn]
  cases h1 : pMust kPar r with
  | inl n => first | exact ⟨rfl, Res.no⟩ | exact ⟨trivial, Res.no⟩
  | inr x =>
   obtain ⟨_, r1⟩ := x
   simp only [stX, pBind, res]
   cases h2 : pName r1 with
   | inl n => first | exact ⟨rfl, Res.no⟩ | exact ⟨trivial, Res.no⟩
   | inr x =>
    obtain ⟨nm, r2⟩ := x
    simp only [stX, pBind, res]
    cases h3 : pMust kRap r2 with
    | inl n => first | exact ⟨rfl, Res.no⟩ | exact ⟨trivial, Res.no⟩
    | inr x => obtain ⟨_, r3⟩ := x; first | exact ⟨rfl, Res.yes⟩ | exact ⟨trivial, Res.yes⟩
theorem call_st (σ : Sg) (a b : ByteArray) (ha : Res (pOn (stX (pOn σ pName)) pIn) a) (hb : Res (pOn (stX (pOn (stX (pOn (stX (pOn σ pName)) pIn)) (pMust kReturns))) pIn) b) :
  stX (pOn (stX (pOn (stX (pOn (stX (pOn (stX (pOn σ pName)) pIn)) (pMust kReturns))) pIn)) (pMust kSemi)) = stX (pOn σ pCall) ∧ Res (pOn σ pCall) ⟨res noT (pOn σ pName), a, b⟩ := by
 cases σ with
 | inl n => first | exact ⟨rfl, Res.no⟩ | exact ⟨trivial, Res.no⟩
 | inr r =>
  simp only [pOn, pCall] at ha hb ⊢
  cases h1 : pName r with
  | inl n => first | exact ⟨rfl, Res.no⟩ | exact ⟨trivial, Res.no⟩
  | inr x =>
   obtain ⟨nm, r1⟩ := x
   rw [h1] at ha hb
   simp only [stX, pBind, res, pIn] at ha hb ⊢
   cases h2 : pMust kPar r1 with
   | inl n => first | exact ⟨rfl, Res.no⟩ | exact ⟨trivial, Res.no⟩
   | inr x =>
    obtain ⟨_, r2⟩ := x
    rw [h2] at ha hb
    simp only [stX, pBind, res] at ha hb ⊢
    cases h3 : pName r2 with
    | inl n => first | exact ⟨rfl, Res.no⟩ | exact ⟨trivial, Res.no⟩
    | inr x =>
     obtain ⟨i, r3⟩ := x
     rw [h3] at ha hb
     simp only [stX, pBind, res] at ha hb ⊢
     cases h4 : pMust kRap r3 with
     | inl n => first | exact ⟨rfl, Res.no⟩ | exact ⟨trivial, Res.no⟩
     | inr x =>
      obtain ⟨_, r4⟩ := x
      rw [h4] at ha hb
      simp only [stX, pBind, res] at ha hb ⊢
      have := ha _ _ rfl
      subst this
      cases h5 : pMust kReturns r4 with
      | inl n => first | exact ⟨rfl, Res.no⟩ | exact ⟨trivial, Res.no⟩
      | inr x =>
       obtain ⟨_, r5⟩ := x
       rw [h5] at hb
       simp only [stX, pBind, res] at hb ⊢
       cases h6 : pMust kPar r5 with
       | inl n => first | exact ⟨rfl, Res.no⟩ | exact ⟨trivial, Res.no⟩
       | inr x =>
        obtain ⟨_, r6⟩ := x
        rw [h6] at hb
        simp only [stX, pBind, res] at hb ⊢
        cases h7 : pName r6 with
        | inl n => first | exact ⟨rfl, Res.no⟩ | exact ⟨trivial, Res.no⟩
        | inr x =>
         obtain ⟨o, r7⟩ := x
         rw [h7] at hb
         simp only [stX, pBind, res] at hb ⊢
         cases h8 : pMust kRap r7 with
         | inl n => first | exact ⟨rfl, Res.no⟩ | exact ⟨trivial, Res.no⟩
         | inr x =>
          obtain ⟨_, r8⟩ := x
          rw [h8] at hb
          simp only [stX, pBind, res] at hb ⊢
          have := hb _ _ rfl
          subst this
          cases h9 : pMust kSemi r8 with
          | inl n => first | exact ⟨rfl, Res.no⟩ | exact ⟨trivial, Res.no⟩
          | inr x => obtain ⟨_, r9⟩ := x; first | exact ⟨rfl, Res.yes⟩ | exact ⟨trivial, Res.yes⟩
/- How much is left. -/
def LtP {α : Type} (x : PR α) (n : Nat) : Prop := ∀ a r, x = .inr (a, r) → r.length < n
def LeP {α : Type} (x : PR α) (n : Nat) : Prop := ∀ a r, x = .inr (a, r) → r.length ≤ n
theorem LtP.le {α : Type} {x : PR α} {n : Nat} (h : LtP x n) : LeP x n := fun a r e => Nat.le_of_lt (h a r e)
theorem le_inr {α : Type} (a : α) (r : List ByteArray) : LeP (.inr (a, r)) r.length := fun b r' e => by simp at e; rw [e.2]; exact Nat.le_refl _
theorem lt_bind {α β : Type} {x : PR α} {f : α → List ByteArray → PR β} {n : Nat} (h : LtP x n) (hf : ∀ a r, LeP (f a r) r.length) : LtP (pBind x f) n := by
 cases x with
 | inl k => intro a r e; cases e
 | inr x => obtain ⟨a, r⟩ := x; intro b r' e; exact Nat.lt_of_le_of_lt (hf a r b r' e) (h a r rfl)
theorem le_bind {α β : Type} {x : PR α} {f : α → List ByteArray → PR β} {n : Nat} (h : LeP x n) (hf : ∀ a r, LeP (f a r) r.length) : LeP (pBind x f) n := by
 cases x with
 | inl k => intro a r e; cases e
 | inr x => obtain ⟨a, r⟩ := x; intro b r' e; exact Nat.le_trans (hf a r b r' e) (h a r rfl)
theorem must_lt (k : ByteArray) (ts : List ByteArray) : LtP (pMust k ts) ts.length := by
 cases ts with
 | nil => intro a r e; simp [pMust, pIs] at e
 | cons t r => rw [must_cons]; intro a r' e; split at e <;> simp at e; rw [← e]; simp
theorem name_lt (ts : List ByteArray) : LtP (pName ts) ts.length := by
 cases ts with
 | nil => intro a r e; simp [pName] at e
 | cons t r => intro a r' e; unfold pName at e; simp only at e; split at e <;> simp at e; rw [← e.2]; simp
theorem num_lt (ts : List ByteArray) : LtP (pNum ts) ts.length := by
 cases ts with
 | nil => intro a r e; simp [pNum] at e
 | cons t r => intro a r' e; unfold pNum at e; simp only at e; split at e <;> simp at e; rw [← e.2]; simp
theorem type_lt (ts : List ByteArray) : LtP (pType ts) ts.length := by
 cases ts with
 | nil => intro a r e; simp [pType] at e
 | cons t r =>
  unfold pType
  simp only
  split
  ·intro a r' e; simp at e; rw [← e.2]; simp
  ·exact lt_bind (name_lt _) (fun a r => le_inr _ _)
theorem label_le (ts : List ByteArray) : (pLabel ts).2.length ≤ ts.length := by
 unfold pLabel
 split
 ·simp
 ·split <;> simp
theorem field_lt (ts : List ByteArray) : LtP (pField ts) ts.length := by
 unfold pField
 refine lt_bind (fun a r e => Nat.lt_of_lt_of_le (type_lt _ a r e) (label_le ts)) fun a r => ?_
 exact le_bind (name_lt r).le fun _ r => le_bind (must_lt _ r).le fun _ r => le_bind (num_lt r).le fun _ r => le_bind (must_lt _ r).le fun _ r => le_inr _ _
theorem more_le : ∀ (f : Nat) (acc : List Int) (ts : List ByteArray), LeP (pMore f acc ts) ts.length
 | 0, acc, ts => le_bind (must_lt _ ts).le fun _ r => le_inr _ _
 | f + 1, acc, ts => by
  unfold pMore
  split
  ·have h := le_bind (x := pNum ts.tail) (f := fun n r => pMore f (acc ++ [(n : Int)]) r) (num_lt ts.tail).le fun n r => more_le f _ r
   exact fun a r e => Nat.le_trans (h a r e) (by simp)
  ·exact le_bind (must_lt _ ts).le fun _ r => le_inr _ _
theorem member_lt (m : MsS) (ts : List ByteArray) : LtP (pMember m ts) ts.length := by
 unfold pMember
 split
 ·have h := lt_bind (x := pNum ts.tail) (f := fun n r => pBind (pMore r.length (m.reserved ++ [(n : Int)]) r) fun l r2 => (.inr (⟨m.name, m.fields, l⟩, r2) : PR MsS)) (num_lt ts.tail) fun n r => le_bind (more_le _ _ r) fun _ r => le_inr _ _
  exact fun a r e => Nat.lt_of_lt_of_le (h a r e) (by simp)
 ·exact lt_bind (field_lt ts) fun _ r => le_inr _ _
theorem members_le : ∀ (f : Nat) (m : MsS) (ts : List ByteArray), LeP (pMembers f m ts) ts.length
 | 0, m, ts => fun a r e => by cases e
 | f + 1, m, ts => by
  unfold pMembers
  split
  ·intro a r e; simp at e; rw [← e.2]; simp
  ·exact le_bind (member_lt m ts).le fun m' r => members_le f m' r
theorem msg_lt (ts : List ByteArray) : LtP (pMsg ts) ts.length := by
 unfold pMsg
 exact lt_bind (name_lt ts) fun _ r => le_bind (must_lt _ r).le fun _ r => members_le _ _ r
theorem value_lt (ts : List ByteArray) : LtP (pValue ts) ts.length := by
 unfold pValue
 exact lt_bind (name_lt ts) fun _ r => le_bind (must_lt _ r).le fun _ r => le_bind (num_lt r).le fun _ r => le_bind (must_lt _ r).le fun _ r => le_inr _ _
theorem values_le : ∀ (f : Nat) (m : EnS) (ts : List ByteArray), LeP (pValues f m ts) ts.length
 | 0, m, ts => fun a r e => by cases e
 | f + 1, m, ts => by
  unfold pValues
  split
  ·intro a r e; simp at e; rw [← e.2]; simp
  ·exact le_bind (value_lt ts).le fun m' r => values_le f _ r
theorem enum_lt (ts : List ByteArray) : LtP (pEnum ts) ts.length := by
 unfold pEnum
 exact lt_bind (name_lt ts) fun _ r => le_bind (must_lt _ r).le fun _ r => values_le _ _ r
theorem call_lt (ts : List ByteArray) : LtP (pCall ts) ts.length := by
 unfold pCall
 exact lt_bind (name_lt ts) fun _ r => le_bind (must_lt _ r).le fun _ r => le_bind (name_lt r).le fun _ r => le_bind (must_lt _ r).le fun _ r => le_bind (must_lt _ r).le fun _ r => le_bind (must_lt _ r).le fun _ r => le_bind (name_lt r).le fun _ r => le_bind (must_lt _ r).le fun _ r => le_bind (must_lt _ r).le fun _ r => le_inr _ _
theorem decl_lt (s : ScS) (ts : List ByteArray) : LtP (pDecl s ts) ts.length := by
 unfold pDecl
 split
 ·exact fun a r e => Nat.lt_of_lt_of_le (lt_bind (msg_lt ts.tail) (fun _ r => le_inr _ _) a r e) (by simp)
 ·split
  ·exact fun a r e => Nat.lt_of_lt_of_le (lt_bind (enum_lt ts.tail) (fun _ r => le_inr _ _) a r e) (by simp)
  ·split
   ·exact fun a r e => Nat.lt_of_lt_of_le (lt_bind (call_lt ts.tail) (fun _ r => le_inr _ _) a r e) (by simp)
   ·intro a r e; cases e
theorem bind_congr {α β : Type} {x : PR α} {f f' : α → List ByteArray → PR β} (h : ∀ a r, x = .inr (a, r) → f a r = f' a r) : pBind x f = pBind x f' := by
 cases x with
 | inl n => rfl
 | inr x => obtain ⟨a, r⟩ := x; exact h a r rfl
theorem more_fuel : ∀ (f : Nat) (acc : List Int) (ts : List ByteArray), ts.length ≤ f → pMore f acc ts = pMore ts.length acc ts
 | 0, acc, ts, h => by rw [Nat.le_zero.1 h]
 | f + 1, acc, [], h => by simp [pMore, pIs]
 | f + 1, acc, t :: r, h => by
  simp only [List.length_cons, pMore, List.tail_cons]
  split
  ·exact bind_congr fun n r' e => by
    have := num_lt r _ _ e
    simp only [List.length_cons] at h
    rw [more_fuel f _ r' (by omega), more_fuel r.length _ r' (by omega)]
  ·rfl
theorem members_fuel : ∀ (f : Nat) (m : MsS) (ts : List ByteArray), ts.length + 1 ≤ f → pMembers f m ts = pMembers (ts.length + 1) m ts
 | 0, m, ts, h => by omega
 | f + 1, m, ts, h => by
  simp only [pMembers]
  split
  ·rfl
  ·exact bind_congr fun n r' e => by
    have := member_lt m ts _ _ e
    cases hl : ts.length with
    | zero => omega
    | succ k => rw [members_fuel f _ r' (by omega), members_fuel (k + 1) _ r' (by omega)]
theorem values_fuel : ∀ (f : Nat) (m : EnS) (ts : List ByteArray), ts.length + 1 ≤ f → pValues f m ts = pValues (ts.length + 1) m ts
 | 0, m, ts, h => by omega
 | f + 1, m, ts, h => by
  simp only [pValues]
  split
  ·rfl
  ·exact bind_congr fun n r' e => by
    have := value_lt ts _ _ e
    cases hl : ts.length with
    | zero => omega
    | succ k => rw [values_fuel f _ r' (by omega), values_fuel (k + 1) _ r' (by omega)]
theorem decls_fuel : ∀ (f : Nat) (s : ScS) (ts : List ByteArray), ts.length ≤ f → pDecls f s ts = pDecls ts.length s ts
 | 0, s, ts, h => by rw [Nat.le_zero.1 h]
 | f + 1, s, [], h => by simp [pDecls]
 | f + 1, s, t :: r, h => by
  simp only [List.length_cons, pDecls, List.isEmpty_cons, Bool.false_eq_true, if_false]
  exact bind_congr fun n r' e => by
   have := decl_lt s (t :: r) _ _ e
   simp only [List.length_cons] at h this
   rw [decls_fuel f _ r' (by omega), decls_fuel r.length _ r' (by omega)]
end Go.Proofs.YtcjfeandnmochaaGreatDoor
namespace Go.Proofs.YtcjfeandnmochaaGreatDoor
open Go.ChangeShapes Go.WideShapes Go.ChangeAt Go.RowKit
set_option linter.unusedVariables false
set_option linter.unusedSimpArgs false
set_option maxRecDepth 20000
set_option maxHeartbeats 1000000 in
theorem put_any (r : Int) (w : World) :
  Calls Tryz.prog 97 #[.int .i32 r] w fun e w' => e = .returned (.string (putS r)) ∧ w' = w := by
 go_enter Tryz.func97, Tryz.ntmps97
 go_wp2
 all_goals
  go_ret
  first
  | exact ⟨ret_str (putS_yes ((valid_iff r).2 (by omega))), rfl⟩
  | exact ⟨ret_str (putS_no ((valid_not r).2 (by omega))), rfl⟩
end Go.Proofs.YtcjfeandnmochaaGreatDoor
namespace Go.Proofs.YtcjfeandnmochaaGreatDoor
open Go.ChangeShapes Go.WideShapes Go.ChangeAt Go.RowKit
set_option linter.unusedVariables false
set_option maxRecDepth 20000
set_option maxHeartbeats 1000000 in
theorem next_out (s : ByteArray) (i : Int) (w : World) (h : i < 0 ∨ (s.size : Int) ≤ i) :
  Calls Tryz.prog 52 #[.string s, .int .i64 i] w fun e w' => e = .returned (nxV (nxL (atL s i))) ∧ Below w.heap.size w w' := by
 have hx := atL_out s i h
 have HX : Hid (nxL (atL s i) = none) := hx
 clear hx
 rcases h with h | h
 ·go_enter Tryz.func52, Tryz.ntmps52
  go_wp2
  go_ret3
  exact ⟨ret_none HX.out, Below.refl _ _⟩
 ·by_cases h0 : i < 0
  all_goals
   go_enter Tryz.func52, Tryz.ntmps52
   go_wp2
   go_ret3
   exact ⟨ret_none HX.out, Below.refl _ _⟩
theorem extract_mk (s : ByteArray) (i : Nat) : s.extract i s.size = ⟨(s.data.toList.drop i).toArray⟩ := by
 have h := extract_drop s i
 generalize s.extract i s.size = t at *
 obtain ⟨⟨m⟩⟩ := t
 simp only at h
 rw [h]
theorem put_size {l : List UInt8} {c k : Nat} (h : nxL l = some (c, k)) : ((putS c).size : Int) = k := by
 obtain ⟨h1, _, h3, _⟩ := nxL_some l c k h
 rw [← putS_yes h1, h3]
set_option maxHeartbeats 1000000 in
theorem next_in (s : ByteArray) (i : Nat) (w : World) (hs : s.size ≤ 140737488351232) (h : i < s.size) :
  Calls Tryz.prog 52 #[.string s, .int .i64 (i : Int)] w fun e w' => e = .returned (nxV (nxL (atL s i))) ∧ Below w.heap.size w w' := by
 have hd1 : decide (s.size ≤ i) = false := by simp; omega
 have hd2 : decide ((i : Int) < 0) = false := by simp
 have HA : Hid (atL s i = s.data.toList.drop i) := by rw [atL_in s i (by omega), Int.toNat_natCast]; rfl
 have HL : Hid (s.data.toList.drop i ≠ []) := by rw [drop_cons s i h]; exact List.cons_ne_nil _ _
 rw [HA.out]
 obtain ⟨c, k, hd⟩ : ∃ c k, Utf8.decode ⟨(s.data.toList.drop i).toArray⟩ 0 = (c, k) := ⟨_, _, rfl⟩
 obtain ⟨H1, H2⟩ : Hid (standsB (s.data.toList.drop i) c = true → nxL (s.data.toList.drop i) = some (c, k)) ∧ Hid (standsB (s.data.toList.drop i) c = false → nxL (s.data.toList.drop i) = none) := nx_stands HL.out hd
 have HD : Hid (Utf8.decode (s.extract i s.size) 0 = (c, k)) := by rw [extract_mk]; exact hd
 have HZ : Hid (0 < (s.extract i s.size).size) := by show 0 < _; rw [ByteArray.size_extract]; omega
 clear hd
 go_enter Tryz.func52, Tryz.ntmps52
 go_wp2
 generalize s.extract i s.size = t at *
 have hnx : ∀ ty, (Instr.next (.pointer (some ⟨w.heap.size, 0, none⟩)) true ty).run Tryz.prog (w.iter t 0) = .ok (.tuple #[.bool true, .int .i64 0, .int .i32 (c : Int)]) (w.iter t (0 + k)) := by
  intro ty
  have := run_next_any (P := Tryz.prog) w t 0 ty HZ.out
  rw [HD.out] at this
  exact this
 go_loopw [] (fun wr => wr = w.iter t 0) (fun _ => 0)
 case atStart => rfl
 case round =>
  subst hrel
  go_wp2_with fail
  refine (stands_any s _ _ _ hs (by omega) (by omega)).mono ?_
  rintro e w' ⟨rfl, rfl⟩
  rw [Int.toNat_natCast]
  cases hst : standsB (s.data.toList.drop i) c with
  | false =>
   go_wp2
   go_ret3
   exact ⟨ret_none (H2.out hst), below_iter _ _ _⟩
  | true =>
   go_wp2_with fail
   refine (put_any _ _).mono ?_
   rintro e w' ⟨rfl, rfl⟩
   have hp : Hid (((putS c).size : Int) = k) := put_size (H1.out hst)
   generalize putS c = p at *
   go_wp2
   go_ret3
   exact ⟨ret_some _ _ (H1.out hst) rfl hp.out, below_iter _ _ _⟩
theorem next_any (s : ByteArray) (i : Int) (w : World) (hs : s.size ≤ 140737488351232) :
  Calls Tryz.prog 52 #[.string s, .int .i64 i] w fun e w' => e = .returned (nxV (nxL (atL s i))) ∧ Below w.heap.size w w' := by
 by_cases h : i < 0 ∨ (s.size : Int) ≤ i
 ·exact next_out s i w h
 ·obtain ⟨n, rfl⟩ := Int.eq_ofNat_of_zero_le (a := i) (by omega)
  exact next_in s n w hs (by omega)
end Go.Proofs.YtcjfeandnmochaaGreatDoor
namespace Go.Proofs.YtcjfeandnmochaaGreatDoor
open Go.ChangeShapes Go.WideShapes Go.ChangeAt Go.RowKit
set_option linter.unusedVariables false
set_option linter.unusedSimpArgs false
set_option maxRecDepth 20000
set_option maxHeartbeats 4000000 in
theorem tokens_any (s : ByteArray) (w : World) (hs : s.size ≤ 140737488351232) :
  Calls Tryz.prog 22 #[.string s] w fun e w' => ∃ v, e = .returned (.tuple #[v, .int .i64 ((tokA s).2.1 : Int), .int .i64 ((tokA s).2.2 : Int)]) ∧ w'.ownsRow w.heap.size 85 3 v (tokA s).1.length (tkCells (tokA s).1) ∧ Below w.heap.size w w' := by
 obtain ⟨R, hR⟩ : ∃ R, tokA s = R := ⟨_, rfl⟩
 rw [hR]
 by_cases hbig : 16384 < s.size
 ·have : R = ([], 0, 4) := by rw [← hR, tokA, if_pos hbig]
  subst this
  clear hR
  go_enter Tryz.func22, Tryz.ntmps22
  go_wp2_with fail
  go_ret3
  exact ⟨_, rfl, World.ownsRow_nil _ _ _ _, Below.refl _ _⟩
 ·have HR : Hid (ansA (lexO s.data.toList 0) = R) := by
   show _ = _
   rw [← hR, tokA, if_neg hbig]
  clear hR
  obtain ⟨i0, hi, hz0, hz1, hz2⟩ := info_parts infoTk
  have hsk := skipN_le (s.data.toList.drop 0)
  rw [List.length_drop, len_data] at hsk
  have H0 : Hid (0 + skipN (s.data.toList.drop 0) = 0 + skipN (s.data.toList.drop 0)) := rfl
  go_enter Tryz.func22, Tryz.ntmps22
  go_wp2_with fail
  refine (skip_any s 0 _ hs (by omega)).mono ?_
  rintro e w0 ⟨rfl, rfl⟩
  generalize hp0 : 0 + skipN (s.data.toList.drop 0) = p0 at H0
  have HP0 : Hid (0 + skipN (s.data.toList.drop 0) = p0) := hp0
  have hp0s : p0 ≤ s.size := by omega
  clear hp0 H0 hsk
  go_wp2_with fail
  go_loopw [5, 6] (fun out pv wr => ∃ (acc : List Tk) (pos p : Nat), pv = .int .i64 (p : Int) ∧ p ≤ s.size ∧ acc.length ≤ p ∧ Hid (pos + skipN (s.data.toList.drop pos) = p) ∧ Hid (Read s.data.toList pos acc) ∧ Hid (wr.ownsRow w0.heap.size 85 3 out acc.length (tkCells acc)) ∧ Below w0.heap.size w0 wr)
   (fun _ pv _ => s.size - (intOf pv).toNat)
  case atStart => exact ⟨[], 0, p0, rfl, hp0s, by simp, HP0, Read.start, World.ownsRow_nil _ _ _ _, Below.refl _ _⟩
  case round =>
   obtain ⟨acc, pos, p, rfl, hp, hacc, HP, HRd, HO, hbel⟩ := hrel
   have hws := hbel.size
   by_cases hlt : p < s.size
   ·have HA : Hid (atL s p = s.data.toList.drop p) := by rw [atL_in s p (by omega), Int.toNat_natCast]; rfl
    go_wp2_with fail
    refine (next_any s _ _ hs).mono ?_
    rintro e w1 ⟨rfl, hb1⟩
    have hb1' : Below w0.heap.size w0 w1 := hbel.trans (hb1.mono hws)
    have hws1 := hb1'.size
    have HO1 := own_belowH HO hb1
    clear HO hb1 hbel
    rw [HA.out]
    clear HA
    generalize hx : nxL (s.data.toList.drop p) = x
    cases x with
    | none =>
     have hR : R = ([], p, 9) := by
      have hl := HP.out
      rw [← HR.out, HRd.out.text (by rw [hl, len_data]; exact hlt) (by rw [hl]; exact hx), hl]; rfl
     subst hR
     clear hx HR HP HRd HO1
     simp only [nxV]
     go_wp2_with fail
     go_ret3
     exact ⟨_, rfl, World.ownsRow_nil _ _ _ _, hb1'⟩
    | some x =>
     obtain ⟨c, m⟩ := x
     simp only [nxV]
     go_wp2_with fail
     refine (begins_any c _).mono ?_
     rintro e w2 ⟨rfl, rfl⟩
     by_cases hk : kindN c = 0
     ·have hR : R = ([], p, 5) := by
       have hl := HP.out
       rw [← HR.out, HRd.out.syn (by rw [hl]; exact hx) hk, hl]; rfl
      subst hR
      have HK : Hid (kindN c = 0) := hk
      clear hx HR HP HRd HO1 hk
      rw [HK.out]
      go_wp2_with fail
      go_ret3
      exact ⟨_, rfl, World.ownsRow_nil _ _ _ _, hb1'⟩
     ·have HX : Hid (nxL (s.data.toList.drop p) = some (c, m)) := hx
      have hpb := piece_bd (k := kindN c) hx
      rw [List.length_drop, len_data] at hpb
      have hkd : ((kindN c : Int) == 0) = false := by rw [beq_eq_false_iff_ne]; omega
      obtain ⟨X, hE⟩ : ∃ X, p + pieceN (kindN c) m (s.data.toList.drop p) = X := ⟨_, rfl⟩
      have HB : Hid (∀ W : World, Calls Tryz.prog 54 #[.string s, .int .i64 (p : Int), .int .i64 (kindN c : Int)] W fun e w' => e = .returned (.int .i64 (X : Int)) ∧ Below W.heap.size W w') := fun W => by
       have := behind_any s p (kindN c) c m W hs hlt hx
       rwa [hE] at this
      obtain ⟨T, hT⟩ : ∃ T : Tk, T = ⟨kindN c, (s.data.toList.drop p).take (pieceN (kindN c) m (s.data.toList.drop p)), p⟩ := ⟨_, rfl⟩
      have HRd2 : Hid (Read s.data.toList X (acc ++ [T])) := by
       have hl := HP.out
       have := HRd.out.tok (by rw [hl]; exact hx) hk
       rw [hl, hE] at this
       rw [hT]
       exact this
      have HT : Hid (T.cells = [.int .i64 (kindN c : Int), .string (s.extract p X), .int .i64 (p : Int)]) := by
       show _ = _
       rw [hT, ← hE, extract_piece]; rfl
      have hpe : p < X ∧ X ≤ s.size := by omega
      have hsk := skipN_le (s.data.toList.drop X)
      rw [List.length_drop, len_data] at hsk
      have HS : Hid (∀ W : World, Calls Tryz.prog 51 #[.string s, .int .i64 (X : Int)] W fun e w' => e = .returned (.int .i64 ((X + skipN (s.data.toList.drop X) : Nat) : Int)) ∧ w' = W) := fun W => skip_any s X W hs (by omega)
      generalize hq : X + skipN (s.data.toList.drop X) = q at HS
      have HQ : Hid (X + skipN (s.data.toList.drop X) = q) := hq
      have hqb : X ≤ q ∧ q ≤ s.size := by omega
      have hkc : kindN c ≤ 3 := by unfold kindN; split; omega; split; omega; split <;> omega
      clear hx hE hT hq HP HRd hk HX hsk hpb
      generalize kindN c = K at *
      go_wp2_with fail
      refine (HB.out _).mono ?_
      rintro e w3 ⟨rfl, hb3⟩
      have hb3' : Below w0.heap.size w0 w3 := hb1'.trans (hb3.mono hws1)
      have hws3 := hb3'.size
      have HO3 := own_belowH HO1 hb3
      have hsl : ∀ W : World, (Instr.slice 9 (.string s) (some (.int .i64 (p : Int))) (some (.int .i64 (X : Int))) none).run Tryz.prog W = .ok (.string (s.extract p X)) W := fun W => slice_text W s p X (by omega) (by omega)
      clear HO1 hb3 hb1' HB
      go_wp2_with (first
       | (at_builtin; refine wpList_append_own _ rfl _ _ 57 rfl w0.heap.size 85 i0 _ 3 32 Tryz.underlying57 hi hz0 hz1 hz2 rfl (by decide) _ _ _ rfl (HO3.out.alloc _) ⟨w3.heap.size, 0, none⟩ 1 1 [.int .i64 (K : Int), .string (s.extract p X), .int .i64 (p : Int)] rfl rfl ?c1 ?c2 ?c3 ?c4 ?c5 ?_)
       | fail)
      case c1 =>
       intro j u hj
       match j, hj with
       | 0, hj | 1, hj | 2, hj => simp at hj; subst hj; simp [Addr.add]
      case c2 => intro u hu; simp at hu; rcases hu with rfl | rfl | rfl <;> rfl
      case c3 => unfold maxLen; omega
      case c4 => omega
      case c5 => simp; omega
      intro v w4 ho4 hg4 _
      have hb4 : Below w0.heap.size w0 w4 := (hb3'.alloc hws3 _).grown hg4 (by simp; omega) (fun k hk => (HO3.out.lt k hk).1)
      have HO4 : Hid (w4.ownsRow w0.heap.size 85 3 v (acc ++ [T]).length (tkCells (acc ++ [T]))) := by
       show World.ownsRow _ _ _ _ _ _ _
       rw [(tkCells_snoc acc _).1, (tkCells_snoc acc _).2, HT.out]
       exact ho4
      have hlen : (acc ++ [T]).length ≤ q := by simp; omega
      clear HO3 ho4 hg4 hb3'
      go_wp2_with fail
      refine (HS.out _).mono ?_
      rintro e w5 ⟨rfl, rfl⟩
      go_wp2_with fail
      go_roundw
      case rel => exact ⟨acc ++ [T], X, q, rfl, hqb.2, hlen, HQ, HRd2, HO4, hb4⟩
      case measure => simp [intOf]; omega
   ·have hR : R = (acc, 0, 0) := by
     have hl := HP.out
     rw [← HR.out, HRd.out.fin (by rw [hl, len_data]; omega)]; rfl
    subst hR
    clear HP HRd HR
    go_wp2_with fail
    go_ret3
    exact ⟨_, rfl, HO.out, hbel⟩
theorem tokens_row (s : ByteArray) (w : World) (hs : s.size ≤ 140737488351232) (ts : List Tk) (p e : Nat) (h : tokA s = (ts, p, e)) :
  Calls Tryz.prog 22 #[.string s] w fun x w' => ∃ v, x = .returned (.tuple #[v, .int .i64 (p : Int), .int .i64 (e : Int)]) ∧ RowT w' v ts ∧ Below w.heap.size w w' := by
 refine (tokens_any s w hs).mono ?_
 rintro x w' ⟨v, rfl, ho, hb⟩
 rw [h] at ho ⊢
 exact ⟨v, rfl, row_own ho, hb⟩
structure Glob (w : World) : Prop where
 c0 : w.cell? ⟨0, 0, none⟩ = some (.string ⟨#[105, 110, 116, 51, 50]⟩)
 c1 : w.cell? ⟨0, 1, none⟩ = some (.int .i64 1)
 c2 : w.cell? ⟨0, 2, none⟩ = some (.string ⟨#[105, 110, 116, 54, 52]⟩)
 c3 : w.cell? ⟨0, 3, none⟩ = some (.int .i64 2)
 c4 : w.cell? ⟨0, 4, none⟩ = some (.string ⟨#[98, 111, 111, 108]⟩)
 c5 : w.cell? ⟨0, 5, none⟩ = some (.int .i64 3)
 c6 : w.cell? ⟨0, 6, none⟩ = some (.string ⟨#[116, 101, 120, 116]⟩)
 c7 : w.cell? ⟨0, 7, none⟩ = some (.int .i64 4)
 c8 : w.cell? ⟨0, 8, none⟩ = some (.string ⟨#[98, 121, 116, 101, 115]⟩)
 c9 : w.cell? ⟨0, 9, none⟩ = some (.int .i64 5)
theorem Glob.kp {S : Nat → Prop} {w w' : World} (h : Glob w) (hb : Kp S w w') (hs : ¬ S 0) : Glob w' :=
 ⟨hb.cell h.c0 hs, hb.cell h.c1 hs, hb.cell h.c2 hs, hb.cell h.c3 hs, hb.cell h.c4 hs, hb.cell h.c5 hs, hb.cell h.c6 hs, hb.cell h.c7 hs, hb.cell h.c8 hs, hb.cell h.c9 hs⟩
theorem Glob.below {w w' : World} (h : Glob w) (hb : Below w.heap.size w w') : Glob w' := h.kp (S := fun _ => False) (Kp.ofBelow hb) (fun e => e)
theorem Glob.lt {w : World} (h : Glob w) : 0 < w.heap.size := World.block_lt_of_cell? _ _ h.c0
structure Rd (w : World) (g : Nat) (V : Value) (ts : List Tk) (E : Nat) (σ : Sg) : Prop where
 glob : Glob w
 pos : 0 < g
 blk : w.heap[g]? = some (.cells #[V, .int .i64 ((ts.length - leftS σ : Nat) : Int), .int .i64 (E : Int), .bool (badS σ)] 61 (0, 0))
 left : leftS σ ≤ ts.length
 rest : ∀ r, σ = .inr r → r = (ts.map Tk.bytes).drop (ts.length - r.length)
 row : ∃ a cap, V = .slice a ts.length cap ∧ ts.length ≤ cap ∧ cap ≤ maxLen ∧ (ts ≠ [] → ∃ q, a = some ⟨q, 0, none⟩ ∧ q < g) ∧ HoldsT w a ts
 small : ∀ t ∈ ts, t.bytes.size ≤ 140737488351232
 few : ts.length ≤ 100000
theorem Rd.lt {w : World} {g : Nat} {V : Value} {ts : List Tk} {E : Nat} {σ : Sg} (h : Rd w g V ts E σ) : g < w.heap.size := (Array.getElem?_eq_some_iff.1 h.blk).1
theorem HoldsT.kp {S : Nat → Prop} {w w1 : World} {a : Option Addr} {rs : List Tk} (h : HoldsT w a rs) (hb : Kp S w w1) (hs : ∀ b, a = some b → ¬ S b.block) : HoldsT w1 a rs := by
 intro b hab j u hu
 have := h b hab j u hu
 have hbl : (b.add j).block = b.block := by unfold Addr.add; split <;> rfl
 exact hb.cell this (by rw [hbl]; exact hs b hab)
theorem Rd.below {w w' : World} {g : Nat} {V : Value} {ts : List Tk} {E : Nat} {σ : Sg} (h : Rd w g V ts E σ) (hb : Below w.heap.size w w') : Rd w' g V ts E σ := by
 obtain ⟨a, cap, h1, h2, h3, h4, h5⟩ := h.row
 exact ⟨h.glob.below hb, h.pos, (hb.block g h.lt).trans h.blk, h.left, h.rest, ⟨a, cap, h1, h2, h3, h4, h5.below hb⟩, h.small, h.few⟩
theorem Rd.turn {w : World} {g : Nat} {V : Value} {ts : List Tk} {E : Nat} {σ σ' : Sg} (h : Rd w g V ts E σ) (i : Nat) (u : Value)
  (hb : (#[V, .int .i64 ((ts.length - leftS σ : Nat) : Int), .int .i64 (E : Int), .bool (badS σ)] : Array Value).setIfInBounds i u = #[V, .int .i64 ((ts.length - leftS σ' : Nat) : Int), .int .i64 (E : Int), .bool (badS σ')])
  (hl : leftS σ' ≤ ts.length) (hr : ∀ r, σ' = .inr r → r = (ts.map Tk.bytes).drop (ts.length - r.length)) : Rd (w.setCell ⟨g, i, none⟩ u) g V ts E σ' := by
 obtain ⟨a, cap, h1, h2, h3, h4, h5⟩ := h.row
 have hk : Kp (fun k => k = g) w (w.setCell ⟨g, i, none⟩ u) := Kp.setCell (S := fun k => k = g) (Kp.refl _ w) (p := ⟨g, i, none⟩) (fun _ => rfl) u
 refine ⟨h.glob.kp hk (by have := h.pos; omega), h.pos, ?_, hl, hr, ⟨a, cap, h1, h2, h3, h4, ?_⟩, h.small, h.few⟩
 ·rw [block_set h.blk i u, hb]
 ·by_cases hne : ts = []
  ·subst hne; exact HoldsT.nil
  refine h5.kp hk ?_
  intro b hb' e
  obtain ⟨q, hq, hqg⟩ := h4 hne
  rw [hb'] at hq
  cases hq
  simp only at e
  omega
theorem Rd.open {w : World} {g : Nat} {V : Value} {ts : List Tk} {E : Nat} {σ : Sg} (h : Rd w g V ts E σ) : ∃ n, n + leftS σ = ts.length ∧ ts.length ≤ 9223372036854775807 ∧ w.cell? ⟨g, 0, none⟩ = some V ∧ w.cell? ⟨g, 1, none⟩ = some (.int .i64 (n : Int)) ∧ w.cell? ⟨g, 2, none⟩ = some (.int .i64 (E : Int)) ∧ w.cell? ⟨g, 3, none⟩ = some (.bool (badS σ)) ∧
  w.frozen? ⟨g, 1, none⟩ = false ∧ w.frozen? ⟨g, 3, none⟩ = false := by
 obtain ⟨a, cap, h1, h2, h3, h4, h5⟩ := h.row
 have hl := h.left
 refine ⟨ts.length - leftS σ, by omega, by unfold maxLen at h3; omega, ?_, ?_, ?_, ?_, block_froz h.blk 1, block_froz h.blk 3⟩
 ·rw [block_cell h.blk]; rfl
 ·rw [block_cell h.blk]; rfl
 ·rw [block_cell h.blk]; rfl
 ·rw [block_cell h.blk]; rfl
theorem Rd.next {w : World} {g : Nat} {V : Value} {ts : List Tk} {E : Nat} {t : ByteArray} {r : List ByteArray} (h : Rd w g V ts E (.inr (t :: r))) {n : Nat} (hn : n + leftS (.inr (t :: r)) = ts.length) {u : Value} (hu : u = .int .i64 ((n + 1 : Nat) : Int)) : Rd (w.setCell ⟨g, 1, none⟩ u) g V ts E (.inr r) := by
 have hl := h.left
 have hr := h.rest _ rfl
 simp only [leftS, List.length_cons] at hl hn hr
 refine h.turn 1 u ?_ (by simp only [leftS]; omega) ?_
 ·rw [hu]
  have e : ts.length - leftS (.inr r) = n + 1 := by simp only [leftS]; omega
  rw [e]; rfl
 ·intro r' hr'
  simp only [Sum.inr.injEq] at hr'
  subst hr'
  have e1 : ts.length - r.length = (ts.length - (r.length + 1)) + 1 := by omega
  rw [e1, ← List.drop_drop, ← hr]
  rfl
theorem Rd.wrong {w : World} {g : Nat} {V : Value} {ts : List Tk} {E : Nat} {σ : Sg} (h : Rd w g V ts E σ) : Rd (w.setCell ⟨g, 3, none⟩ (.bool true)) g V ts E (.inl (leftS σ)) :=
 h.turn 3 _ rfl h.left (fun r hr => by cases hr)
theorem Rd.at {w : World} {g : Nat} {V : Value} {ts : List Tk} {E : Nat} {t : ByteArray} {r : List ByteArray} (h : Rd w g V ts E (.inr (t :: r))) {n : Nat} (hn : n + leftS (.inr (t :: r)) = ts.length) :
  ∃ q cap pos, V = .slice (some ⟨q, 0, none⟩) ts.length cap ∧ ts.length ≤ cap ∧ cap ≤ 9223372036854775807 ∧ w.cell? ⟨q, n * 3 + 1, none⟩ = some (.string t) ∧ w.cell? ⟨q, n * 3 + 2, none⟩ = some (.int .i64 ((pos : Nat) : Int)) ∧ t.size ≤ 140737488351232 ∧ (ts[n]?).map Tk.pos = some pos := by
 obtain ⟨a, cap, h1, h2, h3, h4, h5⟩ := h.row
 have hr := h.rest _ rfl
 simp only [leftS, List.length_cons] at hn hr
 have hlt : n < ts.length := by omega
 have e1 : ts.length - (r.length + 1) = n := by omega
 rw [e1] at hr
 have hne : ts ≠ [] := by intro e; subst e; simp at hlt
 obtain ⟨q, rfl, _⟩ := h4 hne
 have hg : ts[n]? = some ts[n] := List.getElem?_eq_getElem hlt
 have ht : t = (ts[n]).bytes := by
  have := congrArg (fun l => l[0]?) hr
  simp only [List.getElem?_cons_zero, List.getElem?_drop, List.getElem?_map, Nat.add_zero, hg, Option.map_some, Option.some.injEq] at this
  exact this
 obtain ⟨_, b2, b3⟩ := h5.at0 hg
 refine ⟨q, cap, (ts[n]).pos, h1, h2, by unfold maxLen at h3; omega, by rw [ht]; exact b2, b3, ?_, by rw [hg]; rfl⟩
 rw [ht]
 exact h.small _ (List.getElem_mem hlt)
theorem Rd.form {w : World} {g : Nat} {V : Value} {ts : List Tk} {E : Nat} {σ : Sg} (h : Rd w g V ts E σ) : ∃ a cap, V = .slice a ts.length cap := by
 obtain ⟨a, cap, h1, _⟩ := h.row
 exact ⟨a, cap, h1⟩
set_option maxHeartbeats 1000000 in
theorem more_any {w : World} {g : Nat} {V : Value} {ts : List Tk} {E : Nat} {σ : Sg} (h : Rd w g V ts E σ) :
  Calls Tryz.prog 57 #[.pointer (some ⟨g, 0, none⟩)] w fun e w' => e = .returned (.bool (!badS σ && decide (0 < leftS σ))) ∧ Below w.heap.size w w' := by
 obtain ⟨n, hn, hm, c0, c1, c2, c3, f1, f3⟩ := h.open
 obtain ⟨a, cap, rfl⟩ := h.form
 clear h
 generalize leftS σ = L at *
 generalize ts.length = N at *
 cases hb : badS σ with
 | true =>
  rw [hb] at c3
  go_enter Tryz.func57, Tryz.ntmps57
  go_wp2_with fail
  go_quiet (fail)
  go_wp2_with fail
  go_ret
  exact ⟨rfl, below_drewN _ (Below.refl _ _)⟩
 | false =>
  rw [hb] at c3
  go_enter Tryz.func57, Tryz.ntmps57
  go_wp2_with fail
  go_quiet (fail)
  go_wp2_with fail
  go_ret
  refine ⟨?_, below_drewN _ (Below.refl _ _)⟩
  have : decide (n < N) = decide (0 < L) := by rw [decide_eq_decide]; omega
  simp [this]
set_option maxHeartbeats 1000000 in
theorem ahead_any {w : World} {g : Nat} {V : Value} {ts : List Tk} {E : Nat} {σ : Sg} (h : Rd w g V ts E σ) :
    Calls Tryz.prog 102 #[.pointer (some ⟨g, 0, none⟩)] w fun e w' => e = .returned (.string (headS σ)) ∧ Below w.heap.size w w' := by
  cases σ with
  | inl n =>
    go_enter Tryz.func102, Tryz.ntmps102
    go_wp2_with fail
    refine (more_any h).mono ?_
    rintro e w1 ⟨rfl, hb1⟩
    have h1 := h.below hb1
    clear h
    clear h1
    simp only [badS, Bool.not_true, Bool.false_and, headS, noT]
    go_wp2_with fail
    go_ret
    exact ⟨rfl, hb1⟩
  | inr rr =>
   cases rr with
   | nil =>
    go_enter Tryz.func102, Tryz.ntmps102
    go_wp2_with fail
    refine (more_any h).mono ?_
    rintro e w1 ⟨rfl, hb1⟩
    have h1 := h.below hb1
    clear h
    clear h1
    simp only [badS, leftS, List.length_nil, Nat.lt_irrefl, decide_false, Bool.and_false, headS, noT]
    go_wp2_with fail
    go_ret
    exact ⟨rfl, hb1⟩
   | cons t r =>
    go_enter Tryz.func102, Tryz.ntmps102
    go_wp2_with fail
    refine (more_any h).mono ?_
    rintro e w1 ⟨rfl, hb1⟩
    have h1 := h.below hb1
    clear h
    obtain ⟨n, hn, hm, c0, c1, c2, c3, f1, f3⟩ := h1.open
    obtain ⟨q, cap, pos, rfl, hcap, hcap2, b2, b3, _, _⟩ := h1.at hn
    clear h1
    simp only [leftS, List.length_cons] at hn
    have hlt : n < ts.length := by omega
    simp only [badS, leftS, List.length_cons, Nat.zero_lt_succ, decide_true, Bool.not_false, Bool.and_true, headS]
    generalize ts.length = N at *
    clear hn
    go_wp2_with fail
    go_quiet (fail)
    go_wp2_with fail
    go_ret
    exact ⟨rfl, below_drewN _ hb1⟩
def HoldsS (w : World) (b : Nat) (ws : List ByteArray) : Prop := ∀ j u, ws[j]? = some u → w.cell? ⟨b, j, none⟩ = some (.string u)
theorem HoldsS.below {w w1 : World} {b : Nat} {ws : List ByteArray} (h : HoldsS w b ws) (hb : Below w.heap.size w w1) : HoldsS w1 b ws := by
 intro j u hu
 have := h j u hu
 rw [hb.cell (World.block_lt_of_cell? _ _ this)]
 exact this
def anyS (ws : List ByteArray) (x : ByteArray) : Bool := ws.any (fun k => k.data.toList == x.data.toList)
theorem str_beq (x y : ByteArray) : (x.toList == y.toList) = (x.data.toList == y.data.toList) := by rw [ByteArray.toList_eq, ByteArray.toList_eq]
set_option maxHeartbeats 1000000 in
theorem sindex_any (ws : List ByteArray) (x : ByteArray) (b cap : Nat) (w : World) (hw : HoldsS w b ws) (hl : ws.length ≤ 1000) :
  Calls Tryz.prog 159 #[.slice (some ⟨b, 0, none⟩) ws.length cap, .string x] w fun e w' => ∃ k : Int, e = .returned (.int .i64 k) ∧ decide (0 ≤ k) = anyS ws x ∧ -1 ≤ k ∧ k ≤ 1000 ∧ w' = w := by
 have HW : Hid (HoldsS w b ws) := hw
 clear hw
 obtain ⟨N, hN⟩ : ∃ N, ws.length = N := ⟨_, rfl⟩
 rw [hN] at hl ⊢
 have HN : Hid (ws.length = N) := hN
 clear hN
 go_enter Tryz.func159, Tryz.ntmps159
 go_wp2_with fail
 go_loop [5, 8] (fun _ i => ∃ k : Nat, k ≤ N ∧ i = .int .i64 (k : Int) ∧ Hid (∀ j u, j < k → ws[j]? = some u → (u.data.toList == x.data.toList) = false)) (fun _ i => N - (intOf i).toNat)
 case atStart => exact ⟨0, Nat.zero_le _, rfl, fun j u hj => absurd hj (Nat.not_lt_zero _)⟩
 case round =>
  obtain ⟨k, hk, rfl, HB⟩ := hrel
  by_cases hlt : k < N
  ·obtain ⟨u, hu⟩ : ∃ u, ws[k]? = some u := ⟨_, List.getElem?_eq_getElem (by rw [HN.out]; exact hlt)⟩
   have hc := HW.out k u hu
   have HU : Hid (ws[k]? = some u) := hu
   clear hu
   cases hq : (x.data.toList == u.data.toList) with
   | true =>
    have hq' : (x.toList == u.toList) = true := by rw [str_beq]; exact hq
    go_wp2_with fail
    go_ret
    refine ⟨_, rfl, ?_, by omega, by omega, rfl⟩
    have : anyS ws x = true := by
     unfold anyS
     rw [List.any_eq_true]
     refine ⟨u, List.mem_of_getElem? HU.out, ?_⟩
     rw [beq_iff_eq] at hq ⊢
     exact hq.symm
    rw [this]
    simp
   | false =>
    have hq' : (x.toList == u.toList) = false := by rw [str_beq]; exact hq
    go_wp2_with fail
    go_round
    case rel =>
     refine ⟨k + 1, by omega, rfl, ?_⟩
     intro j u' hj hu'
     by_cases e : j = k
     ·subst e
      have := HU.out
      rw [hu'] at this
      cases this
      rw [beq_eq_false_iff_ne] at hq ⊢
      exact fun e => hq e.symm
     ·exact HB.out j u' (by omega) hu'
    case measure => simp [intOf]; omega
  ·go_wp2_with fail
   go_ret
   refine ⟨_, rfl, ?_, by omega, by omega, rfl⟩
   have : anyS ws x = false := by
    unfold anyS
    rw [List.any_eq_false]
    intro u hu
    obtain ⟨j, hj⟩ := List.getElem?_of_mem hu
    have hjl : j < k := by
     have := (List.getElem?_eq_some_iff.1 hj).1
     rw [HN.out] at this
     omega
    rw [HB.out j u hjl hj]
    simp
   rw [this]
   simp
theorem contains_any (ws : List ByteArray) (x : ByteArray) (b cap : Nat) (w : World) (hw : HoldsS w b ws) (hl : ws.length ≤ 1000) :
  Calls Tryz.prog 130 #[.slice (some ⟨b, 0, none⟩) ws.length cap, .string x] w fun e w' => e = .returned (.bool (anyS ws x)) ∧ w' = w := by
 have HI : Hid (∀ W : World, HoldsS W b ws → Calls Tryz.prog 159 #[.slice (some ⟨b, 0, none⟩) ws.length cap, .string x] W fun e w' => ∃ k : Int, e = .returned (.int .i64 k) ∧ decide (0 ≤ k) = anyS ws x ∧ -1 ≤ k ∧ k ≤ 1000 ∧ w' = W) := fun W hW => sindex_any ws x b cap W hW hl
 have HW : Hid (HoldsS w b ws) := hw
 clear hw hl
 generalize ws.length = N at *
 go_enter Tryz.func130, Tryz.ntmps130
 go_wp2_with fail
 refine (HI.out _ HW.out).mono ?_
 rintro e w1 ⟨k, rfl, hk, hk1, hk2, rfl⟩
 go_wp2_with fail
 go_ret
 exact ⟨rfl, rfl⟩
theorem take_cases (ws : List ByteArray) (σ : Sg) (hne : anyS ws noT = false) :
  (∃ t r, σ = .inr (t :: r) ∧ pOn σ (pTake ws) = .inr (t, r) ∧ pOn σ (pOne ws) = .inr (t, r) ∧ anyS ws t = true ∧ (t.data.toList == []) = false) ∨
  (stX (pOn σ (pTake ws)) = σ ∧ res noT (pOn σ (pTake ws)) = noT ∧ stX (pOn σ (pOne ws)) = .inl (leftS σ) ∧ res noT (pOn σ (pOne ws)) = noT ∧ anyS ws (headS σ) = false) := by
 match σ with
 | .inl n => exact .inr ⟨rfl, rfl, rfl, rfl, hne⟩
 | .inr [] => exact .inr ⟨rfl, rfl, rfl, rfl, hne⟩
 | .inr (t :: r) =>
  simp only [pOn, pTake, pOne, headS, leftS, List.length_cons]
  by_cases h : anyS ws t = true
  ·left
   refine ⟨t, r, rfl, if_pos h, if_pos h, h, ?_⟩
   rw [beq_eq_false_iff_ne]
   intro e
   have : t = noT := by rw [← ba_eq, e]; rfl
   rw [this, hne] at h
   cases h
  ·right
   have h' : anyS ws t = false := by simpa using h
   unfold anyS at h
   rw [if_neg h, if_neg h]
   exact ⟨rfl, rfl, rfl, rfl, h'⟩
theorem name_cases (σ : Sg) : (∃ t r, σ = .inr (t :: r) ∧ pOn σ pName = .inr (t, r) ∧ nameK t.data.toList = true) ∨
  (stX (pOn σ pName) = .inl (leftS σ) ∧ res noT (pOn σ pName) = noT ∧ nameK (headS σ).data.toList = false) := by
 match σ with
 | .inl n => exact .inr ⟨rfl, rfl, by simp only [headS]; decide +kernel⟩
 | .inr [] => exact .inr ⟨rfl, rfl, by decide +kernel⟩
 | .inr (t :: r) =>
  simp only [pOn, pName, headS, leftS, List.length_cons]
  by_cases h : nameK t.data.toList = true
  ·exact .inl ⟨t, r, rfl, if_pos h, h⟩
  ·rw [if_neg h]; exact .inr ⟨rfl, rfl, by simpa using h⟩
theorem num_cases (σ : Sg) : (∃ t r, σ = .inr (t :: r) ∧ pOn σ pNum = .inr ((numA t.data.toList).1, r) ∧ (numA t.data.toList).2 = true) ∨
  (stX (pOn σ pNum) = .inl (leftS σ) ∧ res 0 (pOn σ pNum) = 0 ∧ (numA (headS σ).data.toList).2 = false) := by
 match σ with
 | .inl n => exact .inr ⟨rfl, rfl, by simp only [headS]; decide +kernel⟩
 | .inr [] => exact .inr ⟨rfl, rfl, by decide +kernel⟩
 | .inr (t :: r) =>
  simp only [pOn, pNum, headS, leftS, List.length_cons]
  by_cases h : (numA t.data.toList).2 = true
  ·exact .inl ⟨t, r, rfl, if_pos h, h⟩
  ·rw [if_neg h]; exact .inr ⟨rfl, rfl, by simpa using h⟩
theorem Rd.head {w : World} {g : Nat} {V : Value} {ts : List Tk} {E : Nat} {σ : Sg} (h : Rd w g V ts E σ) : (headS σ).size ≤ 140737488351232 := by
 match σ, h with
 | .inl n, h => simp only [headS, noT]; decide
 | .inr [], h => simp only [headS, noT]; decide
 | .inr (t :: r), h =>
  obtain ⟨n, hn, _⟩ := h.open
  obtain ⟨_, _, _, _, _, _, _, _, hs, _⟩ := h.at hn
  exact hs
set_option maxHeartbeats 1000000 in
theorem take_any {w : World} {g : Nat} {V : Value} {ts : List Tk} {E : Nat} {σ : Sg} (ws : List ByteArray) (b : Nat) (h : Rd w g V ts E σ) (hw : HoldsS w b ws) (hl : ws.length ≤ 1000) (hne : anyS ws noT = false) :
  Calls Tryz.prog 101 #[.pointer (some ⟨g, 0, none⟩), .slice (some ⟨b, 0, none⟩) ws.length ws.length] w fun e w' => e = .returned (.string (res noT (pOn σ (pTake ws)))) ∧ Rd w' g V ts E (stX (pOn σ (pTake ws))) ∧ Kp (fun k => k = g) w w' := by
 have HC : Hid (∀ (W : World) (x : ByteArray), HoldsS W b ws → Calls Tryz.prog 130 #[.slice (some ⟨b, 0, none⟩) ws.length ws.length, .string x] W fun e w' => e = .returned (.bool (anyS ws x)) ∧ w' = W) := fun W x hW => contains_any ws x b _ W hW hl
 have HW : Hid (HoldsS w b ws) := hw
 clear hw
 rcases take_cases ws σ hne with ⟨t, r, rfl, e1, e2, e3, e4⟩ | ⟨e1, e2, e3, e4, e5⟩
 ·rw [e1]
  clear e1 e2 hne
  generalize ws.length = N at *
  go_enter Tryz.func101, Tryz.ntmps101
  go_wp2_with fail
  refine (ahead_any h).mono ?_
  rintro e w1 ⟨rfl, hb1⟩
  have h1 := h.below hb1
  go_wp2_with fail
  refine (HC.out _ _ (HW.out.below hb1)).mono ?_
  rintro e w2 ⟨rfl, rfl⟩
  have e3' : anyS ws (headS (.inr (t :: r))) = true := e3
  rw [e3']
  obtain ⟨n, hn, hm, c0, c1, c2, c3, f1, f3⟩ := h1.open
  have hn' := hn
  simp only [leftS, List.length_cons] at hn'
  have hn2 : n < 9223372036854775807 := by omega
  have HR : Hid (∀ u : Value, u = .int .i64 ((n + 1 : Nat) : Int) → Rd (w2.setCell ⟨g, 1, none⟩ u) g V ts E (.inr r)) := fun u hu => h1.next hn hu
  have HK : Hid (Kp (fun k => k = g) w w2) := Kp.ofBelow hb1
  clear h1 h hn hn' hm c0 c2 c3 f3 e3 e3' hb1 HC HW
  simp only [headS]
  go_wp2_with fail
  go_ret
  exact ⟨rfl, HR.out _ rfl, HK.out.setCell (fun _ => rfl) _⟩
 ·rw [e1, e2]
  clear e1 e2 e3 e4 hne
  generalize ws.length = N at *
  go_enter Tryz.func101, Tryz.ntmps101
  go_wp2_with fail
  refine (ahead_any h).mono ?_
  rintro e w1 ⟨rfl, hb1⟩
  have h1 := h.below hb1
  go_wp2_with fail
  refine (HC.out _ _ (HW.out.below hb1)).mono ?_
  rintro e w2 ⟨rfl, rfl⟩
  rw [e5]
  have HK : Hid (Kp (fun k => k = g) w w2) := Kp.ofBelow hb1
  go_wp2_with fail
  go_ret
  exact ⟨rfl, h1, HK.out⟩
set_option maxHeartbeats 1000000 in
theorem one_any {w : World} {g : Nat} {V : Value} {ts : List Tk} {E : Nat} {σ : Sg} (ws : List ByteArray) (b : Nat) (h : Rd w g V ts E σ) (hw : HoldsS w b ws) (hl : ws.length ≤ 1000) (hne : anyS ws noT = false) :
  Calls Tryz.prog 55 #[.pointer (some ⟨g, 0, none⟩), .slice (some ⟨b, 0, none⟩) ws.length ws.length] w fun e w' => e = .returned (.string (res noT (pOn σ (pOne ws)))) ∧ Rd w' g V ts E (stX (pOn σ (pOne ws))) ∧ Kp (fun k => k = g) w w' := by
 have HT : Hid (Calls Tryz.prog 101 #[.pointer (some ⟨g, 0, none⟩), .slice (some ⟨b, 0, none⟩) ws.length ws.length] w fun e w' => e = .returned (.string (res noT (pOn σ (pTake ws)))) ∧ Rd w' g V ts E (stX (pOn σ (pTake ws))) ∧ Kp (fun k => k = g) w w') := take_any ws b h hw hl hne
 rcases take_cases ws σ hne with ⟨t, r, rfl, e1, e2, e3, e4⟩ | ⟨e1, e2, e3, e4, e5⟩
 ·rw [e1] at HT
  rw [e2]
  clear e1 e2 e3 hne hw hl h
  have e4' : (t.toList == []) = false := by rw [ByteArray.toList_eq]; exact e4
  generalize ws.length = N at *
  go_enter Tryz.func55, Tryz.ntmps55
  go_wp2_with fail
  refine HT.out.mono ?_
  rintro e w1 ⟨rfl, h1, hk1⟩
  simp only [res, stX] at h1 ⊢
  go_wp2_with fail
  go_ret
  exact ⟨rfl, h1, hk1⟩
 ·rw [e1, e2] at HT
  rw [e3, e4]
  clear e1 e2 e3 e4 e5 hne hw hl h
  generalize ws.length = N at *
  go_enter Tryz.func55, Tryz.ntmps55
  go_wp2_with fail
  refine HT.out.mono ?_
  rintro e w1 ⟨rfl, h1, hk1⟩
  obtain ⟨n, hn, hm, c0, c1, c2, c3, f1, f3⟩ := h1.open
  have HR : Hid (Rd (w1.setCell ⟨g, 3, none⟩ (.bool true)) g V ts E (.inl (leftS σ))) := h1.wrong
  clear h1 hn hm c0 c1 c2 f1
  simp only [noT]
  go_wp2_with fail
  go_ret
  exact ⟨rfl, HR.out, hk1.setCell (fun _ => rfl) _⟩
set_option maxHeartbeats 1000000 in
theorem rname_any {w : World} {g : Nat} {V : Value} {ts : List Tk} {E : Nat} {σ : Sg} (h : Rd w g V ts E σ) :
  Calls Tryz.prog 56 #[.pointer (some ⟨g, 0, none⟩)] w fun e w' => e = .returned (.string (res noT (pOn σ pName))) ∧ Rd w' g V ts E (stX (pOn σ pName)) ∧ Kp (fun k => k = g) w w' := by
 have hs := h.head
 rcases name_cases σ with ⟨t, r, rfl, e1, e2⟩ | ⟨e1, e2, e3⟩
 ·rw [e1]
  clear e1
  have e2' : nameB t = true := by rw [nameB_eq]; exact e2
  clear e2
  go_enter Tryz.func56, Tryz.ntmps56
  go_wp2_with fail
  refine (ahead_any h).mono ?_
  rintro e w1 ⟨rfl, hb1⟩
  have h1 := h.below hb1
  go_wp2_with fail
  refine (name_any _ _ hs).mono ?_
  rintro e w2 ⟨rfl, hb2⟩
  have h2 := h1.below hb2
  simp only [headS]
  rw [e2']
  obtain ⟨n, hn, hm, c0, c1, c2, c3, f1, f3⟩ := h2.open
  have hn' := hn
  simp only [leftS, List.length_cons] at hn'
  have hn2 : n < 9223372036854775807 := by omega
  have HR : Hid (∀ u : Value, u = .int .i64 ((n + 1 : Nat) : Int) → Rd (w2.setCell ⟨g, 1, none⟩ u) g V ts E (.inr r)) := fun u hu => h2.next hn hu
  have HK : Hid (Kp (fun k => k = g) w w2) := (Kp.ofBelow hb1).below hb2
  clear h2 h1 h hn hn' hm c0 c2 c3 f3 e2' hb1 hb2
  go_wp2_with fail
  go_ret
  exact ⟨rfl, HR.out _ rfl, HK.out.setCell (fun _ => rfl) _⟩
 ·rw [e1, e2]
  clear e1 e2
  have e3' : nameB (headS σ) = false := by rw [nameB_eq]; exact e3
  clear e3
  go_enter Tryz.func56, Tryz.ntmps56
  go_wp2_with fail
  refine (ahead_any h).mono ?_
  rintro e w1 ⟨rfl, hb1⟩
  have h1 := h.below hb1
  go_wp2_with fail
  refine (name_any _ _ hs).mono ?_
  rintro e w2 ⟨rfl, hb2⟩
  have h2 := h1.below hb2
  rw [e3']
  obtain ⟨n, hn, hm, c0, c1, c2, c3, f1, f3⟩ := h2.open
  have HR : Hid (Rd (w2.setCell ⟨g, 3, none⟩ (.bool true)) g V ts E (.inl (leftS σ))) := h2.wrong
  have HK : Hid (Kp (fun k => k = g) w w2) := (Kp.ofBelow hb1).below hb2
  clear h2 h1 h hn hm c0 c1 c2 f1 e3' hb1 hb2
  go_wp2_with fail
  go_ret
  exact ⟨rfl, HR.out, HK.out.setCell (fun _ => rfl) _⟩
set_option maxHeartbeats 1000000 in
theorem rnumber_any {w : World} {g : Nat} {V : Value} {ts : List Tk} {E : Nat} {σ : Sg} (h : Rd w g V ts E σ) :
  Calls Tryz.prog 131 #[.pointer (some ⟨g, 0, none⟩)] w fun e w' => e = .returned (.int .i64 ((res 0 (pOn σ pNum) : Nat) : Int)) ∧ Rd w' g V ts E (stX (pOn σ pNum)) ∧ Kp (fun k => k = g) w w' := by
 have hs := h.head
 rcases num_cases σ with ⟨t, r, rfl, e1, e2⟩ | ⟨e1, e2, e3⟩
 ·have er : res 0 (.inr ((numA t.data.toList).1, r) : PR Nat) = (numA t.data.toList).1 := rfl
  rw [e1, er]
  simp only [stX]
  obtain ⟨v, hv⟩ : ∃ v, (numA t.data.toList).1 = v := ⟨_, rfl⟩
  rw [hv]
  clear e1 er
  go_enter Tryz.func131, Tryz.ntmps131
  go_wp2_with fail
  refine (ahead_any h).mono ?_
  rintro e w1 ⟨rfl, hb1⟩
  have h1 := h.below hb1
  go_wp2_with fail
  refine (number_any _ _ hs).mono ?_
  rintro e w2 ⟨rfl, hb2⟩
  have h2 := h1.below hb2
  simp only [headS]
  rw [e2, hv]
  clear hv
  obtain ⟨n, hn, hm, c0, c1, c2, c3, f1, f3⟩ := h2.open
  have hn' := hn
  simp only [leftS, List.length_cons] at hn'
  have hn2 : n < 9223372036854775807 := by omega
  have HR : Hid (∀ u : Value, u = .int .i64 ((n + 1 : Nat) : Int) → Rd (w2.setCell ⟨g, 1, none⟩ u) g V ts E (.inr r)) := fun u hu => h2.next hn hu
  have HK : Hid (Kp (fun k => k = g) w w2) := (Kp.ofBelow hb1).below hb2
  clear h2 h1 h hn hn' hm c0 c2 c3 f3 e2 hb1 hb2
  go_wp2_with fail
  go_ret
  exact ⟨rfl, HR.out _ rfl, HK.out.setCell (fun _ => rfl) _⟩
 ·rw [e1, e2]
  clear e1 e2
  go_enter Tryz.func131, Tryz.ntmps131
  go_wp2_with fail
  refine (ahead_any h).mono ?_
  rintro e w1 ⟨rfl, hb1⟩
  have h1 := h.below hb1
  go_wp2_with fail
  refine (number_any _ _ hs).mono ?_
  rintro e w2 ⟨rfl, hb2⟩
  have h2 := h1.below hb2
  rw [e3]
  obtain ⟨n, hn, hm, c0, c1, c2, c3, f1, f3⟩ := h2.open
  have HR : Hid (Rd (w2.setCell ⟨g, 3, none⟩ (.bool true)) g V ts E (.inl (leftS σ))) := h2.wrong
  have HK : Hid (Kp (fun k => k = g) w w2) := (Kp.ofBelow hb1).below hb2
  clear h2 h1 h hn hm c0 c1 c2 f1 e3 hb1 hb2
  generalize (numA (headS σ).data.toList).1 = v at *
  go_wp2_with fail
  go_ret
  exact ⟨rfl, HR.out, HK.out.setCell (fun _ => rfl) _⟩
end Go.Proofs.YtcjfeandnmochaaGreatDoor
