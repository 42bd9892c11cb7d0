/- Plain facts on texts: blanks, comments, words, numbers and signs; the pieces of a text, one behind the other. -/
import Derived.Laws.Externs
import Derived.OwnWalk
import Derived.Laws.Strings2
import Derived.Test.YtkfhlgajeejgeaaGreatDoorPkK
import Derived.Test.YtkfhlgajeejgeaaGreatDoorPkA
namespace Go.Proofs.YtkfhlgajeejgeaaGreatDoor
open Go.RowKit
set_option linter.unusedVariables false
set_option linter.unusedSimpArgs false
set_option maxRecDepth 20000

def blankB (a : UInt8) : Bool := decide (a.toNat = 32 ∨ a.toNat = 9 ∨ a.toNat = 13 ∨ a.toNat = 10)
def headN (l : List UInt8) : Nat := match l with
  | [] => 0
  | a :: _ => a.toNat
/-- How many bytes are blanks and comments; whether one is in a comment already. -/
def skipG : Bool → List UInt8 → Nat
  | _, [] => 0
  | true, a :: r => if a.toNat = 10 then 1 + skipG false r else 1 + skipG true r
  | false, a :: r => if blankB a = true then 1 + skipG false r else if a.toNat = 47 ∧ headN r = 47 then 1 + skipG true r else 0
def skipN (l : List UInt8) : Nat := skipG false l
/-- How many bytes there are to the byte 10. -/
def lineN : List UInt8 → Nat
  | [] => 0
  | a :: r => if a.toNat = 10 then 0 else 1 + lineN r

theorem skipG_line (l : List UInt8) : skipG true l = lineN l + skipG false (l.drop (lineN l)) := by
  induction l with
  | nil => rfl
  | cons a r ih =>
    by_cases h : a.toNat = 10
    · simp [skipG, lineN, h, blankB]
    · simp only [skipG, lineN, if_neg h, ih]
      rw [Nat.add_comm 1 (lineN r), List.drop_succ_cons]; omega
theorem lineN_le (l : List UInt8) : lineN l ≤ l.length := by
  induction l with
  | nil => simp [lineN]
  | cons a r ih => simp only [lineN, List.length_cons]; split <;> omega
theorem skipG_le (l : List UInt8) : ∀ b, skipG b l ≤ l.length := by
  induction l with
  | nil => intro b; cases b <;> simp [skipG]
  | cons a r ih =>
    intro b
    have h1 := ih true
    have h2 := ih false
    cases b <;> simp only [skipG, List.length_cons]
    · split
      · omega
      · split <;> omega
    · split <;> omega
theorem skipN_le (l : List UInt8) : skipN l ≤ l.length := skipG_le l false
theorem skipN_nil : skipN [] = 0 := rfl
theorem skipN_blank {l : List UInt8} {a : UInt8} {r : List UInt8} (h : l = a :: r) (hb : blankB a = true) : skipN l = 1 + skipN (l.drop 1) := by
  subst h; simp [skipN, skipG, hb]
theorem skipN_slash {l : List UInt8} (h : [47, 47].isPrefixOf l = true) : skipN l = lineN l + skipN (l.drop (lineN l)) ∧ 2 ≤ lineN l := by
  match l with
  | [] => simp [List.isPrefixOf] at h
  | [a] => simp [List.isPrefixOf] at h
  | a :: b :: r =>
    simp [List.isPrefixOf] at h
    obtain ⟨rfl, rfl⟩ := h
    constructor
    · have h2 := skipG_line (47 :: r)
      simp only [skipN, skipG, lineN, headN, blankB] at h2 ⊢
      simp at h2 ⊢
      rw [h2]
      have e : (47 :: 47 :: r : List UInt8).drop (1 + (1 + lineN r)) = (47 :: r : List UInt8).drop (1 + lineN r) := by rw [Nat.add_comm 1 (1 + lineN r), List.drop_succ_cons]
      rw [e]; omega
    · simp [lineN]; omega
theorem skipN_none {l : List UInt8} {a : UInt8} {r : List UInt8} (h : l = a :: r) (hb : blankB a = false) (hs : [47, 47].isPrefixOf l = false) : skipN l = 0 := by
  subst h
  simp only [skipN, skipG, hb]
  rw [if_neg (by simp), if_neg]
  rintro ⟨h1, h2⟩
  match r, h2 with
  | [], h2 => simp [headN] at h2
  | b :: r', h2 =>
    simp only [headN] at h2
    have ea : a = 47 := UInt8.toNat_inj.1 (by rw [h1]; rfl)
    have eb : b = 47 := UInt8.toNat_inj.1 (by rw [h2]; rfl)
    subst ea eb
    simp [List.isPrefixOf] at hs
theorem skipG_again (l : List UInt8) : ∀ b, skipG false (l.drop (skipG b l)) = 0 := by
  induction l with
  | nil => intro b; cases b <;> rfl
  | cons a r ih =>
    intro b
    cases b
    · simp only [skipG]
      split
      · rw [Nat.add_comm, List.drop_succ_cons]; exact ih false
      · rename_i h1
        split
        · rw [Nat.add_comm, List.drop_succ_cons]; exact ih true
        · rename_i h2
          rw [List.drop_zero]; simp only [skipG]; rw [if_neg h1, if_neg h2]
    · simp only [skipG]
      split
      · rw [Nat.add_comm, List.drop_succ_cons]; exact ih false
      · rw [Nat.add_comm, List.drop_succ_cons]; exact ih true
theorem skipN_again (l : List UInt8) : skipN (l.drop (skipN l)) = 0 := skipG_again l false
theorem skipG_take (l : List UInt8) : ∀ b, skipG b (l.take (skipG b l)) = skipG b l := by
  induction l with
  | nil => intro b; cases b <;> rfl
  | cons a r ih =>
    intro b
    cases b
    · simp only [skipG]
      split
      · rename_i h1
        rw [Nat.add_comm, List.take_succ_cons]
        simp only [skipG]; rw [if_pos h1, ih false]; omega
      · rename_i h1
        split
        · rename_i h2
          rw [Nat.add_comm, List.take_succ_cons]
          simp only [skipG]
          rw [if_neg h1, if_pos, ih true]
          · omega
          · refine ⟨h2.1, ?_⟩
            match r, h2.2 with
            | [], h => simp [headN] at h
            | b' :: r', h =>
              have : 1 ≤ skipG true (b' :: r') := by simp only [skipG]; split <;> omega
              obtain ⟨k, hk⟩ := Nat.exists_eq_add_of_le' this
              rw [hk, List.take_succ_cons]; exact h
        · rfl
    · simp only [skipG]
      split
      · rename_i h1
        rw [Nat.add_comm, List.take_succ_cons]
        simp only [skipG]; rw [if_pos h1, ih false]; omega
      · rename_i h1
        rw [Nat.add_comm, List.take_succ_cons]
        simp only [skipG]; rw [if_neg h1, ih true]; omega
theorem skipN_take (l : List UInt8) : skipN (l.take (skipN l)) = skipN l := skipG_take l false
theorem headN_app {a : List UInt8} (h : a ≠ []) (b : List UInt8) : headN (a ++ b) = headN a := by
  match a, h with
  | x :: r, _ => rfl
/-- A gap ahead of something that is none: what follows may be another thing. -/
theorem skipG_swap (g : List UInt8) : ∀ (b : Bool) (r : List UInt8), r ≠ [] → skipG b (g ++ r) = g.length → ∀ t, skipG b (g ++ t) = g.length + skipG false t := by
  induction g with
  | nil =>
    intro b r hr h t
    match r, hr with
    | a :: r', _ =>
      cases b
      · simp
      · simp only [List.nil_append, skipG, List.length_nil] at h
        split at h <;> omega
  | cons a g ih =>
    intro b r hr h t
    simp only [List.cons_append, List.length_cons] at h ⊢
    cases b
    · simp only [skipG] at h ⊢
      by_cases h1 : blankB a = true
      · rw [if_pos h1] at h ⊢
        rw [ih false r hr (by omega) t]; omega
      · rw [if_neg h1] at h ⊢
        by_cases h2 : a.toNat = 47 ∧ headN (g ++ r) = 47
        · rw [if_pos h2] at h
          match g, ih with
          | [], ih =>
            match r, hr with
            | a' :: r', _ =>
              simp only [List.nil_append, skipG, List.length_nil] at h
              split at h <;> omega
          | x :: g', ih =>
            rw [if_pos ⟨h2.1, by rw [headN_app (by simp)]; have := h2.2; rwa [headN_app (by simp)] at this⟩, ih true r hr (by omega) t]; omega
        · rw [if_neg h2] at h; omega
    · simp only [skipG] at h ⊢
      by_cases h1 : a.toNat = 10
      · rw [if_pos h1] at h ⊢
        rw [ih false r hr (by omega) t]; omega
      · rw [if_neg h1] at h ⊢
        rw [ih true r hr (by omega) t]; omega
/-- A gap to the end, and the byte 10 behind it. -/
theorem skipG_join (g : List UInt8) : ∀ (b : Bool), skipG b g = g.length → ∀ t, skipG b (g ++ 10 :: t) = g.length + 1 + skipG false t := by
  induction g with
  | nil =>
    intro b h t
    cases b <;> simp [skipG, blankB]
  | cons a g ih =>
    intro b h t
    simp only [List.cons_append, List.length_cons] at h ⊢
    cases b
    · simp only [skipG] at h ⊢
      by_cases h1 : blankB a = true
      · rw [if_pos h1] at h ⊢
        rw [ih false (by omega) t]; omega
      · rw [if_neg h1] at h ⊢
        by_cases h2 : a.toNat = 47 ∧ headN g = 47
        · rw [if_pos h2] at h
          rw [if_pos ⟨h2.1, by rw [headN_app (by intro e; subst e; simp [headN] at h2)]; exact h2.2⟩, ih true (by omega) t]; omega
        · rw [if_neg h2] at h; omega
    · simp only [skipG] at h ⊢
      by_cases h1 : a.toNat = 10
      · rw [if_pos h1] at h ⊢
        rw [ih false (by omega) t]; omega
      · rw [if_neg h1] at h ⊢
        rw [ih true (by omega) t]; omega

/-- What a rune begins: a word 1, a number 2, a sign 3, nothing 0. -/
def signB (c : Nat) : Bool := decide (c = 123 ∨ c = 125 ∨ c = 40 ∨ c = 41 ∨ c = 59 ∨ c = 61 ∨ c = 44)
def kindN (c : Nat) : Nat := if letB c = true then 1 else if digB c = true then 2 else if signB c = true then 3 else 0
def goesB (k c : Nat) : Bool := (k == 1 && (letB c || digB c)) || (k == 2 && digB c)
def goN : Nat → Nat → List UInt8 → Nat
  | 0, _, _ => 0
  | f + 1, k, l => match nxL l with
    | none => 0
    | some (c, m) => if goesB k c = true then m + goN f k (l.drop m) else 0
def runN (k : Nat) (l : List UInt8) : Nat := goN l.length k l
def contB (k : Nat) (l : List UInt8) : Bool := match nxL l with
  | none => false
  | some (c, _) => goesB k c
theorem nx_len {l : List UInt8} {c m : Nat} (h : nxL l = some (c, m)) : 1 ≤ m ∧ m ≤ l.length := by
  obtain ⟨_, _, _, h4, h5, _⟩ := nxL_some _ _ _ h
  exact ⟨h4, h5⟩
theorem goN_fuel (k f : Nat) : ∀ (g : Nat) (l : List UInt8), l.length ≤ f → l.length ≤ g → goN f k l = goN g k l := by
  induction f with
  | zero =>
    intro g l h1 _
    have : l = [] := List.length_eq_zero_iff.1 (by omega)
    subst this
    cases g <;> simp [goN, nxL]
  | succ f ih =>
    intro g l h1 h2
    cases g with
    | zero =>
      have : l = [] := List.length_eq_zero_iff.1 (by omega)
      subst this
      simp [goN, nxL]
    | succ g =>
      simp only [goN]
      cases e : nxL l with
      | none => rfl
      | some x =>
        obtain ⟨c, m⟩ := x
        obtain ⟨h4, h5⟩ := nx_len e
        simp only
        rw [ih g (l.drop m) (by rw [List.length_drop]; omega) (by rw [List.length_drop]; omega)]
theorem runN_stop0 {k : Nat} {l : List UInt8} (h : contB k l = false) : runN k l = 0 := by
  unfold runN
  cases e : l.length with
  | zero => rfl
  | succ f =>
    simp only [goN]
    unfold contB at h
    cases e2 : nxL l with
    | none => rfl
    | some x =>
      obtain ⟨c, m⟩ := x
      rw [e2] at h
      simp only at h ⊢
      rw [h]; rfl
theorem runN_yes {k c m : Nat} {l : List UInt8} (h : nxL l = some (c, m)) (hg : goesB k c = true) : runN k l = m + runN k (l.drop m) := by
  obtain ⟨h4, h5⟩ := nx_len h
  unfold runN
  cases e : l.length with
  | zero => omega
  | succ f =>
    simp only [goN, h]
    rw [if_pos hg, goN_fuel k f (l.drop m).length (l.drop m) (by rw [List.length_drop]; omega) (Nat.le_refl _)]
theorem contB_yes {k c m : Nat} {l : List UInt8} (h : nxL l = some (c, m)) : contB k l = goesB k c := by unfold contB; rw [h]
theorem contB_none {k : Nat} {l : List UInt8} (h : nxL l = none) : contB k l = false := by unfold contB; rw [h]
theorem nx_take {l l' : List UInt8} {c m : Nat} (h : nxL l = some (c, m)) (ht : l'.take m = l.take m) : nxL l' = some (c, m) := by
  obtain ⟨h1, h2, h3, _⟩ := nxL_some l c m h
  have e : l' = (Utf8.encode c).data.toList ++ l'.drop m := by rw [h2, ← ht, List.take_append_drop]
  rw [e, nxL_encode c h1, h3]
theorem runN_le (k : Nat) (f : Nat) : ∀ l : List UInt8, l.length ≤ f → runN k l ≤ l.length ∧ contB k (l.drop (runN k l)) = false := by
  induction f with
  | zero =>
    intro l hl
    have : l = [] := List.length_eq_zero_iff.1 (by omega)
    subst this
    exact ⟨Nat.le_refl _, rfl⟩
  | succ f ih =>
    intro l hl
    cases e : contB k l with
    | false => rw [runN_stop0 e]; exact ⟨Nat.zero_le _, e⟩
    | true =>
      cases e2 : nxL l with
      | none => rw [contB_none e2] at e; cases e
      | some x =>
        obtain ⟨c, m⟩ := x
        obtain ⟨h4, h5⟩ := nx_len e2
        rw [contB_yes e2] at e
        rw [runN_yes e2 e]
        have := ih (l.drop m) (by rw [List.length_drop]; omega)
        rw [List.length_drop, List.drop_drop] at this
        exact ⟨by omega, this.2⟩
theorem runN_len (k : Nat) (l : List UInt8) : runN k l ≤ l.length := (runN_le k l.length l (Nat.le_refl _)).1
theorem runN_end (k : Nat) (l : List UInt8) : contB k (l.drop (runN k l)) = false := (runN_le k l.length l (Nat.le_refl _)).2
theorem runN_swap (k : Nat) (f : Nat) : ∀ l : List UInt8, l.length ≤ f → ∀ l' : List UInt8, l'.take (runN k l) = l.take (runN k l) → contB k (l'.drop (runN k l)) = false → runN k l' = runN k l := by
  induction f with
  | zero =>
    intro l hl l' h1 h2
    have : l = [] := List.length_eq_zero_iff.1 (by omega)
    subst this
    have e : runN k [] = 0 := rfl
    rw [e] at h2 ⊢
    exact runN_stop0 h2
  | succ f ih =>
    intro l hl l' h1 h2
    cases e : contB k l with
    | false =>
      rw [runN_stop0 e] at h2 ⊢
      exact runN_stop0 h2
    | true =>
      cases e2 : nxL l with
      | none => rw [contB_none e2] at e; cases e
      | some x =>
        obtain ⟨c, m⟩ := x
        obtain ⟨h4, h5⟩ := nx_len e2
        rw [contB_yes e2] at e
        rw [runN_yes e2 e] at h1 h2 ⊢
        have ht : l'.take m = l.take m := by
          have := congrArg (List.take m) h1
          simpa [List.take_take] using this
        rw [runN_yes (nx_take e2 ht) e]
        rw [ih (l.drop m) (by rw [List.length_drop]; omega) (l'.drop m) ?_ (by rw [List.drop_drop]; exact h2)]
        have := congrArg (List.drop m) h1
        simpa [List.drop_take] using this

/-- A piece: what it is, its text, where it begins. -/
structure Tk where
  kind : Nat
  text : List UInt8
  pos : Nat

abbrev LexA := Sum (Nat × Nat) (List Tk)
def consA (t : Tk) : LexA → LexA
  | .inl e => .inl e
  | .inr ts => .inr (t :: ts)
def catA (acc : List Tk) : LexA → LexA
  | .inl e => .inl e
  | .inr ts => .inr (acc ++ ts)
/-- How long the piece is that begins with a rune of kind k and m bytes. -/
def pieceN (k m : Nat) (l : List UInt8) : Nat := m + runN k (l.drop m)
def lexF : Nat → List UInt8 → Nat → LexA
  | 0, _, _ => .inr []
  | f + 1, l, p => if (l.drop (skipN l)).isEmpty = true then .inr [] else match nxL (l.drop (skipN l)) with
    | none => .inl (p + skipN l, 9)
    | some (c, m) => if kindN c = 0 then .inl (p + skipN l, 5) else
      consA ⟨kindN c, (l.drop (skipN l)).take (pieceN (kindN c) m (l.drop (skipN l))), p + skipN l⟩
        (lexF f ((l.drop (skipN l)).drop (pieceN (kindN c) m (l.drop (skipN l)))) (p + skipN l + pieceN (kindN c) m (l.drop (skipN l))))
def lexO (l : List UInt8) (p : Nat) : LexA := lexF l.length l p

theorem piece_bd {k c m : Nat} {l : List UInt8} (h : nxL l = some (c, m)) : 1 ≤ pieceN k m l ∧ pieceN k m l ≤ l.length ∧ m ≤ pieceN k m l := by
  obtain ⟨h4, h5⟩ := nx_len h
  have := runN_len k (l.drop m)
  rw [List.length_drop] at this
  unfold pieceN
  omega
theorem lexF_fuel (f : Nat) : ∀ (g : Nat) (l : List UInt8) (p : Nat), l.length ≤ f → l.length ≤ g → lexF f l p = lexF g l p := by
  induction f with
  | zero =>
    intro g l p h1 _
    have : l = [] := List.length_eq_zero_iff.1 (by omega)
    subst this
    cases g <;> simp [lexF, skipN_nil]
  | succ f ih =>
    intro g l p h1 h2
    cases g with
    | zero =>
      have : l = [] := List.length_eq_zero_iff.1 (by omega)
      subst this
      simp [lexF, skipN_nil]
    | succ g =>
      simp only [lexF]
      split
      · rfl
      · cases e : nxL (l.drop (skipN l)) with
        | none => rfl
        | some x =>
          obtain ⟨c, m⟩ := x
          obtain ⟨h4, h5, _⟩ := piece_bd (k := kindN c) e
          simp only
          split
          · rfl
          · rw [ih g _ _ (by rw [List.length_drop]; rw [List.length_drop] at h5 ⊢; omega) (by rw [List.length_drop]; rw [List.length_drop] at h5 ⊢; omega)]
theorem lexO_fin {l : List UInt8} (h : skipN l = l.length) (p : Nat) : lexO l p = .inr [] := by
  unfold lexO
  cases e : l.length with
  | zero => rfl
  | succ f => simp only [lexF]; rw [if_pos (by rw [h]; simp)]
theorem drop_ne {l : List UInt8} {n : Nat} (h : n < l.length) : (l.drop n).isEmpty = false := by
  cases e : l.drop n with
  | nil => have := congrArg List.length e; rw [List.length_drop] at this; simp at this; omega
  | cons a r => rfl
theorem lexO_text {l : List UInt8} (h : skipN l < l.length) (hn : nxL (l.drop (skipN l)) = none) (p : Nat) : lexO l p = .inl (p + skipN l, 9) := by
  unfold lexO
  cases e : l.length with
  | zero => omega
  | succ f => simp only [lexF]; rw [if_neg (by rw [drop_ne h]; simp), hn]
theorem lexO_syn {l : List UInt8} {c m : Nat} (hn : nxL (l.drop (skipN l)) = some (c, m)) (hk : kindN c = 0) (p : Nat) : lexO l p = .inl (p + skipN l, 5) := by
  have h := (nx_len hn)
  rw [List.length_drop] at h
  unfold lexO
  cases e : l.length with
  | zero => omega
  | succ f => simp only [lexF]; rw [if_neg (by rw [drop_ne (by omega)]; simp), hn]; simp only; rw [if_pos hk]
theorem lexO_tok {l : List UInt8} {c m : Nat} (hn : nxL (l.drop (skipN l)) = some (c, m)) (hk : kindN c ≠ 0) (p : Nat) :
    lexO l p = consA ⟨kindN c, (l.drop (skipN l)).take (pieceN (kindN c) m (l.drop (skipN l))), p + skipN l⟩
      (lexO (l.drop (skipN l + pieceN (kindN c) m (l.drop (skipN l)))) (p + skipN l + pieceN (kindN c) m (l.drop (skipN l)))) := by
  have h := (nx_len hn)
  have h2 := piece_bd (k := kindN c) hn
  rw [List.length_drop] at h h2
  unfold lexO
  cases e : l.length with
  | zero => omega
  | succ f =>
    simp only [lexF]
    rw [if_neg (by rw [drop_ne (by omega)]; simp), hn]
    simp only
    rw [if_neg hk, List.drop_drop, lexF_fuel f _ _ _ (by rw [List.length_drop]; omega) (Nat.le_refl _)]

/-- The step to the next piece. -/
def StepAt (l : List UInt8) (pos : Nat) (t : Tk) (e : Nat) : Prop := ∃ c m, t.pos = pos + skipN (l.drop pos) ∧ nxL (l.drop t.pos) = some (c, m) ∧ kindN c ≠ 0 ∧ t.kind = kindN c ∧
  t.text = (l.drop t.pos).take (pieceN t.kind m (l.drop t.pos)) ∧ e = t.pos + pieceN t.kind m (l.drop t.pos)
/-- Pieces, the last one first, up to a place. -/
def ReadR (l : List UInt8) : List Tk → Nat → Prop
  | [], pos => pos = 0
  | t :: r, e => ∃ pos, ReadR l r pos ∧ StepAt l pos t e
/-- These pieces are read up to that place. -/
def Read (l : List UInt8) (pos : Nat) (acc : List Tk) : Prop := ReadR l acc.reverse pos
theorem Read.start {l : List UInt8} : Read l 0 [] := rfl
theorem Read.step {l : List UInt8} {pos e : Nat} {acc : List Tk} {t : Tk} (h : Read l pos acc) (hs : StepAt l pos t e) : Read l e (acc ++ [t]) := by
  unfold Read
  rw [List.reverse_append]
  exact ⟨pos, h, hs⟩
theorem Read.inv {l : List UInt8} {pos : Nat} {acc : List Tk} (h : Read l pos acc) : (pos = 0 ∧ acc = []) ∨ ∃ p a t, Read l p a ∧ StepAt l p t pos ∧ acc = a ++ [t] := by
  unfold Read at h
  cases e : acc.reverse with
  | nil =>
    rw [e] at h
    exact .inl ⟨h, by simpa using e⟩
  | cons t r =>
    rw [e] at h
    obtain ⟨p, h1, h2⟩ := h
    refine .inr ⟨p, r.reverse, t, ?_, h2, ?_⟩
    · unfold Read; rwa [List.reverse_reverse]
    · rw [← List.reverse_reverse acc, e, List.reverse_cons]
theorem Read.ind {l : List UInt8} (M : Nat → List Tk → Prop) (h0 : M 0 []) (hs : ∀ pos acc t e, Read l pos acc → StepAt l pos t e → M pos acc → M e (acc ++ [t])) : ∀ (n : Nat) (acc : List Tk), acc.length = n → ∀ pos, Read l pos acc → M pos acc := by
  intro n
  induction n with
  | zero =>
    intro acc hn pos h
    rcases h.inv with ⟨rfl, rfl⟩ | ⟨p, a, t, _, _, rfl⟩
    · exact h0
    · simp at hn
  | succ n ih =>
    intro acc hn pos h
    rcases h.inv with ⟨rfl, rfl⟩ | ⟨p, a, t, h1, h2, rfl⟩
    · simp at hn
    · exact hs p a t pos h1 h2 (ih a (by simpa using hn) p h1)

theorem StepAt.bd {l : List UInt8} {pos e : Nat} {t : Tk} (h : StepAt l pos t e) : pos ≤ t.pos ∧ t.pos < e ∧ e ≤ l.length ∧ t.text.length = e - t.pos ∧ t.text = (l.drop t.pos).take (e - t.pos) ∧ t.kind ≤ 3 := by
  obtain ⟨c, m, h1, h2, h3, h4, h5, h6⟩ := h
  have hp := piece_bd (k := t.kind) h2
  rw [List.length_drop] at hp
  have e1 : e - t.pos = pieceN t.kind m (l.drop t.pos) := by omega
  refine ⟨by omega, by omega, by omega, ?_, by rw [e1]; exact h5, ?_⟩
  · rw [h5, List.length_take, List.length_drop]; omega
  · rw [h4]; unfold kindN; split
    · omega
    · split
      · omega
      · split <;> omega
theorem Read.bd {l : List UInt8} {pos : Nat} {acc : List Tk} (h : Read l pos acc) : pos ≤ l.length ∧ acc.length ≤ pos := by
  refine Read.ind (fun pos acc => pos ≤ l.length ∧ acc.length ≤ pos) ⟨Nat.zero_le _, Nat.le_refl _⟩ ?_ _ acc rfl pos h
  intro pos acc t e h hs ih
  have := hs.bd
  simp only [List.length_append, List.length_singleton]
  omega
theorem catA_nil (x : LexA) : catA [] x = x := by cases x <;> rfl
theorem catA_cons (acc : List Tk) (t : Tk) (x : LexA) : catA acc (consA t x) = catA (acc ++ [t]) x := by cases x <;> simp [catA, consA]
theorem step_lex {l : List UInt8} {pos e : Nat} {t : Tk} (h : StepAt l pos t e) : lexO (l.drop pos) pos = consA t (lexO (l.drop e) e) := by
  obtain ⟨c, m, h1, h2, h3, h4, h5, h6⟩ := h
  have e1 : (l.drop pos).drop (skipN (l.drop pos)) = l.drop t.pos := by rw [List.drop_drop, h1]
  rw [lexO_tok (l := l.drop pos) (by rw [e1]; exact h2) h3 pos, e1, ← h1, ← h4]
  have e2 : (l.drop pos).drop (skipN (l.drop pos) + pieceN t.kind m (l.drop t.pos)) = l.drop e := by
    rw [List.drop_drop, h6, h1, Nat.add_assoc]
  rw [e2, ← h6, ← h5]
theorem Read.rest {l : List UInt8} {pos : Nat} {acc : List Tk} (h : Read l pos acc) : lexO l 0 = catA acc (lexO (l.drop pos) pos) := by
  refine Read.ind (fun pos acc => lexO l 0 = catA acc (lexO (l.drop pos) pos)) ?_ ?_ _ acc rfl pos h
  · rw [catA_nil]; rfl
  · intro pos acc t e h hs ih
    rw [ih, step_lex hs, catA_cons]
theorem drop_to (l : List UInt8) (pos : Nat) : (l.drop pos).drop (skipN (l.drop pos)) = l.drop (pos + skipN (l.drop pos)) := by rw [List.drop_drop]
theorem Read.fin {l : List UInt8} {pos : Nat} {acc : List Tk} (h : Read l pos acc) (hf : pos + skipN (l.drop pos) = l.length) : lexO l 0 = .inr acc := by
  rw [h.rest, lexO_fin (by rw [List.length_drop]; omega)]
  simp [catA]
theorem Read.text {l : List UInt8} {pos : Nat} {acc : List Tk} (h : Read l pos acc) (hf : pos + skipN (l.drop pos) < l.length) (hn : nxL (l.drop (pos + skipN (l.drop pos))) = none) : lexO l 0 = .inl (pos + skipN (l.drop pos), 9) := by
  rw [h.rest, lexO_text (by rw [List.length_drop]; omega) (by rw [drop_to]; exact hn)]
  rfl
theorem Read.syn {l : List UInt8} {pos : Nat} {acc : List Tk} {c m : Nat} (h : Read l pos acc) (hn : nxL (l.drop (pos + skipN (l.drop pos))) = some (c, m)) (hk : kindN c = 0) : lexO l 0 = .inl (pos + skipN (l.drop pos), 5) := by
  rw [h.rest, lexO_syn (by rw [drop_to]; exact hn) hk]
  rfl
theorem Read.tok {l : List UInt8} {pos : Nat} {acc : List Tk} {c m : Nat} (h : Read l pos acc) (hn : nxL (l.drop (pos + skipN (l.drop pos))) = some (c, m)) (hk : kindN c ≠ 0) :
    Read l (pos + skipN (l.drop pos) + pieceN (kindN c) m (l.drop (pos + skipN (l.drop pos)))) (acc ++ [⟨kindN c, (l.drop (pos + skipN (l.drop pos))).take (pieceN (kindN c) m (l.drop (pos + skipN (l.drop pos)))), pos + skipN (l.drop pos)⟩]) :=
  h.step ⟨c, m, rfl, hn, hk, rfl, rfl, rfl⟩

/-- Where the reading ends. -/
def Ends (l : List UInt8) (pos : Nat) (x : LexA) (acc : List Tk) : Prop :=
  (pos + skipN (l.drop pos) = l.length ∧ x = .inr acc) ∨
  (pos + skipN (l.drop pos) < l.length ∧ nxL (l.drop (pos + skipN (l.drop pos))) = none ∧ x = .inl (pos + skipN (l.drop pos), 9)) ∨
  ∃ c m, nxL (l.drop (pos + skipN (l.drop pos))) = some (c, m) ∧ kindN c = 0 ∧ x = .inl (pos + skipN (l.drop pos), 5)
theorem read_ends (l : List UInt8) (f : Nat) : ∀ pos acc, l.length - pos ≤ f → Read l pos acc → ∃ pos' acc', Read l pos' acc' ∧ Ends l pos' (lexO l 0) acc' := by
  induction f with
  | zero =>
    intro pos acc hf h
    have hb := h.bd
    have : l.drop pos = [] := List.drop_eq_nil_of_le (by omega)
    have hz : pos + skipN (l.drop pos) = l.length := by rw [this, skipN_nil]; omega
    exact ⟨pos, acc, h, by rw [h.fin hz]; exact .inl ⟨hz, rfl⟩⟩
  | succ f ih =>
    intro pos acc hf h
    have hb := h.bd
    have hsk := skipN_le (l.drop pos)
    rw [List.length_drop] at hsk
    by_cases hz : pos + skipN (l.drop pos) = l.length
    · exact ⟨pos, acc, h, by rw [h.fin hz]; exact .inl ⟨hz, rfl⟩⟩
    · cases e : nxL (l.drop (pos + skipN (l.drop pos))) with
      | none => exact ⟨pos, acc, h, by rw [h.text (by omega) e]; exact .inr (.inl ⟨by omega, e, rfl⟩)⟩
      | some x =>
        obtain ⟨c, m⟩ := x
        by_cases hk : kindN c = 0
        · exact ⟨pos, acc, h, by rw [h.syn e hk]; exact .inr (.inr ⟨c, m, e, hk, rfl⟩)⟩
        · have hp := piece_bd (k := kindN c) e
          exact ih _ _ (by omega) (h.tok e hk)
theorem lex_ends (l : List UInt8) : ∃ pos acc, Read l pos acc ∧ Ends l pos (lexO l 0) acc := read_ends l l.length 0 [] (by omega) Read.start
theorem lex_ok {l : List UInt8} {ts : List Tk} (h : lexO l 0 = .inr ts) : ∃ pos, Read l pos ts ∧ pos + skipN (l.drop pos) = l.length := by
  obtain ⟨pos, acc, h1, h2⟩ := lex_ends l
  rw [h] at h2
  rcases h2 with ⟨h3, h4⟩ | ⟨_, _, h4⟩ | ⟨_, _, _, _, h4⟩
  · simp only [Sum.inr.injEq] at h4
    subst h4
    exact ⟨pos, h1, h3⟩
  · cases h4
  · cases h4
theorem Read.at {l : List UInt8} {pos : Nat} {acc : List Tk} (h : Read l pos acc) : ∀ (i : Nat) (t : Tk), acc[i]? = some t → ∃ p e, Read l p (acc.take i) ∧ StepAt l p t e ∧ Read l e (acc.take (i + 1)) ∧ e ≤ pos := by
  refine Read.ind (fun pos acc => ∀ (i : Nat) (t : Tk), acc[i]? = some t → ∃ p e, Read l p (acc.take i) ∧ StepAt l p t e ∧ Read l e (acc.take (i + 1)) ∧ e ≤ pos) ?_ ?_ _ acc rfl pos h
  · intro i t ht; simp at ht
  · intro pos acc t0 e0 h hs ih i t ht
    by_cases hi : i < acc.length
    · rw [List.getElem?_append_left hi] at ht
      obtain ⟨p, e, g1, g2, g3, g4⟩ := ih i t ht
      refine ⟨p, e, ?_, g2, ?_, ?_⟩
      · rwa [List.take_append_of_le_length (by omega)]
      · rwa [List.take_append_of_le_length (by omega)]
      · have := hs.bd; omega
    · have hl := (List.getElem?_eq_some_iff.1 ht).1
      rw [List.length_append, List.length_singleton] at hl
      obtain rfl : i = acc.length := by omega
      obtain rfl : t0 = t := by simpa using ht
      refine ⟨pos, e0, by simpa using h, hs, ?_, Nat.le_refl _⟩
      have := Read.step h hs
      rwa [List.take_of_length_le (by simp)]

/-- What the last piece is does not go on. -/
def Rests (acc : List Tk) (l : List UInt8) : Prop := ∀ t, acc.getLast? = some t → contB t.kind l = false
theorem contB_skip {k : Nat} {l : List UInt8} (h : 0 < skipN l) : contB k l = false := by
  match l with
  | [] => rfl
  | a :: r =>
    have ha : blankB a = true ∨ a.toNat = 47 := by
      simp only [skipN, skipG] at h
      split at h
      · left; assumption
      · split at h
        · rename_i h2; right; exact h2.1
        · omega
    have hn : a.toNat < 128 ∧ letB a.toNat = false ∧ digB a.toNat = false := by
      unfold blankB at ha
      simp only [decide_eq_true_eq] at ha
      unfold letB digB
      simp only [decide_eq_false_iff_not]
      omega
    rw [contB_yes (c := a.toNat) (m := 1) (by simp [nxL, hn.1])]
    simp [goesB, hn.2.1, hn.2.2]
theorem piece_stop {l : List UInt8} {pos e : Nat} {t : Tk} (h : StepAt l pos t e) : contB t.kind (l.drop e) = false := by
  obtain ⟨c, m, h1, h2, h3, h4, h5, h6⟩ := h
  have := runN_end t.kind ((l.drop t.pos).drop m)
  rw [List.drop_drop, List.drop_drop] at this
  rw [h6]
  unfold pieceN
  exact this
theorem take_drop_eq {l l' : List UInt8} {n : Nat} (h : l'.take n = l.take n) {a b : Nat} (hb : a + b ≤ n) : (l'.drop a).take b = (l.drop a).take b := by
  have := congrArg (fun x => (x.drop a).take b) h
  simp only [List.drop_take, List.take_take] at this
  rwa [Nat.min_eq_left (by omega)] at this
theorem skipN_pre {x y : List UInt8} {n : Nat} (h : skipN x = n) (hn : n < x.length) (ht : y.take n = x.take n) : skipN y = n + skipN (y.drop n) := by
  have e1 : x.take n ++ x.drop n = x := List.take_append_drop _ _
  have e2 : y = x.take n ++ y.drop n := by rw [← ht, List.take_append_drop]
  have hl : (x.take n).length = n := by rw [List.length_take]; omega
  have := skipG_swap (x.take n) false (x.drop n) (by intro e; have := congrArg List.length e; rw [List.length_drop] at this; simp at this; omega) (by rw [e1, hl]; exact h) (y.drop n)
  rw [← e2, hl] at this
  exact this
/-- The same bytes up to a place: the same pieces up to it. -/
theorem Read.move {l l' : List UInt8} {pos : Nat} {acc : List Tk} (h : Read l pos acc) : l'.take pos = l.take pos → Rests acc (l'.drop pos) → Read l' pos acc := by
  refine Read.ind (fun pos acc => l'.take pos = l.take pos → Rests acc (l'.drop pos) → Read l' pos acc) ?_ ?_ _ acc rfl pos h
  · intro _ _; exact Read.start
  · intro pos acc t e h hs ih ht hr
    have hb := hs.bd
    have hs' := hs
    obtain ⟨c, m, h1, h2, h3, h4, h5, h6⟩ := hs
    have hp := piece_bd (k := t.kind) h2
    have hp0 := h.bd
    -- the rune at the head
    have hn' : nxL (l'.drop t.pos) = some (c, m) := nx_take h2 (take_drop_eq ht (by omega))
    -- the gap
    have hg : skipN (l'.drop pos) = skipN (l.drop pos) + skipN ((l'.drop pos).drop (skipN (l.drop pos))) :=
      skipN_pre rfl (by rw [List.length_drop]; omega) (take_drop_eq ht (by omega))
    have hz : skipN ((l'.drop pos).drop (skipN (l.drop pos))) = 0 := by
      rw [List.drop_drop, ← h1]
      by_cases h0 : 0 < skipN (l'.drop t.pos)
      · exfalso
        have := contB_skip (k := kindN c) h0
        rw [contB_yes hn'] at this
        -- a rune of a kind; the kind is a sign
        have h00 : skipN (l.drop t.pos) = 0 := by
          have := skipN_again (l.drop pos)
          rwa [List.drop_drop, ← h1] at this
        match e1 : l'.drop t.pos, e2 : l.drop t.pos with
        | [], _ => rw [e1] at h0; simp [skipN_nil] at h0
        | a :: r, [] => rw [e2] at h2; simp [nxL] at h2
        | a :: r, b :: r' =>
          have hab : a = b := by
            have := take_drop_eq ht (a := t.pos) (b := 1) (by omega)
            rw [e1, e2] at this
            simpa using this
          subst hab
          rw [e1] at h0 hn'
          rw [e2] at h00
          have ha : a.toNat < 128 := by
            simp only [skipN, skipG] at h0
            split at h0
            · rename_i h9; unfold blankB at h9; simp only [decide_eq_true_eq] at h9; omega
            · split at h0 <;> omega
          have hc : c = a.toNat := by simp [nxL, ha] at hn'; omega
          simp only [skipN, skipG] at h0 h00
          split at h0
          · rename_i h9; rw [if_pos h9] at h00; omega
          · split at h0
            · rename_i h9
              apply h3
              rw [hc, h9.1]; decide
            · omega
      · omega
    have hsk : skipN (l'.drop pos) = skipN (l.drop pos) := by omega
    have hread : Read l' pos acc := by
      refine ih ?_ ?_
      · have := congrArg (List.take pos) ht
        rw [List.take_take, List.take_take, Nat.min_eq_left (by omega)] at this
        exact this
      · by_cases h0 : 0 < skipN (l'.drop pos)
        · intro t' _; exact contB_skip h0
        · intro t' ht'
          have hpz : pos = t.pos := by omega
          rw [hpz, contB_yes hn']
          -- what stood there in l
          rcases h.inv with ⟨_, rfl⟩ | ⟨p0, acc0, t0, hh, hs0, rfl⟩
          · simp at ht'
          · rw [List.getLast?_append] at ht'
            simp at ht'
            subst ht'
            have := piece_stop hs0
            rw [hpz, contB_yes h2] at this
            exact this
    refine Read.step hread ⟨c, m, by rw [hsk]; exact h1, hn', h3, h4, ?_, ?_⟩
    · have hq : pieceN t.kind m (l'.drop t.pos) = pieceN t.kind m (l.drop t.pos) := by
        unfold pieceN
        rw [runN_swap t.kind _ ((l.drop t.pos).drop m) (Nat.le_refl _)]
        · unfold pieceN at h6 hp
          rw [List.drop_drop, List.drop_drop]
          refine take_drop_eq ht ?_
          rw [List.drop_drop] at h6
          omega
        · unfold pieceN at h6
          rw [List.drop_drop, List.drop_drop, show t.pos + (m + runN t.kind ((l.drop t.pos).drop m)) = e from by omega]
          exact hr t (by simp)
      rw [hq, h5]
      exact (take_drop_eq ht (by omega)).symm
    · have hq : pieceN t.kind m (l'.drop t.pos) = pieceN t.kind m (l.drop t.pos) := by
        unfold pieceN
        rw [runN_swap t.kind _ ((l.drop t.pos).drop m) (Nat.le_refl _)]
        · unfold pieceN at h6 hp
          rw [List.drop_drop, List.drop_drop]
          refine take_drop_eq ht ?_
          rw [List.drop_drop] at h6
          omega
        · unfold pieceN at h6
          rw [List.drop_drop, List.drop_drop, show t.pos + (m + runN t.kind ((l.drop t.pos).drop m)) = e from by omega]
          exact hr t (by simp)
      rw [hq]; exact h6
end Go.Proofs.YtkfhlgajeejgeaaGreatDoor

/- What the leaf functions of package lex answer, at every input: blank, begins, goesOn, lineEnd, skip, behind. -/
namespace Go.Proofs.YtkfhlgajeejgeaaGreatDoor
open Go.ChangeShapes Go.WideShapes Go.ChangeAt Go.RowKit
set_option linter.unusedVariables false
set_option linter.unusedSimpArgs false
set_option maxRecDepth 20000

set_option maxHeartbeats 1000000 in
theorem blank_any (a : UInt8) (w : World) :
    Calls Tryz.prog 139 #[.int .u8 (a.toNat : Int)] w fun e w' => e = .returned (.bool (blankB a)) ∧ w' = w := by
  have HB : Hid (blankB a = decide ((a.toNat : Int) = 32 ∨ (a.toNat : Int) = 9 ∨ (a.toNat : Int) = 13 ∨ (a.toNat : Int) = 10)) := by
    show _ = _; unfold blankB; congr 1; apply propext; omega
  generalize (a.toNat : Int) = x at *
  go_enter Tryz.func139, Tryz.ntmps139
  go_wp2
  all_goals
    go_ret
    refine ⟨ret_bool ?_, rfl⟩
    rw [HB.out, Bool.eq_iff_iff]
    simp
    try omega

set_option maxHeartbeats 1000000 in
theorem begins_any (c : Nat) (w : World) :
    Calls Tryz.prog 92 #[.int .i32 (c : Int)] w fun e w' => e = .returned (.int .i64 (kindN c)) ∧ w' = w := by
  cases h1 : letB c with
  | true =>
    have HK : Hid ((1 : Int) = kindN c) := by show _ = _; unfold kindN; rw [if_pos h1]; rfl
    have H1 : Hid (letB c = true) := h1
    clear h1
    go_enter Tryz.func92, Tryz.ntmps92
    go_wp2_with fail
    refine (letter_any _ _).mono ?_
    rintro e w1 ⟨rfl, rfl⟩
    rw [H1.out]
    go_wp2_with fail
    go_ret
    exact ⟨ret_int HK.out, rfl⟩
  | false =>
    cases h2 : digB c with
    | true =>
      have HK : Hid ((2 : Int) = kindN c) := by show _ = _; unfold kindN; rw [if_neg (by simp [h1]), if_pos h2]; rfl
      have H1 : Hid (letB c = false) := h1
      have H2 : Hid (digB c = true) := h2
      clear h1 h2
      go_enter Tryz.func92, Tryz.ntmps92
      go_wp2_with fail
      refine (letter_any _ _).mono ?_
      rintro e w1 ⟨rfl, rfl⟩
      rw [H1.out]
      go_wp2_with fail
      refine (digit_any _ _).mono ?_
      rintro e w2 ⟨rfl, rfl⟩
      rw [H2.out]
      go_wp2_with fail
      go_ret
      exact ⟨ret_int HK.out, rfl⟩
    | false =>
      have HK : Hid ((kindN c : Int) = if (c : Int) = 123 ∨ (c : Int) = 125 ∨ (c : Int) = 40 ∨ (c : Int) = 41 ∨ (c : Int) = 59 ∨ (c : Int) = 61 ∨ (c : Int) = 44 then 3 else 0) := by
        show _ = _; unfold kindN; rw [if_neg (by simp [h1]), if_neg (by simp [h2])]
        unfold signB
        simp only [decide_eq_true_eq]
        split
        · rw [if_pos (by omega)]; rfl
        · rw [if_neg (by omega)]; rfl
      have H1 : Hid (letB c = false) := h1
      have H2 : Hid (digB c = false) := h2
      clear h1 h2
      go_enter Tryz.func92, Tryz.ntmps92
      go_wp2_with fail
      refine (letter_any _ _).mono ?_
      rintro e w1 ⟨rfl, rfl⟩
      rw [H1.out]
      go_wp2_with fail
      refine (digit_any _ _).mono ?_
      rintro e w2 ⟨rfl, rfl⟩
      rw [H2.out]
      generalize (c : Int) = x at *
      clear H1 H2
      go_wp2_with fail
      all_goals
        go_ret
        refine ⟨ret_int ?_, rfl⟩
        rw [HK.out]
        simp_all

set_option maxHeartbeats 1000000 in
theorem goesOn_any (k c : Nat) (w : World) :
    Calls Tryz.prog 144 #[.int .i64 (k : Int), .int .i32 (c : Int)] w fun e w' => e = .returned (.bool (goesB k c)) ∧ w' = w := by
  by_cases h1 : k = 1
  · subst h1
    cases h2 : letB c with
    | true =>
      have HK : Hid (true = goesB 1 c) := by show _ = _; simp [goesB, h2]
      have H2 : Hid (letB c = true) := h2
      clear h2
      go_enter Tryz.func144, Tryz.ntmps144
      go_wp2_with fail
      refine (letter_any _ _).mono ?_
      rintro e w1 ⟨rfl, rfl⟩
      rw [H2.out]
      go_wp2_with fail
      go_ret
      exact ⟨ret_bool HK.out, rfl⟩
    | false =>
      have HK : Hid (digB c = goesB 1 c) := by show _ = _; simp [goesB, h2]
      have H2 : Hid (letB c = false) := h2
      clear h2
      go_enter Tryz.func144, Tryz.ntmps144
      go_wp2_with fail
      refine (letter_any _ _).mono ?_
      rintro e w1 ⟨rfl, rfl⟩
      rw [H2.out]
      go_wp2_with fail
      refine (digit_any _ _).mono ?_
      rintro e w2 ⟨rfl, rfl⟩
      go_wp2_with fail
      go_ret
      exact ⟨ret_bool HK.out, rfl⟩
  · have hd1 : ((k : Int) == 1) = false := by rw [beq_eq_false_iff_ne]; omega
    by_cases h2 : k = 2
    · subst h2
      have HK : Hid (digB c = goesB 2 c) := by show _ = _; simp [goesB]
      clear hd1
      go_enter Tryz.func144, Tryz.ntmps144
      go_wp2_with fail
      refine (digit_any _ _).mono ?_
      rintro e w2 ⟨rfl, rfl⟩
      go_wp2_with fail
      go_ret
      exact ⟨ret_bool HK.out, rfl⟩
    · have hd2 : ((k : Int) == 2) = false := by rw [beq_eq_false_iff_ne]; omega
      have HK : Hid (false = goesB k c) := by show _ = _; simp [goesB, h1, h2]
      go_enter Tryz.func144, Tryz.ntmps144
      go_wp2_with fail
      go_ret
      exact ⟨ret_bool HK.out, rfl⟩

/-- The first byte 10, told by the line's length. -/
theorem lineN_at (l : List UInt8) (h : lineN l < l.length) : (l.getD (lineN l) 0).toNat = 10 := by
  induction l with
  | nil => simp at h
  | cons a r ih =>
    simp only [lineN] at h ⊢
    split
    · rename_i h1; simpa using h1
    · rename_i h1
      rw [if_neg h1] at h
      rw [Nat.add_comm, List.getD_cons_succ]
      exact ih (by simp at h; omega)
theorem lineN_ahead (l : List UInt8) : ∀ j, j < lineN l → (l.getD j 0).toNat ≠ 10 := by
  induction l with
  | nil => intro j h; simp [lineN] at h
  | cons a r ih =>
    intro j h
    simp only [lineN] at h
    split at h
    · omega
    · rename_i h1
      match j with
      | 0 => simpa using h1
      | j + 1 => rw [List.getD_cons_succ]; exact ih j (by omega)
theorem byte_at (s : ByteArray) (i : Nat) : (s[i]! : UInt8) = s.data.toList.getD i default := by
  obtain ⟨⟨l⟩⟩ := s
  by_cases h : i < l.length
  · rw [getElem!_pos (ByteArray.mk l.toArray) i (show i < (ByteArray.mk l.toArray).size from by rw [size_list]; exact h)]
    show l[i] = _
    rw [List.getD_eq_getElem?_getD, List.getElem?_eq_getElem h]; rfl
  · rw [getElem!_neg (ByteArray.mk l.toArray) i (show ¬ i < (ByteArray.mk l.toArray).size from by rw [size_list]; exact h)]
    rw [List.getD_eq_getElem?_getD, List.getElem?_eq_none (show l.length ≤ i from by omega)]; rfl
theorem first_line (s : ByteArray) : firstIdx s 10 = if lineN s.data.toList < s.data.toList.length then (lineN s.data.toList : Int) else -1 := by
  have hs : s.size = s.data.toList.length := by rw [len_data]
  unfold firstIdx
  split
  · rename_i i hi
    rw [List.find?_range_eq_some] at hi
    obtain ⟨h1, h2, h3⟩ := hi
    rw [List.mem_range, hs] at h2
    have h1' : (s.data.toList.getD i default).toNat = 10 := by
      rw [byte_at] at h1
      have := beq_iff_eq.1 h1
      rw [this]; rfl
    have hle : lineN s.data.toList ≤ i := by
      by_cases hc : i < lineN s.data.toList
      · exact absurd h1' (lineN_ahead _ i hc)
      · omega
    rw [if_pos (by omega)]
    by_cases hc : lineN s.data.toList < i
    · have := h3 _ hc
      rw [byte_at] at this
      have h4 := lineN_at s.data.toList (by omega)
      have h5 : s.data.toList.getD (lineN s.data.toList) default = 10 := UInt8.toNat_inj.1 h4
      rw [h5] at this
      simp at this
    · have : lineN s.data.toList = i := by omega
      rw [this]
  · rename_i hi
    rw [List.find?_range_eq_none] at hi
    rw [if_neg]
    intro hc
    have := hi _ (by rw [hs]; exact hc)
    rw [byte_at] at this
    have h5 : s.data.toList.getD (lineN s.data.toList) default = 10 := UInt8.toNat_inj.1 (lineN_at s.data.toList hc)
    rw [h5] at this
    simp at this

theorem run_index (s : ByteArray) (w : World) : (callFunc 192 #[.string s, .int .u8 10]).run Tryz.prog w = .ok (.value (.int .i64 (firstIdx s 10))) w := by
  rw [run_callFunc_extern (P := Tryz.prog) (f := 192) (fn := Tryz.f192) (e := Extern.BytealgIndexByte.indexByte) Tryz.func192 (by kernel_rfl) (by kernel_rfl) (by kernel_rfl) (by kernel_rfl)]
  rw [run_indexByte_string]; rfl
set_option maxHeartbeats 1000000 in
theorem indexIn_any (s : ByteArray) (w : World) :
    Calls Tryz.prog 187 #[.string s, .int .u8 10] w fun e w' => e = .returned (.int .i64 (firstIdx s 10)) ∧ w' = w := by
  have hx := run_index s
  go_enter Tryz.func187, Tryz.ntmps187
  go_wp2_with fail
  go_ret
  exact ⟨rfl, rfl⟩
set_option maxHeartbeats 1000000 in
theorem index_any (s : ByteArray) (w : World) :
    Calls Tryz.prog 173 #[.string s, .int .u8 10] w fun e w' => e = .returned (.int .i64 (firstIdx s 10)) ∧ w' = w := by
  go_enter Tryz.func173, Tryz.ntmps173
  go_wp2_with fail
  refine (indexIn_any _ _).mono ?_
  rintro e w1 ⟨rfl, rfl⟩
  go_wp2_with fail
  go_ret
  exact ⟨rfl, rfl⟩
set_option maxHeartbeats 1000000 in
theorem lineEnd_any (s : ByteArray) (p : Nat) (w : World) (hs : s.size ≤ 140737488351232) (hp : p ≤ s.size) :
    Calls Tryz.prog 141 #[.string s, .int .i64 (p : Int)] w fun e w' => e = .returned (.int .i64 ((p + lineN (s.data.toList.drop p) : Nat) : Int)) ∧ w' = w := by
  have HF : Hid (firstIdx (s.extract p s.size) 10 = if lineN (s.data.toList.drop p) < s.size - p then (lineN (s.data.toList.drop p) : Int) else -1) := by
    show _ = _
    rw [first_line, extract_drop, List.length_drop, len_data]
  have hl := lineN_le (s.data.toList.drop p)
  rw [List.length_drop, len_data] at hl
  generalize lineN (s.data.toList.drop p) = n at *
  by_cases hn : n < s.size - p
  · have HG : Hid (firstIdx (s.extract p s.size) 10 = (n : Int)) := by show _ = _; rw [HF.out, if_pos hn]
    clear HF
    go_enter Tryz.func141, Tryz.ntmps141
    go_wp2_with fail
    refine (index_any _ _).mono ?_
    rintro e w1 ⟨rfl, rfl⟩
    rw [HG.out]
    go_wp2_with fail
    go_ret
    exact ⟨ret_int (by omega), rfl⟩
  · have HG : Hid (firstIdx (s.extract p s.size) 10 = -1) := by show _ = _; rw [HF.out, if_neg hn]
    clear HF
    go_enter Tryz.func141, Tryz.ntmps141
    go_wp2_with fail
    refine (index_any _ _).mono ?_
    rintro e w1 ⟨rfl, rfl⟩
    rw [HG.out]
    go_wp2_with fail
    go_ret
    exact ⟨ret_int (by omega), rfl⟩

set_option maxHeartbeats 1000000 in
theorem skip_any (s : ByteArray) (p : Nat) (w : World) (hs : s.size ≤ 140737488351232) (hp : p ≤ s.size) :
    Calls Tryz.prog 90 #[.string s, .int .i64 (p : Int)] w fun e w' => e = .returned (.int .i64 ((p + skipN (s.data.toList.drop p) : Nat) : Int)) ∧ w' = w := by
  obtain ⟨E, hE⟩ : ∃ E, p + skipN (s.data.toList.drop p) = E := ⟨_, rfl⟩
  rw [hE]
  have HS : Hid (p + skipN (s.data.toList.drop p) = E) := hE
  clear hE
  go_enter Tryz.func90, Tryz.ntmps90
  go_wp2_with fail
  go_loop [1] (fun iv => ∃ i : Nat, iv = .int .i64 (i : Int) ∧ i ≤ s.size ∧ Hid (i + skipN (s.data.toList.drop i) = E)) (fun iv => s.size - (intOf iv).toNat)
  case atStart => exact ⟨p, rfl, hp, HS⟩
  case round =>
    obtain ⟨i, rfl, hi, HI⟩ := hrel
    by_cases hlt : i < s.size
    · have HD : Hid (s.data.toList.drop i = s[i] :: s.data.toList.drop (i + 1)) := drop_cons s i hlt
      go_wp2_with fail
      refine (blank_any _ _).mono ?_
      rintro e w1 ⟨rfl, rfl⟩
      cases hb : blankB s[i] with
      | true =>
        have HN : Hid (i + 1 + skipN (s.data.toList.drop (i + 1)) = E) := by
          have h1 := skipN_blank HD.out hb
          rw [List.drop_drop] at h1
          show _ = _
          rw [← HI.out, h1]; omega
        clear hb HD
        go_wp2_with fail
        go_round
        case rel => exact ⟨i + 1, by go_num, by omega, HN⟩
        case measure => simp [intOf]; omega
      | false =>
        have HB : Hid (blankB s[i] = false) := hb
        clear hb
        have HX : Hid ((ByteArray.mk #[47, 47]).toList.isPrefixOf (s.extract i s.size).toList = [47, 47].isPrefixOf (s.data.toList.drop i)) := by
          show _ = _
          rw [ByteArray.toList_eq, ByteArray.toList_eq, extract_drop]
        go_wp2_with fail
        refine (hasPrefix_any _ _ _ (extract_size_le s _ hs) (by decide)).mono ?_
        rintro e w2 ⟨rfl, rfl⟩
        rw [HX.out]
        cases hc : [47, 47].isPrefixOf (s.data.toList.drop i) with
        | true =>
          obtain ⟨h1, h2⟩ := skipN_slash hc
          rw [List.drop_drop] at h1
          have hl := lineN_le (s.data.toList.drop i)
          rw [List.length_drop, len_data] at hl
          have HN : Hid (i + lineN (s.data.toList.drop i) + skipN (s.data.toList.drop (i + lineN (s.data.toList.drop i))) = E) := by
            show _ = _; rw [← HI.out, h1]; omega
          clear hc HD HX h1 HB HI
          go_wp2_with fail
          refine (lineEnd_any s i _ hs hi).mono ?_
          rintro e w3 ⟨rfl, rfl⟩
          generalize lineN (s.data.toList.drop i) = n at *
          go_wp2_with fail
          go_round
          case rel => exact ⟨i + n, rfl, by omega, HN⟩
          case measure => simp [intOf]; omega
        | false =>
          have HN : Hid (i = E) := by
            show _ = _; rw [← HI.out, skipN_none HD.out HB.out hc]; rfl
          clear hc HD HX
          go_wp2_with fail
          go_ret
          exact ⟨ret_int (by rw [HN.out]), rfl⟩
    · have HN : Hid (i = E) := by
        show _ = _
        rw [← HI.out, drop_none s i (by omega), skipN_nil]; rfl
      go_wp2_with fail
      go_ret
      exact ⟨ret_int (by rw [HN.out]), rfl⟩

theorem goes_rune {k c m : Nat} {l : List UInt8} (h1 : standsB l c = true → nxL l = some (c, m)) (h2 : standsB l c = false → nxL l = none) : goesB k c = true → nxL l = some (c, m) := by
  intro h
  refine h1 ?_
  cases e : standsB l c with
  | true => rfl
  | false =>
    exfalso
    unfold standsB at e
    simp at e
    have : c = 65533 := by omega
    subst this
    simp [goesB, letB, digB] at h
theorem goes_cont {k c m : Nat} {l : List UInt8} (h1 : standsB l c = true → nxL l = some (c, m)) (h2 : standsB l c = false → nxL l = none) (h : goesB k c = false) : contB k l = false := by
  cases e : standsB l c with
  | true => rw [contB_yes (h1 e)]; exact h
  | false => exact contB_none (h2 e)

set_option maxHeartbeats 1000000 in
theorem behind_any (s : ByteArray) (p k c m : Nat) (w : World) (hs : s.size ≤ 140737488351232) (hp : p < s.size) (hn : nxL (s.data.toList.drop p) = some (c, m)) :
    Calls Tryz.prog 93 #[.string s, .int .i64 (p : Int), .int .i64 (k : Int)] w fun e w' => e = .returned (.int .i64 ((p + pieceN k m (s.data.toList.drop p) : Nat) : Int)) ∧ Below w.heap.size w w' := by
  have hpb := piece_bd (k := k) hn
  rw [List.length_drop, len_data] at hpb
  obtain ⟨E, hE⟩ : ∃ E, pieceN k m (s.data.toList.drop p) = E := ⟨_, rfl⟩
  rw [hE] at hpb ⊢
  have HE : Hid (pieceN k m (s.data.toList.drop p) = E) := hE
  have HN : Hid (nxL (s.data.toList.drop p) = some (c, m)) := hn
  clear hE hn
  have HT : Hid ((s.extract p s.size).data.toList = s.data.toList.drop p) := extract_drop s p
  have HTS : Hid ((s.extract p s.size).size = s.size - p) := by show _ = _; rw [ByteArray.size_extract]; omega
  go_enter Tryz.func93, Tryz.ntmps93
  go_wp2
  generalize s.extract p s.size = t at *
  go_loopw [] (fun wr => ∃ pos : Nat, wr = w.iter t pos ∧ pos ≤ E ∧ Hid (pos = 0 ∨ 0 < pos ∧ pos + runN k (t.data.toList.drop pos) = E)) (fun wr => t.size - wr.iterPos w.heap.size)
  case atStart => exact ⟨0, rfl, by omega, .inl rfl⟩
  case round =>
    obtain ⟨pos, rfl, hpE, H⟩ := hrel
    by_cases hlt : pos < t.size
    · obtain ⟨c', k', hd, h1, h2⟩ := dec_at t pos hlt
      have hnx : ∀ ty, (Instr.next (.pointer (some ⟨w.heap.size, 0, none⟩)) true ty).run Tryz.prog (w.iter t pos) = .ok (.tuple #[.bool true, .int .i64 (pos : Int), .int .i32 (c' : Int)]) (w.iter t (pos + k')) := by
        intro ty
        have := run_next_any (P := Tryz.prog) w t pos ty hlt
        rw [hd] at this
        exact this
      have HG1 : Hid (goesB k c' = true → nxL (t.data.toList.drop pos) = some (c', k')) := goes_rune h1 h2
      have HG2 : Hid (goesB k c' = false → contB k (t.data.toList.drop pos) = false) := goes_cont h1 h2
      have H1 : Hid (standsB (t.data.toList.drop pos) c' = true → nxL (t.data.toList.drop pos) = some (c', k')) := h1
      have H2 : Hid (standsB (t.data.toList.drop pos) c' = false → nxL (t.data.toList.drop pos) = none) := h2
      clear hd h1 h2
      by_cases h0 : pos = 0
      · have HM : Hid (k' = m) := by
          show _ = _
          have h3 : nxL (t.data.toList.drop pos) = some (c, m) := by rw [h0, List.drop_zero, HT.out]; exact HN.out
          have h4 := dec_of_nx H1.out H2.out h3
          rw [h3] at h4
          simp at h4
          exact h4.2.symm
        have HR : Hid (pos + k' = 0 ∨ 0 < pos + k' ∧ pos + k' + runN k (t.data.toList.drop (pos + k')) = E) := by
          right
          rw [HM.out, HT.out, h0]
          have h9 := HE.out
          unfold pieceN at h9
          have := (nx_len HN.out).1
          refine ⟨by omega, by rw [Nat.zero_add]; exact h9⟩
        have hk1 : 1 ≤ k' ∧ pos + k' ≤ E := by
          have := HM.out
          have := (nx_len HN.out).1
          have := hpb.2.2
          omega
        have hd0 : decide (0 < pos) = false := by simp; omega
        clear H HG1 HG2 H1 H2 h0
        go_wp2_with fail
        go_roundw
        case rel => exact ⟨pos + k', rfl, hk1.2, HR⟩
        case measure => simp; omega
      · have hd0 : decide (0 < pos) = true := by simp; omega
        have H' : Hid (pos + runN k (t.data.toList.drop pos) = E) := by
          rcases H.out with h | h
          · exact absurd h h0
          · exact h.2
        clear H h0
        go_wp2_with fail
        refine (goesOn_any k c' _).mono ?_
        rintro e w1 ⟨rfl, rfl⟩
        cases hg : goesB k c' with
        | true =>
          have hnx2 := HG1.out hg
          have hk1 := (nx_len hnx2).1
          have HR : Hid (pos + k' = 0 ∨ 0 < pos + k' ∧ pos + k' + runN k (t.data.toList.drop (pos + k')) = E) := by
            right
            have := runN_yes hnx2 hg
            rw [List.drop_drop] at this
            have h9 := H'.out
            omega
          have hE2 : pos + k' ≤ E := by
            rcases HR.out with h | h
            · omega
            · have := h.2; omega
          clear hnx2 HG1 HG2 H1 H2
          go_wp2_with fail
          go_roundw
          case rel => exact ⟨pos + k', rfl, hE2, HR⟩
          case measure => simp; omega
        | false =>
          have hz : pos = E := by
            have := runN_stop0 (HG2.out hg)
            have h9 := H'.out
            omega
          clear HG1 HG2 H1 H2
          subst hz
          go_wp2_with fail
          go_ret
          exact ⟨ret_int (by omega), below_iter _ _ _⟩
    · have hz : pos = E ∧ p + E = s.size := by
        have h8 := HTS.out
        rcases H.out with h | h
        · omega
        · have : t.data.toList.drop pos = [] := List.drop_eq_nil_of_le (by rw [len_data]; omega)
          rw [this] at h
          have h9 := h.2
          have : runN k [] = 0 := rfl
          omega
      have hnx : ∀ ty, (Instr.next (.pointer (some ⟨w.heap.size, 0, none⟩)) true ty).run Tryz.prog (w.iter t pos) = _ := fun ty => run_next_end w t pos ty hlt
      obtain ⟨hpz, hz⟩ := hz
      clear hpz
      have HZ : Hid (p + E = s.size) := hz
      clear hz
      go_wp2_with fail
      go_ret
      exact ⟨ret_int (by rw [HZ.out]), below_iter _ _ _⟩
end Go.Proofs.YtkfhlgajeejgeaaGreatDoor

/- What the program's Number answers, at every text. -/
namespace Go.Proofs.YtkfhlgajeejgeaaGreatDoor
open Go.ChangeShapes Go.WideShapes Go.ChangeAt Go.RowKit
set_option linter.unusedVariables false
set_option linter.unusedSimpArgs false
set_option maxRecDepth 20000

theorem nx_small {a : UInt8} {r : List UInt8} {c m : Nat} (h : nxL (a :: r) = some (c, m)) : (a.toNat < 128 ∧ c = a.toNat ∧ m = 1) ∨ (128 ≤ a.toNat ∧ 128 ≤ c) := by
  simp only [nxL] at h
  by_cases h0 : a.toNat < 128
  · rw [if_pos h0] at h
    simp only [Option.some.injEq, Prod.mk.injEq] at h
    exact .inl ⟨h0, h.1.symm, h.2.symm⟩
  · right
    refine ⟨by omega, ?_⟩
    rw [if_neg h0] at h
    split at h
    · split at h
      · split at h
        · rename_i g; simp only [Option.some.injEq, Prod.mk.injEq] at h; omega
        · cases h
      · cases h
    · split at h
      · split at h
        · split at h
          · rename_i g; simp only [Option.some.injEq, Prod.mk.injEq] at h; omega
          · cases h
        · cases h
      · split at h
        · split at h
          · split at h
            · rename_i g; simp only [Option.some.injEq, Prod.mk.injEq] at h; omega
            · cases h
          · cases h
        · cases h

def digU (a : UInt8) : Bool := decide (48 ≤ a.toNat ∧ a.toNat ≤ 57)
def numV : List UInt8 → Nat → Nat
  | [], n => n
  | a :: r, n => numV r (10 * n + (a.toNat - 48))
/-- What Number answers. -/
def numA (l : List UInt8) : Nat × Bool := if l.length < 1 ∨ 10 < l.length ∨ (1 < l.length ∧ headN l = 48) then (0, false) else if l.all digU = true then (numV l 0, true) else (0, false)
theorem numA_none {l : List UInt8} (h : l.length < 1 ∨ 10 < l.length ∨ (1 < l.length ∧ headN l = 48)) : numA l = (0, false) := by unfold numA; rw [if_pos h]
/-- The number so far; and what is left. -/
structure NumAt (l : List UInt8) (pos v : Nat) : Prop where
  sum : numV (l.drop pos) v = numV l 0
  all : l.all digU = (l.drop pos).all digU
  lt : v < 10 ^ pos
theorem NumAt.start (l : List UInt8) : NumAt l 0 0 := ⟨by simp, by simp, by decide⟩
theorem NumAt.step {s : ByteArray} {pos v : Nat} (h : NumAt s.data.toList pos v) (hp : pos < s.size) (hd : digU s[pos] = true) : NumAt s.data.toList (pos + 1) (10 * v + (s[pos].toNat - 48)) := by
  have e := drop_cons s pos hp
  obtain ⟨h1, h2, h3⟩ := h
  refine ⟨?_, ?_, ?_⟩
  · rw [← h1, e]; rfl
  · rw [h2, e]; simp [hd]
  · rw [Nat.pow_succ]
    unfold digU at hd
    simp only [decide_eq_true_eq] at hd
    omega
theorem NumAt.bd {l : List UInt8} {pos v : Nat} (h : NumAt l pos v) (hp : pos ≤ 10) : v < 10000000000 := by
  have h1 := h.lt
  have h2 := Nat.pow_le_pow_right (n := 10) (by omega) hp
  have : (10 : Nat) ^ 10 = 10000000000 := by decide
  omega
theorem NumAt.bad {s : ByteArray} {pos v : Nat} (h : NumAt s.data.toList pos v) (hp : pos < s.size) (hd : digU s[pos] = false) : numA s.data.toList = (0, false) := by
  have e := drop_cons s pos hp
  unfold numA
  split
  · rfl
  · rw [if_neg]
    rw [h.all, e]; simp [hd]
theorem NumAt.done {s : ByteArray} {pos v : Nat} (h : NumAt s.data.toList pos v) (hp : s.size ≤ pos) (hn : ¬ (s.size < 1 ∨ 10 < s.size ∨ (1 < s.size ∧ headN s.data.toList = 48))) : numA s.data.toList = (v, true) := by
  have e := drop_none s pos hp
  have h1 := h.sum
  have h2 := h.all
  rw [e] at h1 h2
  unfold numA
  rw [if_neg (by rw [len_data]; exact hn), if_pos (by rw [h2]; rfl), ← h1]; rfl
theorem dig_dec {s : ByteArray} {pos c k : Nat} (hp : pos < s.size) (h1 : standsB (s.data.toList.drop pos) c = true → nxL (s.data.toList.drop pos) = some (c, k)) (h2 : standsB (s.data.toList.drop pos) c = false → nxL (s.data.toList.drop pos) = none) :
    digB c = digU s[pos] ∧ (digU s[pos] = true → c = s[pos].toNat ∧ k = 1) := by
  have e := drop_cons s pos hp
  cases hst : standsB (s.data.toList.drop pos) c with
  | true =>
    have h3 := h1 hst
    rw [e] at h3
    rcases nx_small h3 with ⟨g1, g2, g3⟩ | ⟨g1, g2⟩
    · rw [← g2]
      refine ⟨?_, fun _ => ⟨rfl, g3⟩⟩
      unfold digB digU
      rw [← g2]
      congr 1; apply propext; omega
    · constructor
      · unfold digB digU
        rw [decide_eq_false (by omega), decide_eq_false (by omega)]
      · unfold digU; simp only [decide_eq_true_eq]; omega
  | false =>
    have h3 := h2 hst
    have hc : c = 65533 := by unfold standsB at hst; simp at hst; omega
    rw [e] at h3
    have ha : 128 ≤ s[pos].toNat := by
      by_cases h : s[pos].toNat < 128
      · simp [nxL, h] at h3
      · omega
    constructor
    · unfold digB digU
      rw [hc, decide_eq_false (by omega), decide_eq_false (by omega)]
    · unfold digU; simp only [decide_eq_true_eq]; omega
theorem head_byte (s : ByteArray) (h : 0 < s.size) : headN s.data.toList = s[0].toNat := by
  have := drop_cons s 0 h
  rw [List.drop_zero] at this
  rw [this]; rfl

set_option maxHeartbeats 1000000 in
theorem number_any (s : ByteArray) (w : World) (hs : s.size ≤ 140737488351232) :
    Calls Tryz.prog 189 #[.string s] w fun e w' => e = .returned (.tuple #[.int .i64 ((numA s.data.toList).1 : Int), .bool (numA s.data.toList).2]) ∧ Below w.heap.size w w' := by
  obtain ⟨R, hR⟩ : ∃ R, numA s.data.toList = R := ⟨_, rfl⟩
  rw [hR]
  have HR : Hid (numA s.data.toList = R) := hR
  clear hR
  by_cases h1 : s.size < 1
  · have : R = (0, false) := by rw [← HR.out]; exact numA_none (.inl (by rw [len_data]; exact h1))
    subst this
    have hz : s = ⟨#[]⟩ := by
      obtain ⟨⟨l⟩⟩ := s
      have : l.length = 0 := by have := h1; rw [size_list] at this; omega
      rw [List.length_eq_zero_iff.1 this]
    clear HR
    subst hz
    go_enter Tryz.func189, Tryz.ntmps189
    go_wp2_with fail
    go_ret2
    exact ⟨rfl, Below.refl _ _⟩
  · have hne : (s.toList == ([] : List UInt8)) = false := by
      rw [beq_eq_false_iff_ne, ByteArray.toList_eq]
      intro e
      have := congrArg List.length e
      rw [len_data, List.length_nil] at this; omega
    by_cases h2 : 10 < s.size
    · have : R = (0, false) := by rw [← HR.out]; exact numA_none (.inr (.inl (by rw [len_data]; exact h2)))
      subst this
      have hd2 : decide (10 < (s.size : Int)) = true := by simp; omega
      clear HR
      go_enter Tryz.func189, Tryz.ntmps189
      go_wp2_with fail
      go_ret2
      exact ⟨rfl, Below.refl _ _⟩
    · have hd2 : decide (10 < (s.size : Int)) = false := by simp; omega
      have hb0 : 0 < s.size := by omega
      by_cases h3 : 1 < s.size ∧ headN s.data.toList = 48
      · have : R = (0, false) := by rw [← HR.out]; exact numA_none (.inr (.inr (by rw [len_data]; exact h3)))
        subst this
        have hd3 : decide (1 < (s.size : Int)) = true := by simp; omega
        have hb : ((s[0].toNat : Int) == 48) = true := by rw [beq_iff_eq, ← head_byte s hb0, h3.2]; rfl
        clear HR h3
        go_enter Tryz.func189, Tryz.ntmps189
        go_wp2_with fail
        go_ret2
        exact ⟨rfl, Below.refl _ _⟩
      · have HN : Hid (¬ (s.size < 1 ∨ 10 < s.size ∨ (1 < s.size ∧ headN s.data.toList = 48))) := by
          rintro (h | h | h)
          · exact h1 h
          · exact h2 h
          · exact h3 h
        have hgo : (decide (1 < (s.size : Int)) = false) ∨ (decide (1 < (s.size : Int)) = true ∧ ((s[0].toNat : Int) == 48) = false) := by
          by_cases h : 1 < s.size
          · right
            refine ⟨by simp; omega, ?_⟩
            rw [beq_eq_false_iff_ne, ← head_byte s hb0]
            intro e
            exact h3 ⟨h, by omega⟩
          · left; simp; omega
        have hle : s.size ≤ 10 := by omega
        clear h3 h2
        rcases hgo with hd3 | ⟨hd3, hb⟩
        all_goals
          go_enter Tryz.func189, Tryz.ntmps189
          go_wp2_with fail
          go_loopw [4] (fun nv wr => ∃ (pos v : Nat), nv = .int .i64 (v : Int) ∧ wr = w.iter s pos ∧ pos ≤ s.size ∧ v < 10000000000 ∧ Hid (NumAt s.data.toList pos v)) (fun _ wr => s.size - wr.iterPos w.heap.size)
          case atStart => exact ⟨0, 0, rfl, rfl, by omega, by omega, NumAt.start _⟩
          case round =>
            obtain ⟨pos, v, rfl, rfl, hps, hv, H⟩ := hrel
            by_cases hlt : pos < s.size
            · obtain ⟨c, k, hdc, g1, g2⟩ := dec_at s pos hlt
              have hnx : ∀ ty, (Instr.next (.pointer (some ⟨w.heap.size, 0, none⟩)) true ty).run Tryz.prog (w.iter s pos) = .ok (.tuple #[.bool true, .int .i64 (pos : Int), .int .i32 (c : Int)]) (w.iter s (pos + k)) := by
                intro ty
                have := run_next_any (P := Tryz.prog) w s pos ty hlt
                rw [hdc] at this
                exact this
              obtain ⟨q1, q2⟩ := dig_dec hlt g1 g2
              have Q1 : Hid (digB c = digU s[pos]) := q1
              cases hdu : digU s[pos] with
              | false =>
                have : R = (0, false) := by rw [← HR.out]; exact H.out.bad hlt hdu
                subst this
                have HF : Hid (digB c = false) := by show _ = _; rw [q1]; exact hdu
                clear hdc g1 g2 q1 q2 Q1 HR hdu H
                go_wp2_with fail
                refine (digit_any _ _).mono ?_
                rintro e w1 ⟨rfl, rfl⟩
                rw [HF.out]
                go_wp2_with fail
                go_ret2
                exact ⟨rfl, below_iter _ _ _⟩
              | true =>
                obtain ⟨q3, q4⟩ := q2 hdu
                have HF : Hid (digB c = true) := by show _ = _; rw [q1]; exact hdu
                have hstep := H.out.step hlt hdu
                rw [← q3] at hstep
                have HS : Hid (NumAt s.data.toList (pos + k) (10 * v + (c - 48))) := by rw [q4]; exact hstep
                have hvb := hstep.bd (by omega)
                have hcb : 48 ≤ c ∧ c ≤ 57 := by
                  unfold digU at hdu
                  simp only [decide_eq_true_eq] at hdu
                  omega
                have hk : 1 ≤ k ∧ pos + k ≤ s.size := by omega
                have hv2 : v < 1000000000 := by omega
                clear hdc g1 g2 q1 q2 Q1 hdu H q3 q4 hstep
                go_wp2_with fail
                refine (digit_any _ _).mono ?_
                rintro e w1 ⟨rfl, rfl⟩
                rw [HF.out]
                go_wp2_with fail
                go_roundw
                case rel => exact ⟨pos + k, 10 * v + (c - 48), by congr 1; omega, rfl, hk.2, hvb, HS⟩
                case measure => simp; omega
            · have hnx : ∀ ty, (Instr.next (.pointer (some ⟨w.heap.size, 0, none⟩)) true ty).run Tryz.prog (w.iter s pos) = _ := fun ty => run_next_end w s pos ty hlt
              have : R = (v, true) := by rw [← HR.out]; exact H.out.done (by omega) HN.out
              subst this
              clear HR
              go_wp2_with fail
              go_ret2
              exact ⟨rfl, below_iter _ _ _⟩
end Go.Proofs.YtkfhlgajeejgeaaGreatDoor

/- Whether a text is a name, or a key, reckoned over its list of bytes. -/
namespace Go.Proofs.YtkfhlgajeejgeaaGreatDoor
open Go.RowKit
def keyK (l : List UInt8) : Bool := [[115, 99, 104, 101, 109, 97], [109, 101, 115, 115, 97, 103, 101], [101, 110, 117, 109], [99, 97, 108, 108], [114, 101, 116, 117, 114, 110, 115], [114, 101, 115, 101, 114, 118, 101, 100],
  [111, 112, 116, 105, 111, 110, 97, 108], [114, 101, 112, 101, 97, 116, 101, 100], [105, 110, 116, 51, 50], [105, 110, 116, 54, 52], [98, 111, 111, 108], [116, 101, 120, 116], [98, 121, 116, 101, 115]].any fun (k : List UInt8) => l == k
def nameK (l : List UInt8) : Bool := decide (1 ≤ countN l ∧ countN l ≤ 20) && !keyK l && okFrom true ((runesOf l).getD [])
theorem keyB_eq (s : ByteArray) : keyB s = keyK s.data.toList := by unfold keyB keyK; rw [ByteArray.toList_eq]
theorem nameB_eq (s : ByteArray) : nameB s = nameK s.data.toList := by unfold nameB nameK; rw [keyB_eq]
end Go.Proofs.YtkfhlgajeejgeaaGreatDoor

/- Rows of pieces: what stands in a slice; owned, made. -/
namespace Go.Proofs.YtkfhlgajeejgeaaGreatDoor
open Go.ChangeShapes Go.WideShapes Go.ChangeAt Go.RowKit
set_option linter.unusedVariables false
set_option linter.unusedSimpArgs false
set_option maxRecDepth 20000

theorem infoTk : (Tryz.prog.info? 116).map (fun i => (i.zero, i.size, i.bytes)) = some (some (.agg #[.int .i64 0, .string ⟨#[]⟩, .int .i64 0]), 3, 32) := by kernel_rfl
def Tk.bytes (t : Tk) : ByteArray := ⟨t.text.toArray⟩
def Tk.cells (t : Tk) : List Value := [.int .i64 (t.kind : Int), .string t.bytes, .int .i64 (t.pos : Int)]
def tkCells (rs : List Tk) : List Value := rs.flatMap Tk.cells
theorem tkCells_nil : tkCells [] = [] := rfl
theorem tkCells_cons (r : Tk) (l : List Tk) : tkCells (r :: l) = r.cells ++ tkCells l := by simp [tkCells]
theorem tkCells_app (a b : List Tk) : tkCells (a ++ b) = tkCells a ++ tkCells b := by simp [tkCells]
theorem tkCells_len (rs : List Tk) : (tkCells rs).length = rs.length * 3 := by
  induction rs with
  | nil => rfl
  | cons r l ih => rw [tkCells_cons, List.length_append, ih, List.length_cons]; simp [Tk.cells]; omega
theorem tkCells_snoc (acc : List Tk) (r : Tk) : (acc ++ [r]).length = acc.length + 1 ∧ tkCells (acc ++ [r]) = tkCells acc ++ r.cells := by
  constructor
  · simp
  · rw [tkCells_app, tkCells_cons, tkCells_nil, List.append_nil]
/-- The cells of one. -/
theorem tkCells_get : ∀ (rs : List Tk) (i : Nat) (r : Tk), rs[i]? = some r → ∀ c u, r.cells[c]? = some u → (tkCells rs)[i * 3 + c]? = some u
  | [], i, r, h, c, u, hu => by simp at h
  | x :: l, 0, r, h, c, u, hu => by
    obtain rfl : x = r := by simpa using h
    rw [tkCells_cons, Nat.zero_mul, Nat.zero_add, List.getElem?_append_left (List.getElem?_eq_some_iff.1 hu).1]
    exact hu
  | x :: l, i + 1, r, h, c, u, hu => by
    have := tkCells_get l i r (by simpa using h) c u hu
    rw [tkCells_cons, List.getElem?_append_right (by simp [Tk.cells]; omega)]
    have e : (i + 1) * 3 + c - x.cells.length = i * 3 + c := by simp [Tk.cells]; omega
    rw [e]
    exact this

/-- Pieces that stand in a slice. -/
def HoldsT (w : World) (a : Option Addr) (rs : List Tk) : Prop := ∀ b, a = some b → ∀ j u, (tkCells rs)[j]? = some u → w.cell? (b.add j) = some u
theorem HoldsT.below {w w1 : World} {a : Option Addr} {rs : List Tk} (h : HoldsT w a rs) (hb : Below w.heap.size w w1) : HoldsT w1 a rs := by
  intro b hab j u hu
  have := h b hab j u hu
  rw [hb.cell (World.block_lt_of_cell? _ _ this)]
  exact this
theorem HoldsT.nil {w : World} {a : Option Addr} : HoldsT w a [] := by
  intro b _ j u hu
  simp [tkCells] at hu
theorem HoldsT.at {w : World} {g off : Nat} {rs : List Tk} (h : HoldsT w (some ⟨g, off, none⟩) rs) {i : Nat} {r : Tk} (hi : rs[i]? = some r) :
    w.cell? ⟨g, off + i * 3, none⟩ = some (.int .i64 (r.kind : Int)) ∧ w.cell? ⟨g, off + i * 3 + 1, none⟩ = some (.string r.bytes) ∧ w.cell? ⟨g, off + i * 3 + 2, none⟩ = some (.int .i64 (r.pos : Int)) := by
  refine ⟨?_, ?_, ?_⟩
  · have := h _ rfl _ _ (tkCells_get rs i r hi 0 _ rfl); rwa [Addr.add_lit] at this
  · have := h _ rfl _ _ (tkCells_get rs i r hi 1 _ rfl); rwa [Addr.add_lit, ← Nat.add_assoc] at this
  · have := h _ rfl _ _ (tkCells_get rs i r hi 2 _ rfl); rwa [Addr.add_lit, ← Nat.add_assoc] at this
theorem HoldsT.at0 {w : World} {g : Nat} {rs : List Tk} (h : HoldsT w (some ⟨g, 0, none⟩) rs) {i : Nat} {r : Tk} (hi : rs[i]? = some r) :
    w.cell? ⟨g, i * 3, none⟩ = some (.int .i64 (r.kind : Int)) ∧ w.cell? ⟨g, i * 3 + 1, none⟩ = some (.string r.bytes) ∧ w.cell? ⟨g, i * 3 + 2, none⟩ = some (.int .i64 (r.pos : Int)) := by
  have := h.at hi
  rwa [Nat.zero_add] at this

/-- A row of the call's own, opened: none at all, or from the block's first cell on. -/
theorem own_openT {w : World} {B : Nat} {r : Value} {n : Nat} {rs : List Tk} (h : w.ownsRow B 116 3 r n (tkCells rs)) :
    ∃ a cap, r = .slice a rs.length cap ∧ n = rs.length ∧ ((a = none ∧ rs = [] ∧ cap = 0) ∨ ∃ g, a = some ⟨g, 0, none⟩ ∧ B ≤ g ∧ g < w.heap.size) ∧ rs.length ≤ cap ∧ cap ≤ maxLen ∧ HoldsT w a rs := by
  have hn : n = rs.length := by have := h.1; rw [tkCells_len] at this; omega
  have h0 := h
  subst hn
  rcases h.2 with ⟨rfl, h2⟩ | ⟨g, cap, cur, rfl, hb, hg, hc, hm, _⟩
  · have : rs = [] := List.eq_nil_of_length_eq_zero h2
    subst this
    exact ⟨none, 0, rfl, rfl, .inl ⟨rfl, rfl, rfl⟩, Nat.le_refl _, by decide, HoldsT.nil⟩
  · refine ⟨_, cap, rfl, rfl, .inr ⟨g, rfl, hb, (Array.getElem?_eq_some_iff.1 hg).1⟩, hc, hm, ?_⟩
    intro b hb' j u hu
    obtain rfl : ⟨g, 0, none⟩ = b := by simpa using hb'
    exact h0.cells (g := g) rfl j u hu
/-- A row of pieces, to be read. -/
structure RowT (w : World) (v : Value) (rs : List Tk) : Prop where
  form : ∃ a cap, v = .slice a rs.length cap ∧ rs.length ≤ cap ∧ cap ≤ maxLen ∧ (rs ≠ [] → ∃ g, a = some ⟨g, 0, none⟩) ∧ HoldsT w a rs
theorem row_own {w : World} {B : Nat} {r : Value} {n : Nat} {rs : List Tk} (h : w.ownsRow B 116 3 r n (tkCells rs)) : RowT w r rs := by
  obtain ⟨a, cap, h1, _, h3, h4, h5, h6⟩ := own_openT h
  refine ⟨a, cap, h1, h4, h5, ?_, h6⟩
  intro hne
  rcases h3 with h3 | ⟨g, h3, _⟩
  · exact absurd h3.2.1 hne
  · exact ⟨g, h3⟩
theorem RowT.below {w w1 : World} {v : Value} {rs : List Tk} (h : RowT w v rs) (hb : Below w.heap.size w w1) : RowT w1 v rs := by
  obtain ⟨a, cap, h1, h2, h3, h4, h5⟩ := h.form
  exact ⟨a, cap, h1, h2, h3, h4, h5.below hb⟩

/-- What Tokens answers: the pieces, the place, the error. -/
def ansA : LexA → List Tk × Nat × Nat
  | .inl (p, e) => ([], p, e)
  | .inr ts => (ts, 0, 0)
def tokA (s : ByteArray) : List Tk × Nat × Nat := if 16384 < s.size then ([], 0, 4) else ansA (lexO s.data.toList 0)
theorem extract_list (s : ByteArray) (a n : Nat) : (s.extract a (a + n)).data.toList = (s.data.toList.drop a).take n := by
  obtain ⟨⟨l⟩⟩ := s
  simp [ByteArray.data_extract, ByteArray.size]
theorem extract_piece (s : ByteArray) (a n : Nat) : s.extract a (a + n) = ⟨((s.data.toList.drop a).take n).toArray⟩ := by
  have h := extract_list s a n
  generalize s.extract a (a + n) = t at *
  obtain ⟨⟨m⟩⟩ := t
  simp only at h
  rw [h]
theorem slice_text (W : World) (s : ByteArray) (p X : Nat) (h1 : p ≤ X) (h2 : X ≤ s.size) : (Instr.slice 9 (.string s) (some (.int .i64 (p : Int))) (some (.int .i64 (X : Int))) none).run Tryz.prog W = .ok (.string (s.extract p X)) W := by
  have := run_slice_string (P := Tryz.prog) W 9 s .i64 .i64 (p : Int) (X : Int) Tryz.underlying9 (by omega) (by omega) (by omega)
  rwa [Int.toNat_natCast, Int.toNat_natCast] at this
end Go.Proofs.YtkfhlgajeejgeaaGreatDoor

/- Reading a schema's pieces, in plain mathematics: what the pieces make, or how many are left where one does not fit. -/
namespace Go.Proofs.YtkfhlgajeejgeaaGreatDoor
open Go.RowKit
set_option linter.unusedVariables false
set_option linter.unusedSimpArgs false
set_option maxRecDepth 20000

/-- What is read, and the rest; or how many are left. -/
abbrev PR (α : Type) := Sum Nat (α × List ByteArray)
def pBind {α β : Type} (x : PR α) (f : α → List ByteArray → PR β) : PR β := match x with
  | .inl n => .inl n
  | .inr (a, r) => f a r
def pIs (k : ByteArray) (ts : List ByteArray) : Bool := match ts with
  | [] => false
  | t :: _ => t.data.toList == k.data.toList
def pMust (k : ByteArray) (ts : List ByteArray) : PR Unit := if pIs k ts = true then .inr ((), ts.tail) else .inl ts.length
def pName (ts : List ByteArray) : PR ByteArray := match ts with
  | [] => .inl 0
  | t :: r => if nameK t.data.toList = true then .inr (t, r) else .inl (r.length + 1)
def pNum (ts : List ByteArray) : PR Nat := match ts with
  | [] => .inl 0
  | t :: r => if (numA t.data.toList).2 = true then .inr ((numA t.data.toList).1, r) else .inl (r.length + 1)

def kSchema : ByteArray := ⟨#[115, 99, 104, 101, 109, 97]⟩
def kMessage : ByteArray := ⟨#[109, 101, 115, 115, 97, 103, 101]⟩
def kEnum : ByteArray := ⟨#[101, 110, 117, 109]⟩
def kCall : ByteArray := ⟨#[99, 97, 108, 108]⟩
def kReturns : ByteArray := ⟨#[114, 101, 116, 117, 114, 110, 115]⟩
def kReserved : ByteArray := ⟨#[114, 101, 115, 101, 114, 118, 101, 100]⟩
def kOptional : ByteArray := ⟨#[111, 112, 116, 105, 111, 110, 97, 108]⟩
def kRepeated : ByteArray := ⟨#[114, 101, 112, 101, 97, 116, 101, 100]⟩
def kSemi : ByteArray := ⟨#[59]⟩
def kOpen : ByteArray := ⟨#[123]⟩
def kShut : ByteArray := ⟨#[125]⟩
def kPar : ByteArray := ⟨#[40]⟩
def kRap : ByteArray := ⟨#[41]⟩
def kEq : ByteArray := ⟨#[61]⟩
def kComma : ByteArray := ⟨#[44]⟩
/-- A scalar type's kind; 0: it is none. -/
def scalN (t : ByteArray) : Nat := if t.data.toList = [105, 110, 116, 51, 50] then 1 else if t.data.toList = [105, 110, 116, 54, 52] then 2 else if t.data.toList = [98, 111, 111, 108] then 3 else if t.data.toList = [116, 101, 120, 116] then 4 else if t.data.toList = [98, 121, 116, 101, 115] then 5 else 0

/-- Numbers, behind the first one. -/
def pMore : Nat → List Int → List ByteArray → PR (List Int)
  | 0, acc, ts => pBind (pMust kSemi ts) fun _ r => .inr (acc, r)
  | f + 1, acc, ts => if pIs kComma ts = true then pBind (pNum ts.tail) fun n r => pMore f (acc ++ [(n : Int)]) r else pBind (pMust kSemi ts) fun _ r => .inr (acc, r)
def pLabel (ts : List ByteArray) : Int × List ByteArray := if pIs kOptional ts = true then (2, ts.tail) else if pIs kRepeated ts = true then (3, ts.tail) else (1, ts)
def pType (ts : List ByteArray) : PR (Int × ByteArray) := match ts with
  | [] => .inl 0
  | t :: r => if 0 < scalN t then .inr (((scalN t : Nat), ⟨#[]⟩), r) else pBind (pName ts) fun n r => .inr ((0, n), r)
def pField (ts : List ByteArray) : PR FlS :=
  pBind (pType (pLabel ts).2) fun ty r1 => pBind (pName r1) fun n r2 => pBind (pMust kEq r2) fun _ r3 => pBind (pNum r3) fun g r4 => pBind (pMust kSemi r4) fun _ r5 => .inr (⟨n, g, (pLabel ts).1, ty.1, ty.2⟩, r5)
/-- A field, or a line of reserved numbers. -/
def pMember (m : MsS) (ts : List ByteArray) : PR MsS :=
  if pIs kReserved ts = true then pBind (pNum ts.tail) fun n r => pBind (pMore r.length (m.reserved ++ [(n : Int)]) r) fun l r2 => .inr (⟨m.name, m.fields, l⟩, r2)
  else pBind (pField ts) fun f r => .inr (⟨m.name, m.fields ++ [f], m.reserved⟩, r)
def pMembers : Nat → MsS → List ByteArray → PR MsS
  | 0, _, ts => .inl ts.length
  | f + 1, m, ts => if pIs kShut ts = true then .inr (m, ts.tail) else pBind (pMember m ts) fun m' r => pMembers f m' r
def pMsg (ts : List ByteArray) : PR MsS := pBind (pName ts) fun n r => pBind (pMust kOpen r) fun _ r2 => pMembers (r2.length + 1) ⟨n, [], []⟩ r2
def pValue (ts : List ByteArray) : PR NmS := pBind (pName ts) fun n r => pBind (pMust kEq r) fun _ r2 => pBind (pNum r2) fun v r3 => pBind (pMust kSemi r3) fun _ r4 => .inr (⟨n, v⟩, r4)
def pValues : Nat → EnS → List ByteArray → PR EnS
  | 0, _, ts => .inl ts.length
  | f + 1, m, ts => if pIs kShut ts = true then .inr (m, ts.tail) else pBind (pValue ts) fun v r => pValues f ⟨m.name, m.values ++ [v]⟩ r
def pEnum (ts : List ByteArray) : PR EnS := pBind (pName ts) fun n r => pBind (pMust kOpen r) fun _ r2 => pValues (r2.length + 1) ⟨n, []⟩ r2
def pCall (ts : List ByteArray) : PR MtS :=
  pBind (pName ts) fun n r => pBind (pMust kPar r) fun _ r => pBind (pName r) fun i r => pBind (pMust kRap r) fun _ r => pBind (pMust kReturns r) fun _ r => pBind (pMust kPar r) fun _ r => pBind (pName r) fun o r => pBind (pMust kRap r) fun _ r => pBind (pMust kSemi r) fun _ r => .inr (⟨n, i, o⟩, r)
def pDecl (s : ScS) (ts : List ByteArray) : PR ScS :=
  if pIs kMessage ts = true then pBind (pMsg ts.tail) fun m r => .inr (⟨s.name, s.msgs ++ [m], s.enums, s.methods⟩, r)
  else if pIs kEnum ts = true then pBind (pEnum ts.tail) fun m r => .inr (⟨s.name, s.msgs, s.enums ++ [m], s.methods⟩, r)
  else if pIs kCall ts = true then pBind (pCall ts.tail) fun m r => .inr (⟨s.name, s.msgs, s.enums, s.methods ++ [m]⟩, r)
  else .inl ts.length
def pDecls : Nat → ScS → List ByteArray → PR ScS
  | 0, s, ts => .inr (s, ts)
  | f + 1, s, ts => if ts.isEmpty = true then .inr (s, []) else pBind (pDecl s ts) fun s' r => pDecls f s' r
def pText (ts : List ByteArray) : PR ScS := pBind (pMust kSchema ts) fun _ r => pBind (pName r) fun n r2 => pBind (pMust kSemi r2) fun _ r3 => pDecls r3.length ⟨n, [], [], []⟩ r3
/-- Which name is an enumeration's. -/
def kindF (es : List EnS) (f : FlS) : FlS := if f.kind = 0 then ⟨f.name, f.tag, f.label, if es.any (fun e => e.name.data.toList == f.tname.data.toList) = true then 6 else 7, f.tname⟩ else f
def kindM (es : List EnS) (m : MsS) : MsS := ⟨m.name, m.fields.map (kindF es), m.reserved⟩
def kindS (s : ScS) : ScS := ⟨s.name, s.msgs.map (kindM s.enums), s.enums, s.methods⟩
/-- Where a piece begins, so many from the end. -/
def placeN (l : List Tk) (size left : Nat) : Nat := match l[l.length - left]? with
  | none => size
  | some t => t.pos
/-- What Parse answers: the schema, the place, the error. -/
def parseA (s : ByteArray) : ScS × Nat × Nat :=
  if (tokA s).2.2 ≠ 0 then (zeroS, (tokA s).2.1, (tokA s).2.2) else match pText ((tokA s).1.map Tk.bytes) with
    | .inl n => (zeroS, placeN (tokA s).1 s.size n, 5)
    | .inr (x, _) => (kindS x, 0, 0)

/-- Reading never makes more of it. -/
def Shrinks {α : Type} (x : PR α) (n : Nat) : Prop := (∀ k, x = .inl k → k ≤ n) ∧ ∀ a r, x = .inr (a, r) → r.length ≤ n
theorem pBind_ok {α β : Type} {a : α} {r : List ByteArray} (f : α → List ByteArray → PR β) : pBind (.inr (a, r)) f = f a r := rfl
theorem pBind_no {α β : Type} (n : Nat) (f : α → List ByteArray → PR β) : pBind (.inl n : PR α) f = .inl n := rfl
theorem shrinks_bind {α β : Type} {x : PR α} {f : α → List ByteArray → PR β} {n : Nat} (h : Shrinks x n) (hf : ∀ a r, x = .inr (a, r) → Shrinks (f a r) r.length) : Shrinks (pBind x f) n := by
  cases x with
  | inl k => exact ⟨fun k' hk => by simp [pBind] at hk; subst hk; exact h.1 k rfl, fun a r hr => by simp [pBind] at hr⟩
  | inr x =>
    obtain ⟨a, r⟩ := x
    have h1 := h.2 a r rfl
    have h2 := hf a r rfl
    exact ⟨fun k hk => Nat.le_trans (h2.1 k hk) h1, fun b r' hr => Nat.le_trans (h2.2 b r' hr) h1⟩
theorem pIs_cons {k : ByteArray} {ts : List ByteArray} (h : pIs k ts = true) : ∃ t r, ts = t :: r ∧ t.data.toList = k.data.toList := by
  cases ts with
  | nil => simp [pIs] at h
  | cons t r => exact ⟨t, r, rfl, by simpa [pIs] using h⟩
theorem pMust_sh (k : ByteArray) (ts : List ByteArray) : Shrinks (pMust k ts) ts.length := by
  unfold pMust
  split
  · exact ⟨fun k hk => by simp at hk, fun a r hr => by simp at hr; rw [← hr]; simp⟩
  · exact ⟨fun k hk => by simp at hk; omega, fun a r hr => by simp at hr⟩
theorem pName_sh (ts : List ByteArray) : Shrinks (pName ts) ts.length := by
  unfold pName
  cases ts with
  | nil => exact ⟨fun k hk => by simp at hk; omega, fun a r hr => by simp at hr⟩
  | cons t r =>
    simp only
    split
    · exact ⟨fun k hk => by simp at hk, fun a r hr => by simp at hr; rw [← hr.2]; simp⟩
    · exact ⟨fun k hk => by simp at hk; simp; omega, fun a r hr => by simp at hr⟩
theorem pNum_sh (ts : List ByteArray) : Shrinks (pNum ts) ts.length := by
  unfold pNum
  cases ts with
  | nil => exact ⟨fun k hk => by simp at hk; omega, fun a r hr => by simp at hr⟩
  | cons t r =>
    simp only
    split
    · exact ⟨fun k hk => by simp at hk, fun a r hr => by simp at hr; rw [← hr.2]; simp⟩
    · exact ⟨fun k hk => by simp at hk; simp; omega, fun a r hr => by simp at hr⟩
end Go.Proofs.YtkfhlgajeejgeaaGreatDoor

/- The state of a reading: the pieces that are left, or how many were left where one did not fit. -/
namespace Go.Proofs.YtkfhlgajeejgeaaGreatDoor
open Go.RowKit
set_option linter.unusedVariables false
set_option linter.unusedSimpArgs false
set_option maxRecDepth 20000

abbrev Sg := Sum Nat (List ByteArray)
def stX {α : Type} (x : PR α) : Sg := match x with
  | .inl n => .inl n
  | .inr (_, r) => .inr r
def pOn {α : Type} (σ : Sg) (f : List ByteArray → PR α) : PR α := match σ with
  | .inl n => .inl n
  | .inr r => f r
/-- What is answered; the stand-in where nothing is. -/
def res {α : Type} (d : α) (x : PR α) : α := match x with
  | .inl _ => d
  | .inr (a, _) => a
def Res {α : Type} (x : PR α) (a : α) : Prop := ∀ b r, x = .inr (b, r) → a = b
def noT : ByteArray := ⟨#[]⟩
def badS (σ : Sg) : Bool := match σ with
  | .inl _ => true
  | .inr _ => false
def leftS (σ : Sg) : Nat := match σ with
  | .inl n => n
  | .inr r => r.length
def headS (σ : Sg) : ByteArray := match σ with
  | .inl _ => noT
  | .inr [] => noT
  | .inr (t :: _) => t
theorem stX_inl {α : Type} (n : Nat) : stX (.inl n : PR α) = .inl n := rfl
theorem stX_inr {α : Type} (a : α) (r : List ByteArray) : stX (.inr (a, r) : PR α) = .inr r := rfl
theorem pOn_inl {α : Type} (n : Nat) (f : List ByteArray → PR α) : pOn (.inl n) f = .inl n := rfl
theorem pOn_inr {α : Type} (r : List ByteArray) (f : List ByteArray → PR α) : pOn (.inr r) f = f r := rfl
theorem Res.no {α : Type} {n : Nat} {a : α} : Res (.inl n) a := fun b r h => by cases h
theorem Res.yes {α : Type} {a : α} {r : List ByteArray} : Res (.inr (a, r)) a := fun b r' h => by simp at h; exact h.1
/-- One of these words, where it stands: no fault if not. -/
def pTake (ws : List ByteArray) (ts : List ByteArray) : PR ByteArray := match ts with
  | [] => .inr (noT, [])
  | t :: r => if ws.any (fun k => k.data.toList == t.data.toList) = true then .inr (t, r) else .inr (noT, t :: r)
/-- One of these words, which must stand. -/
def pOne (ws : List ByteArray) (ts : List ByteArray) : PR ByteArray := match ts with
  | [] => .inl 0
  | t :: r => if ws.any (fun k => k.data.toList == t.data.toList) = true then .inr (t, r) else .inl (r.length + 1)
theorem ba_eq {a b : ByteArray} : a.data.toList = b.data.toList ↔ a = b := by
  constructor
  · intro h; obtain ⟨⟨x⟩⟩ := a; obtain ⟨⟨y⟩⟩ := b; simp only at h; rw [h]
  · intro h; rw [h]
theorem must_cons (k t : ByteArray) (r : List ByteArray) : pMust k (t :: r) = if t.data.toList = k.data.toList then .inr ((), r) else .inl (r.length + 1) := by
  unfold pMust pIs
  by_cases h : t.data.toList = k.data.toList
  · rw [if_pos h]; simp only [h, beq_self_eq_true, if_true, List.tail_cons]
  · rw [if_neg h]
    have h2 : (t.data.toList == k.data.toList) = false := by rw [beq_eq_false_iff_ne]; exact h
    simp only [h2, Bool.false_eq_true, if_false, List.length_cons]
theorem is_cons (k t : ByteArray) (r : List ByteArray) : (pIs k (t :: r) = true) = (t.data.toList = k.data.toList) := by
  unfold pIs
  exact propext beq_iff_eq
theorem one_must (k : ByteArray) (σ : Sg) : stX (pOn σ (pOne [k])) = stX (pOn σ (pMust k)) := by
  cases σ with
  | inl n => rfl
  | inr r =>
    simp only [pOn]
    cases r with
    | nil => simp [pOne, pMust, pIs, stX]
    | cons t r =>
      rw [must_cons]
      by_cases h : t.data.toList = k.data.toList
      · rw [if_pos h]
        simp [pOne, h, stX]
      · rw [if_neg h]
        have h' : ¬ k.data.toList = t.data.toList := fun e => h e.symm
        have h2 : (k.data.toList == t.data.toList) = false := by rw [beq_eq_false_iff_ne]; exact h'
        simp only [pOne, List.any_cons, List.any_nil, h2, Bool.or_false, Bool.false_eq_true, if_false]
        rfl
/-- A name and its number. -/
theorem value_st (σ : Sg) : stX (pOn (stX (pOn (stX (pOn (stX (pOn σ pName)) (pMust kEq))) pNum)) (pMust kSemi)) = stX (pOn σ pValue) ∧
    Res (pOn σ pValue) ⟨res noT (pOn σ pName), (res 0 (pOn (stX (pOn (stX (pOn σ pName)) (pMust kEq))) pNum) : Nat)⟩ := by
  cases σ with
  | inl n => exact ⟨rfl, Res.no⟩
  | inr r =>
    simp only [pOn, pValue]
    cases h1 : pName r with
    | inl n => exact ⟨rfl, Res.no⟩
    | inr x =>
      obtain ⟨a, r1⟩ := x
      simp only [stX, pBind, res]
      cases h2 : pMust kEq r1 with
      | inl n => exact ⟨rfl, Res.no⟩
      | inr x =>
        obtain ⟨_, r2⟩ := x
        simp only [stX, pBind, res]
        cases h3 : pNum r2 with
        | inl n => exact ⟨rfl, Res.no⟩
        | inr x =>
          obtain ⟨v, r3⟩ := x
          simp only [stX, pBind, res]
          cases h4 : pMust kSemi r3 with
          | inl n => exact ⟨rfl, Res.no⟩
          | inr x => obtain ⟨_, r4⟩ := x; exact ⟨rfl, Res.yes⟩
end Go.Proofs.YtkfhlgajeejgeaaGreatDoor
