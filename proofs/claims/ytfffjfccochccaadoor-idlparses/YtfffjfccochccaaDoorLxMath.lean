/- Plain facts on texts: blanks, comments, words, numbers and signs; the pieces of a text, one behind the other. -/
import Derived.Test.YtfffjfccochccaaDoorRuJoin
namespace Go.Proofs.YtfffjfccochccaaDoor
open Go.RowKit
set_option linter.unusedVariables false
set_option linter.unusedSimpArgs false
set_option maxRecDepth 20000

def blankB (a : UInt8) : Bool := decide (a.toNat = 32 ∨ a.toNat = 9 ∨ a.toNat = 13 ∨ a.toNat = 10)
def headN (l : List UInt8) : Nat := match l with
  | [] => 0
  | a :: _ => a.toNat
/-- How many bytes are blanks and comments; whether one is in a comment already. -/
def skipG : Bool → List UInt8 → Nat
  | _, [] => 0
  | true, a :: r => if a.toNat = 10 then 1 + skipG false r else 1 + skipG true r
  | false, a :: r => if blankB a = true then 1 + skipG false r else if a.toNat = 47 ∧ headN r = 47 then 1 + skipG true r else 0
def skipN (l : List UInt8) : Nat := skipG false l
/-- How many bytes there are to the byte 10. -/
def lineN : List UInt8 → Nat
  | [] => 0
  | a :: r => if a.toNat = 10 then 0 else 1 + lineN r

theorem skipG_line (l : List UInt8) : skipG true l = lineN l + skipG false (l.drop (lineN l)) := by
  induction l with
  | nil => rfl
  | cons a r ih =>
    by_cases h : a.toNat = 10
    · simp [skipG, lineN, h, blankB]
    · simp only [skipG, lineN, if_neg h, ih]
      rw [Nat.add_comm 1 (lineN r), List.drop_succ_cons]; omega
theorem lineN_le (l : List UInt8) : lineN l ≤ l.length := by
  induction l with
  | nil => simp [lineN]
  | cons a r ih => simp only [lineN, List.length_cons]; split <;> omega
theorem skipG_le (l : List UInt8) : ∀ b, skipG b l ≤ l.length := by
  induction l with
  | nil => intro b; cases b <;> simp [skipG]
  | cons a r ih =>
    intro b
    have h1 := ih true
    have h2 := ih false
    cases b <;> simp only [skipG, List.length_cons]
    · split
      · omega
      · split <;> omega
    · split <;> omega
theorem skipN_le (l : List UInt8) : skipN l ≤ l.length := skipG_le l false
theorem skipN_nil : skipN [] = 0 := rfl
theorem skipN_blank {l : List UInt8} {a : UInt8} {r : List UInt8} (h : l = a :: r) (hb : blankB a = true) : skipN l = 1 + skipN (l.drop 1) := by
  subst h; simp [skipN, skipG, hb]
theorem skipN_slash {l : List UInt8} (h : [47, 47].isPrefixOf l = true) : skipN l = lineN l + skipN (l.drop (lineN l)) ∧ 2 ≤ lineN l := by
  match l with
  | [] => simp [List.isPrefixOf] at h
  | [a] => simp [List.isPrefixOf] at h
  | a :: b :: r =>
    simp [List.isPrefixOf] at h
    obtain ⟨rfl, rfl⟩ := h
    constructor
    · have h2 := skipG_line (47 :: r)
      simp only [skipN, skipG, lineN, headN, blankB] at h2 ⊢
      simp at h2 ⊢
      rw [h2]
      have e : (47 :: 47 :: r : List UInt8).drop (1 + (1 + lineN r)) = (47 :: r : List UInt8).drop (1 + lineN r) := by rw [Nat.add_comm 1 (1 + lineN r), List.drop_succ_cons]
      rw [e]; omega
    · simp [lineN]; omega
theorem skipN_none {l : List UInt8} {a : UInt8} {r : List UInt8} (h : l = a :: r) (hb : blankB a = false) (hs : [47, 47].isPrefixOf l = false) : skipN l = 0 := by
  subst h
  simp only [skipN, skipG, hb]
  rw [if_neg (by simp), if_neg]
  rintro ⟨h1, h2⟩
  match r, h2 with
  | [], h2 => simp [headN] at h2
  | b :: r', h2 =>
    simp only [headN] at h2
    have ea : a = 47 := UInt8.toNat_inj.1 (by rw [h1]; rfl)
    have eb : b = 47 := UInt8.toNat_inj.1 (by rw [h2]; rfl)
    subst ea eb
    simp [List.isPrefixOf] at hs
theorem skipG_again (l : List UInt8) : ∀ b, skipG false (l.drop (skipG b l)) = 0 := by
  induction l with
  | nil => intro b; cases b <;> rfl
  | cons a r ih =>
    intro b
    cases b
    · simp only [skipG]
      split
      · rw [Nat.add_comm, List.drop_succ_cons]; exact ih false
      · rename_i h1
        split
        · rw [Nat.add_comm, List.drop_succ_cons]; exact ih true
        · rename_i h2
          rw [List.drop_zero]; simp only [skipG]; rw [if_neg h1, if_neg h2]
    · simp only [skipG]
      split
      · rw [Nat.add_comm, List.drop_succ_cons]; exact ih false
      · rw [Nat.add_comm, List.drop_succ_cons]; exact ih true
theorem skipN_again (l : List UInt8) : skipN (l.drop (skipN l)) = 0 := skipG_again l false
theorem skipG_take (l : List UInt8) : ∀ b, skipG b (l.take (skipG b l)) = skipG b l := by
  induction l with
  | nil => intro b; cases b <;> rfl
  | cons a r ih =>
    intro b
    cases b
    · simp only [skipG]
      split
      · rename_i h1
        rw [Nat.add_comm, List.take_succ_cons]
        simp only [skipG]; rw [if_pos h1, ih false]; omega
      · rename_i h1
        split
        · rename_i h2
          rw [Nat.add_comm, List.take_succ_cons]
          simp only [skipG]
          rw [if_neg h1, if_pos, ih true]
          · omega
          · refine ⟨h2.1, ?_⟩
            match r, h2.2 with
            | [], h => simp [headN] at h
            | b' :: r', h =>
              have : 1 ≤ skipG true (b' :: r') := by simp only [skipG]; split <;> omega
              obtain ⟨k, hk⟩ := Nat.exists_eq_add_of_le' this
              rw [hk, List.take_succ_cons]; exact h
        · rfl
    · simp only [skipG]
      split
      · rename_i h1
        rw [Nat.add_comm, List.take_succ_cons]
        simp only [skipG]; rw [if_pos h1, ih false]; omega
      · rename_i h1
        rw [Nat.add_comm, List.take_succ_cons]
        simp only [skipG]; rw [if_neg h1, ih true]; omega
theorem skipN_take (l : List UInt8) : skipN (l.take (skipN l)) = skipN l := skipG_take l false
theorem headN_app {a : List UInt8} (h : a ≠ []) (b : List UInt8) : headN (a ++ b) = headN a := by
  match a, h with
  | x :: r, _ => rfl
/-- A gap ahead of something that is none: what follows may be another thing. -/
theorem skipG_swap (g : List UInt8) : ∀ (b : Bool) (r : List UInt8), r ≠ [] → skipG b (g ++ r) = g.length → ∀ t, skipG b (g ++ t) = g.length + skipG false t := by
  induction g with
  | nil =>
    intro b r hr h t
    match r, hr with
    | a :: r', _ =>
      cases b
      · simp
      · simp only [List.nil_append, skipG, List.length_nil] at h
        split at h <;> omega
  | cons a g ih =>
    intro b r hr h t
    simp only [List.cons_append, List.length_cons] at h ⊢
    cases b
    · simp only [skipG] at h ⊢
      by_cases h1 : blankB a = true
      · rw [if_pos h1] at h ⊢
        rw [ih false r hr (by omega) t]; omega
      · rw [if_neg h1] at h ⊢
        by_cases h2 : a.toNat = 47 ∧ headN (g ++ r) = 47
        · rw [if_pos h2] at h
          match g, ih with
          | [], ih =>
            match r, hr with
            | a' :: r', _ =>
              simp only [List.nil_append, skipG, List.length_nil] at h
              split at h <;> omega
          | x :: g', ih =>
            rw [if_pos ⟨h2.1, by rw [headN_app (by simp)]; have := h2.2; rwa [headN_app (by simp)] at this⟩, ih true r hr (by omega) t]; omega
        · rw [if_neg h2] at h; omega
    · simp only [skipG] at h ⊢
      by_cases h1 : a.toNat = 10
      · rw [if_pos h1] at h ⊢
        rw [ih false r hr (by omega) t]; omega
      · rw [if_neg h1] at h ⊢
        rw [ih true r hr (by omega) t]; omega
/-- A gap to the end, and the byte 10 behind it. -/
theorem skipG_join (g : List UInt8) : ∀ (b : Bool), skipG b g = g.length → ∀ t, skipG b (g ++ 10 :: t) = g.length + 1 + skipG false t := by
  induction g with
  | nil =>
    intro b h t
    cases b <;> simp [skipG, blankB]
  | cons a g ih =>
    intro b h t
    simp only [List.cons_append, List.length_cons] at h ⊢
    cases b
    · simp only [skipG] at h ⊢
      by_cases h1 : blankB a = true
      · rw [if_pos h1] at h ⊢
        rw [ih false (by omega) t]; omega
      · rw [if_neg h1] at h ⊢
        by_cases h2 : a.toNat = 47 ∧ headN g = 47
        · rw [if_pos h2] at h
          rw [if_pos ⟨h2.1, by rw [headN_app (by intro e; subst e; simp [headN] at h2)]; exact h2.2⟩, ih true (by omega) t]; omega
        · rw [if_neg h2] at h; omega
    · simp only [skipG] at h ⊢
      by_cases h1 : a.toNat = 10
      · rw [if_pos h1] at h ⊢
        rw [ih false (by omega) t]; omega
      · rw [if_neg h1] at h ⊢
        rw [ih true (by omega) t]; omega

/-- What a rune begins: a word 1, a number 2, a sign 3, nothing 0. -/
def signB (c : Nat) : Bool := decide (c = 123 ∨ c = 125 ∨ c = 40 ∨ c = 41 ∨ c = 59 ∨ c = 61 ∨ c = 44)
def kindN (c : Nat) : Nat := if letB c = true then 1 else if digB c = true then 2 else if signB c = true then 3 else 0
def goesB (k c : Nat) : Bool := (k == 1 && (letB c || digB c)) || (k == 2 && digB c)
def goN : Nat → Nat → List UInt8 → Nat
  | 0, _, _ => 0
  | f + 1, k, l => match nxL l with
    | none => 0
    | some (c, m) => if goesB k c = true then m + goN f k (l.drop m) else 0
def runN (k : Nat) (l : List UInt8) : Nat := goN l.length k l
def contB (k : Nat) (l : List UInt8) : Bool := match nxL l with
  | none => false
  | some (c, _) => goesB k c
theorem nx_len {l : List UInt8} {c m : Nat} (h : nxL l = some (c, m)) : 1 ≤ m ∧ m ≤ l.length := by
  obtain ⟨_, _, _, h4, h5, _⟩ := nxL_some _ _ _ h
  exact ⟨h4, h5⟩
theorem goN_fuel (k f : Nat) : ∀ (g : Nat) (l : List UInt8), l.length ≤ f → l.length ≤ g → goN f k l = goN g k l := by
  induction f with
  | zero =>
    intro g l h1 _
    have : l = [] := List.length_eq_zero_iff.1 (by omega)
    subst this
    cases g <;> simp [goN, nxL]
  | succ f ih =>
    intro g l h1 h2
    cases g with
    | zero =>
      have : l = [] := List.length_eq_zero_iff.1 (by omega)
      subst this
      simp [goN, nxL]
    | succ g =>
      simp only [goN]
      cases e : nxL l with
      | none => rfl
      | some x =>
        obtain ⟨c, m⟩ := x
        obtain ⟨h4, h5⟩ := nx_len e
        simp only
        rw [ih g (l.drop m) (by rw [List.length_drop]; omega) (by rw [List.length_drop]; omega)]
theorem runN_stop0 {k : Nat} {l : List UInt8} (h : contB k l = false) : runN k l = 0 := by
  unfold runN
  cases e : l.length with
  | zero => rfl
  | succ f =>
    simp only [goN]
    unfold contB at h
    cases e2 : nxL l with
    | none => rfl
    | some x =>
      obtain ⟨c, m⟩ := x
      rw [e2] at h
      simp only at h ⊢
      rw [h]; rfl
theorem runN_yes {k c m : Nat} {l : List UInt8} (h : nxL l = some (c, m)) (hg : goesB k c = true) : runN k l = m + runN k (l.drop m) := by
  obtain ⟨h4, h5⟩ := nx_len h
  unfold runN
  cases e : l.length with
  | zero => omega
  | succ f =>
    simp only [goN, h]
    rw [if_pos hg, goN_fuel k f (l.drop m).length (l.drop m) (by rw [List.length_drop]; omega) (Nat.le_refl _)]
theorem contB_yes {k c m : Nat} {l : List UInt8} (h : nxL l = some (c, m)) : contB k l = goesB k c := by unfold contB; rw [h]
theorem contB_none {k : Nat} {l : List UInt8} (h : nxL l = none) : contB k l = false := by unfold contB; rw [h]
theorem nx_take {l l' : List UInt8} {c m : Nat} (h : nxL l = some (c, m)) (ht : l'.take m = l.take m) : nxL l' = some (c, m) := by
  obtain ⟨h1, h2, h3, _⟩ := nxL_some l c m h
  have e : l' = (Utf8.encode c).data.toList ++ l'.drop m := by rw [h2, ← ht, List.take_append_drop]
  rw [e, nxL_encode c h1, h3]
theorem runN_le (k : Nat) (f : Nat) : ∀ l : List UInt8, l.length ≤ f → runN k l ≤ l.length ∧ contB k (l.drop (runN k l)) = false := by
  induction f with
  | zero =>
    intro l hl
    have : l = [] := List.length_eq_zero_iff.1 (by omega)
    subst this
    exact ⟨Nat.le_refl _, rfl⟩
  | succ f ih =>
    intro l hl
    cases e : contB k l with
    | false => rw [runN_stop0 e]; exact ⟨Nat.zero_le _, e⟩
    | true =>
      cases e2 : nxL l with
      | none => rw [contB_none e2] at e; cases e
      | some x =>
        obtain ⟨c, m⟩ := x
        obtain ⟨h4, h5⟩ := nx_len e2
        rw [contB_yes e2] at e
        rw [runN_yes e2 e]
        have := ih (l.drop m) (by rw [List.length_drop]; omega)
        rw [List.length_drop, List.drop_drop] at this
        exact ⟨by omega, this.2⟩
theorem runN_len (k : Nat) (l : List UInt8) : runN k l ≤ l.length := (runN_le k l.length l (Nat.le_refl _)).1
theorem runN_end (k : Nat) (l : List UInt8) : contB k (l.drop (runN k l)) = false := (runN_le k l.length l (Nat.le_refl _)).2
theorem runN_swap (k : Nat) (f : Nat) : ∀ l : List UInt8, l.length ≤ f → ∀ l' : List UInt8, l'.take (runN k l) = l.take (runN k l) → contB k (l'.drop (runN k l)) = false → runN k l' = runN k l := by
  induction f with
  | zero =>
    intro l hl l' h1 h2
    have : l = [] := List.length_eq_zero_iff.1 (by omega)
    subst this
    have e : runN k [] = 0 := rfl
    rw [e] at h2 ⊢
    exact runN_stop0 h2
  | succ f ih =>
    intro l hl l' h1 h2
    cases e : contB k l with
    | false =>
      rw [runN_stop0 e] at h2 ⊢
      exact runN_stop0 h2
    | true =>
      cases e2 : nxL l with
      | none => rw [contB_none e2] at e; cases e
      | some x =>
        obtain ⟨c, m⟩ := x
        obtain ⟨h4, h5⟩ := nx_len e2
        rw [contB_yes e2] at e
        rw [runN_yes e2 e] at h1 h2 ⊢
        have ht : l'.take m = l.take m := by
          have := congrArg (List.take m) h1
          simpa [List.take_take] using this
        rw [runN_yes (nx_take e2 ht) e]
        rw [ih (l.drop m) (by rw [List.length_drop]; omega) (l'.drop m) ?_ (by rw [List.drop_drop]; exact h2)]
        have := congrArg (List.drop m) h1
        simpa [List.drop_take] using this

/-- A piece: what it is, its text, where it begins. -/
structure Tk where
  kind : Nat
  text : List UInt8
  pos : Nat

abbrev LexA := Sum (Nat × Nat) (List Tk)
def consA (t : Tk) : LexA → LexA
  | .inl e => .inl e
  | .inr ts => .inr (t :: ts)
def catA (acc : List Tk) : LexA → LexA
  | .inl e => .inl e
  | .inr ts => .inr (acc ++ ts)
/-- How long the piece is that begins with a rune of kind k and m bytes. -/
def pieceN (k m : Nat) (l : List UInt8) : Nat := m + runN k (l.drop m)
def lexF : Nat → List UInt8 → Nat → LexA
  | 0, _, _ => .inr []
  | f + 1, l, p => if (l.drop (skipN l)).isEmpty = true then .inr [] else match nxL (l.drop (skipN l)) with
    | none => .inl (p + skipN l, 9)
    | some (c, m) => if kindN c = 0 then .inl (p + skipN l, 5) else
      consA ⟨kindN c, (l.drop (skipN l)).take (pieceN (kindN c) m (l.drop (skipN l))), p + skipN l⟩
        (lexF f ((l.drop (skipN l)).drop (pieceN (kindN c) m (l.drop (skipN l)))) (p + skipN l + pieceN (kindN c) m (l.drop (skipN l))))
def lexO (l : List UInt8) (p : Nat) : LexA := lexF l.length l p

theorem piece_bd {k c m : Nat} {l : List UInt8} (h : nxL l = some (c, m)) : 1 ≤ pieceN k m l ∧ pieceN k m l ≤ l.length ∧ m ≤ pieceN k m l := by
  obtain ⟨h4, h5⟩ := nx_len h
  have := runN_len k (l.drop m)
  rw [List.length_drop] at this
  unfold pieceN
  omega
theorem lexF_fuel (f : Nat) : ∀ (g : Nat) (l : List UInt8) (p : Nat), l.length ≤ f → l.length ≤ g → lexF f l p = lexF g l p := by
  induction f with
  | zero =>
    intro g l p h1 _
    have : l = [] := List.length_eq_zero_iff.1 (by omega)
    subst this
    cases g <;> simp [lexF, skipN_nil]
  | succ f ih =>
    intro g l p h1 h2
    cases g with
    | zero =>
      have : l = [] := List.length_eq_zero_iff.1 (by omega)
      subst this
      simp [lexF, skipN_nil]
    | succ g =>
      simp only [lexF]
      split
      · rfl
      · cases e : nxL (l.drop (skipN l)) with
        | none => rfl
        | some x =>
          obtain ⟨c, m⟩ := x
          obtain ⟨h4, h5, _⟩ := piece_bd (k := kindN c) e
          simp only
          split
          · rfl
          · rw [ih g _ _ (by rw [List.length_drop]; rw [List.length_drop] at h5 ⊢; omega) (by rw [List.length_drop]; rw [List.length_drop] at h5 ⊢; omega)]
theorem lexO_fin {l : List UInt8} (h : skipN l = l.length) (p : Nat) : lexO l p = .inr [] := by
  unfold lexO
  cases e : l.length with
  | zero => rfl
  | succ f => simp only [lexF]; rw [if_pos (by rw [h]; simp)]
theorem drop_ne {l : List UInt8} {n : Nat} (h : n < l.length) : (l.drop n).isEmpty = false := by
  cases e : l.drop n with
  | nil => have := congrArg List.length e; rw [List.length_drop] at this; simp at this; omega
  | cons a r => rfl
theorem lexO_text {l : List UInt8} (h : skipN l < l.length) (hn : nxL (l.drop (skipN l)) = none) (p : Nat) : lexO l p = .inl (p + skipN l, 9) := by
  unfold lexO
  cases e : l.length with
  | zero => omega
  | succ f => simp only [lexF]; rw [if_neg (by rw [drop_ne h]; simp), hn]
theorem lexO_syn {l : List UInt8} {c m : Nat} (hn : nxL (l.drop (skipN l)) = some (c, m)) (hk : kindN c = 0) (p : Nat) : lexO l p = .inl (p + skipN l, 5) := by
  have h := (nx_len hn)
  rw [List.length_drop] at h
  unfold lexO
  cases e : l.length with
  | zero => omega
  | succ f => simp only [lexF]; rw [if_neg (by rw [drop_ne (by omega)]; simp), hn]; simp only; rw [if_pos hk]
theorem lexO_tok {l : List UInt8} {c m : Nat} (hn : nxL (l.drop (skipN l)) = some (c, m)) (hk : kindN c ≠ 0) (p : Nat) :
    lexO l p = consA ⟨kindN c, (l.drop (skipN l)).take (pieceN (kindN c) m (l.drop (skipN l))), p + skipN l⟩
      (lexO (l.drop (skipN l + pieceN (kindN c) m (l.drop (skipN l)))) (p + skipN l + pieceN (kindN c) m (l.drop (skipN l)))) := by
  have h := (nx_len hn)
  have h2 := piece_bd (k := kindN c) hn
  rw [List.length_drop] at h h2
  unfold lexO
  cases e : l.length with
  | zero => omega
  | succ f =>
    simp only [lexF]
    rw [if_neg (by rw [drop_ne (by omega)]; simp), hn]
    simp only
    rw [if_neg hk, List.drop_drop, lexF_fuel f _ _ _ (by rw [List.length_drop]; omega) (Nat.le_refl _)]

/-- The step to the next piece. -/
def StepAt (l : List UInt8) (pos : Nat) (t : Tk) (e : Nat) : Prop := ∃ c m, t.pos = pos + skipN (l.drop pos) ∧ nxL (l.drop t.pos) = some (c, m) ∧ kindN c ≠ 0 ∧ t.kind = kindN c ∧
  t.text = (l.drop t.pos).take (pieceN t.kind m (l.drop t.pos)) ∧ e = t.pos + pieceN t.kind m (l.drop t.pos)
/-- Pieces, the last one first, up to a place. -/
def ReadR (l : List UInt8) : List Tk → Nat → Prop
  | [], pos => pos = 0
  | t :: r, e => ∃ pos, ReadR l r pos ∧ StepAt l pos t e
/-- These pieces are read up to that place. -/
def Read (l : List UInt8) (pos : Nat) (acc : List Tk) : Prop := ReadR l acc.reverse pos
theorem Read.start {l : List UInt8} : Read l 0 [] := rfl
theorem Read.step {l : List UInt8} {pos e : Nat} {acc : List Tk} {t : Tk} (h : Read l pos acc) (hs : StepAt l pos t e) : Read l e (acc ++ [t]) := by
  unfold Read
  rw [List.reverse_append]
  exact ⟨pos, h, hs⟩
theorem Read.inv {l : List UInt8} {pos : Nat} {acc : List Tk} (h : Read l pos acc) : (pos = 0 ∧ acc = []) ∨ ∃ p a t, Read l p a ∧ StepAt l p t pos ∧ acc = a ++ [t] := by
  unfold Read at h
  cases e : acc.reverse with
  | nil =>
    rw [e] at h
    exact .inl ⟨h, by simpa using e⟩
  | cons t r =>
    rw [e] at h
    obtain ⟨p, h1, h2⟩ := h
    refine .inr ⟨p, r.reverse, t, ?_, h2, ?_⟩
    · unfold Read; rwa [List.reverse_reverse]
    · rw [← List.reverse_reverse acc, e, List.reverse_cons]
theorem Read.ind {l : List UInt8} (M : Nat → List Tk → Prop) (h0 : M 0 []) (hs : ∀ pos acc t e, Read l pos acc → StepAt l pos t e → M pos acc → M e (acc ++ [t])) : ∀ (n : Nat) (acc : List Tk), acc.length = n → ∀ pos, Read l pos acc → M pos acc := by
  intro n
  induction n with
  | zero =>
    intro acc hn pos h
    rcases h.inv with ⟨rfl, rfl⟩ | ⟨p, a, t, _, _, rfl⟩
    · exact h0
    · simp at hn
  | succ n ih =>
    intro acc hn pos h
    rcases h.inv with ⟨rfl, rfl⟩ | ⟨p, a, t, h1, h2, rfl⟩
    · simp at hn
    · exact hs p a t pos h1 h2 (ih a (by simpa using hn) p h1)

theorem StepAt.bd {l : List UInt8} {pos e : Nat} {t : Tk} (h : StepAt l pos t e) : pos ≤ t.pos ∧ t.pos < e ∧ e ≤ l.length ∧ t.text.length = e - t.pos ∧ t.text = (l.drop t.pos).take (e - t.pos) ∧ t.kind ≤ 3 := by
  obtain ⟨c, m, h1, h2, h3, h4, h5, h6⟩ := h
  have hp := piece_bd (k := t.kind) h2
  rw [List.length_drop] at hp
  have e1 : e - t.pos = pieceN t.kind m (l.drop t.pos) := by omega
  refine ⟨by omega, by omega, by omega, ?_, by rw [e1]; exact h5, ?_⟩
  · rw [h5, List.length_take, List.length_drop]; omega
  · rw [h4]; unfold kindN; split
    · omega
    · split
      · omega
      · split <;> omega
theorem Read.bd {l : List UInt8} {pos : Nat} {acc : List Tk} (h : Read l pos acc) : pos ≤ l.length ∧ acc.length ≤ pos := by
  refine Read.ind (fun pos acc => pos ≤ l.length ∧ acc.length ≤ pos) ⟨Nat.zero_le _, Nat.le_refl _⟩ ?_ _ acc rfl pos h
  intro pos acc t e h hs ih
  have := hs.bd
  simp only [List.length_append, List.length_singleton]
  omega
theorem catA_nil (x : LexA) : catA [] x = x := by cases x <;> rfl
theorem catA_cons (acc : List Tk) (t : Tk) (x : LexA) : catA acc (consA t x) = catA (acc ++ [t]) x := by cases x <;> simp [catA, consA]
theorem step_lex {l : List UInt8} {pos e : Nat} {t : Tk} (h : StepAt l pos t e) : lexO (l.drop pos) pos = consA t (lexO (l.drop e) e) := by
  obtain ⟨c, m, h1, h2, h3, h4, h5, h6⟩ := h
  have e1 : (l.drop pos).drop (skipN (l.drop pos)) = l.drop t.pos := by rw [List.drop_drop, h1]
  rw [lexO_tok (l := l.drop pos) (by rw [e1]; exact h2) h3 pos, e1, ← h1, ← h4]
  have e2 : (l.drop pos).drop (skipN (l.drop pos) + pieceN t.kind m (l.drop t.pos)) = l.drop e := by
    rw [List.drop_drop, h6, h1, Nat.add_assoc]
  rw [e2, ← h6, ← h5]
theorem Read.rest {l : List UInt8} {pos : Nat} {acc : List Tk} (h : Read l pos acc) : lexO l 0 = catA acc (lexO (l.drop pos) pos) := by
  refine Read.ind (fun pos acc => lexO l 0 = catA acc (lexO (l.drop pos) pos)) ?_ ?_ _ acc rfl pos h
  · rw [catA_nil]; rfl
  · intro pos acc t e h hs ih
    rw [ih, step_lex hs, catA_cons]
theorem drop_to (l : List UInt8) (pos : Nat) : (l.drop pos).drop (skipN (l.drop pos)) = l.drop (pos + skipN (l.drop pos)) := by rw [List.drop_drop]
theorem Read.fin {l : List UInt8} {pos : Nat} {acc : List Tk} (h : Read l pos acc) (hf : pos + skipN (l.drop pos) = l.length) : lexO l 0 = .inr acc := by
  rw [h.rest, lexO_fin (by rw [List.length_drop]; omega)]
  simp [catA]
theorem Read.text {l : List UInt8} {pos : Nat} {acc : List Tk} (h : Read l pos acc) (hf : pos + skipN (l.drop pos) < l.length) (hn : nxL (l.drop (pos + skipN (l.drop pos))) = none) : lexO l 0 = .inl (pos + skipN (l.drop pos), 9) := by
  rw [h.rest, lexO_text (by rw [List.length_drop]; omega) (by rw [drop_to]; exact hn)]
  rfl
theorem Read.syn {l : List UInt8} {pos : Nat} {acc : List Tk} {c m : Nat} (h : Read l pos acc) (hn : nxL (l.drop (pos + skipN (l.drop pos))) = some (c, m)) (hk : kindN c = 0) : lexO l 0 = .inl (pos + skipN (l.drop pos), 5) := by
  rw [h.rest, lexO_syn (by rw [drop_to]; exact hn) hk]
  rfl
theorem Read.tok {l : List UInt8} {pos : Nat} {acc : List Tk} {c m : Nat} (h : Read l pos acc) (hn : nxL (l.drop (pos + skipN (l.drop pos))) = some (c, m)) (hk : kindN c ≠ 0) :
    Read l (pos + skipN (l.drop pos) + pieceN (kindN c) m (l.drop (pos + skipN (l.drop pos)))) (acc ++ [⟨kindN c, (l.drop (pos + skipN (l.drop pos))).take (pieceN (kindN c) m (l.drop (pos + skipN (l.drop pos)))), pos + skipN (l.drop pos)⟩]) :=
  h.step ⟨c, m, rfl, hn, hk, rfl, rfl, rfl⟩

/-- Where the reading ends. -/
def Ends (l : List UInt8) (pos : Nat) (x : LexA) (acc : List Tk) : Prop :=
  (pos + skipN (l.drop pos) = l.length ∧ x = .inr acc) ∨
  (pos + skipN (l.drop pos) < l.length ∧ nxL (l.drop (pos + skipN (l.drop pos))) = none ∧ x = .inl (pos + skipN (l.drop pos), 9)) ∨
  ∃ c m, nxL (l.drop (pos + skipN (l.drop pos))) = some (c, m) ∧ kindN c = 0 ∧ x = .inl (pos + skipN (l.drop pos), 5)
theorem read_ends (l : List UInt8) (f : Nat) : ∀ pos acc, l.length - pos ≤ f → Read l pos acc → ∃ pos' acc', Read l pos' acc' ∧ Ends l pos' (lexO l 0) acc' := by
  induction f with
  | zero =>
    intro pos acc hf h
    have hb := h.bd
    have : l.drop pos = [] := List.drop_eq_nil_of_le (by omega)
    have hz : pos + skipN (l.drop pos) = l.length := by rw [this, skipN_nil]; omega
    exact ⟨pos, acc, h, by rw [h.fin hz]; exact .inl ⟨hz, rfl⟩⟩
  | succ f ih =>
    intro pos acc hf h
    have hb := h.bd
    have hsk := skipN_le (l.drop pos)
    rw [List.length_drop] at hsk
    by_cases hz : pos + skipN (l.drop pos) = l.length
    · exact ⟨pos, acc, h, by rw [h.fin hz]; exact .inl ⟨hz, rfl⟩⟩
    · cases e : nxL (l.drop (pos + skipN (l.drop pos))) with
      | none => exact ⟨pos, acc, h, by rw [h.text (by omega) e]; exact .inr (.inl ⟨by omega, e, rfl⟩)⟩
      | some x =>
        obtain ⟨c, m⟩ := x
        by_cases hk : kindN c = 0
        · exact ⟨pos, acc, h, by rw [h.syn e hk]; exact .inr (.inr ⟨c, m, e, hk, rfl⟩)⟩
        · have hp := piece_bd (k := kindN c) e
          exact ih _ _ (by omega) (h.tok e hk)
theorem lex_ends (l : List UInt8) : ∃ pos acc, Read l pos acc ∧ Ends l pos (lexO l 0) acc := read_ends l l.length 0 [] (by omega) Read.start
theorem lex_ok {l : List UInt8} {ts : List Tk} (h : lexO l 0 = .inr ts) : ∃ pos, Read l pos ts ∧ pos + skipN (l.drop pos) = l.length := by
  obtain ⟨pos, acc, h1, h2⟩ := lex_ends l
  rw [h] at h2
  rcases h2 with ⟨h3, h4⟩ | ⟨_, _, h4⟩ | ⟨_, _, _, _, h4⟩
  · simp only [Sum.inr.injEq] at h4
    subst h4
    exact ⟨pos, h1, h3⟩
  · cases h4
  · cases h4
theorem Read.at {l : List UInt8} {pos : Nat} {acc : List Tk} (h : Read l pos acc) : ∀ (i : Nat) (t : Tk), acc[i]? = some t → ∃ p e, Read l p (acc.take i) ∧ StepAt l p t e ∧ Read l e (acc.take (i + 1)) ∧ e ≤ pos := by
  refine Read.ind (fun pos acc => ∀ (i : Nat) (t : Tk), acc[i]? = some t → ∃ p e, Read l p (acc.take i) ∧ StepAt l p t e ∧ Read l e (acc.take (i + 1)) ∧ e ≤ pos) ?_ ?_ _ acc rfl pos h
  · intro i t ht; simp at ht
  · intro pos acc t0 e0 h hs ih i t ht
    by_cases hi : i < acc.length
    · rw [List.getElem?_append_left hi] at ht
      obtain ⟨p, e, g1, g2, g3, g4⟩ := ih i t ht
      refine ⟨p, e, ?_, g2, ?_, ?_⟩
      · rwa [List.take_append_of_le_length (by omega)]
      · rwa [List.take_append_of_le_length (by omega)]
      · have := hs.bd; omega
    · have hl := (List.getElem?_eq_some_iff.1 ht).1
      rw [List.length_append, List.length_singleton] at hl
      obtain rfl : i = acc.length := by omega
      obtain rfl : t0 = t := by simpa using ht
      refine ⟨pos, e0, by simpa using h, hs, ?_, Nat.le_refl _⟩
      have := Read.step h hs
      rwa [List.take_of_length_le (by simp)]

/-- What the last piece is does not go on. -/
def Rests (acc : List Tk) (l : List UInt8) : Prop := ∀ t, acc.getLast? = some t → contB t.kind l = false
theorem contB_skip {k : Nat} {l : List UInt8} (h : 0 < skipN l) : contB k l = false := by
  match l with
  | [] => rfl
  | a :: r =>
    have ha : blankB a = true ∨ a.toNat = 47 := by
      simp only [skipN, skipG] at h
      split at h
      · left; assumption
      · split at h
        · rename_i h2; right; exact h2.1
        · omega
    have hn : a.toNat < 128 ∧ letB a.toNat = false ∧ digB a.toNat = false := by
      unfold blankB at ha
      simp only [decide_eq_true_eq] at ha
      unfold letB digB
      simp only [decide_eq_false_iff_not]
      omega
    rw [contB_yes (c := a.toNat) (m := 1) (by simp [nxL, hn.1])]
    simp [goesB, hn.2.1, hn.2.2]
theorem piece_stop {l : List UInt8} {pos e : Nat} {t : Tk} (h : StepAt l pos t e) : contB t.kind (l.drop e) = false := by
  obtain ⟨c, m, h1, h2, h3, h4, h5, h6⟩ := h
  have := runN_end t.kind ((l.drop t.pos).drop m)
  rw [List.drop_drop, List.drop_drop] at this
  rw [h6]
  unfold pieceN
  exact this
theorem take_drop_eq {l l' : List UInt8} {n : Nat} (h : l'.take n = l.take n) {a b : Nat} (hb : a + b ≤ n) : (l'.drop a).take b = (l.drop a).take b := by
  have := congrArg (fun x => (x.drop a).take b) h
  simp only [List.drop_take, List.take_take] at this
  rwa [Nat.min_eq_left (by omega)] at this
theorem skipN_pre {x y : List UInt8} {n : Nat} (h : skipN x = n) (hn : n < x.length) (ht : y.take n = x.take n) : skipN y = n + skipN (y.drop n) := by
  have e1 : x.take n ++ x.drop n = x := List.take_append_drop _ _
  have e2 : y = x.take n ++ y.drop n := by rw [← ht, List.take_append_drop]
  have hl : (x.take n).length = n := by rw [List.length_take]; omega
  have := skipG_swap (x.take n) false (x.drop n) (by intro e; have := congrArg List.length e; rw [List.length_drop] at this; simp at this; omega) (by rw [e1, hl]; exact h) (y.drop n)
  rw [← e2, hl] at this
  exact this
/-- The same bytes up to a place: the same pieces up to it. -/
theorem Read.move {l l' : List UInt8} {pos : Nat} {acc : List Tk} (h : Read l pos acc) : l'.take pos = l.take pos → Rests acc (l'.drop pos) → Read l' pos acc := by
  refine Read.ind (fun pos acc => l'.take pos = l.take pos → Rests acc (l'.drop pos) → Read l' pos acc) ?_ ?_ _ acc rfl pos h
  · intro _ _; exact Read.start
  · intro pos acc t e h hs ih ht hr
    have hb := hs.bd
    have hs' := hs
    obtain ⟨c, m, h1, h2, h3, h4, h5, h6⟩ := hs
    have hp := piece_bd (k := t.kind) h2
    have hp0 := h.bd
    -- the rune at the head
    have hn' : nxL (l'.drop t.pos) = some (c, m) := nx_take h2 (take_drop_eq ht (by omega))
    -- the gap
    have hg : skipN (l'.drop pos) = skipN (l.drop pos) + skipN ((l'.drop pos).drop (skipN (l.drop pos))) :=
      skipN_pre rfl (by rw [List.length_drop]; omega) (take_drop_eq ht (by omega))
    have hz : skipN ((l'.drop pos).drop (skipN (l.drop pos))) = 0 := by
      rw [List.drop_drop, ← h1]
      by_cases h0 : 0 < skipN (l'.drop t.pos)
      · exfalso
        have := contB_skip (k := kindN c) h0
        rw [contB_yes hn'] at this
        -- a rune of a kind; the kind is a sign
        have h00 : skipN (l.drop t.pos) = 0 := by
          have := skipN_again (l.drop pos)
          rwa [List.drop_drop, ← h1] at this
        match e1 : l'.drop t.pos, e2 : l.drop t.pos with
        | [], _ => rw [e1] at h0; simp [skipN_nil] at h0
        | a :: r, [] => rw [e2] at h2; simp [nxL] at h2
        | a :: r, b :: r' =>
          have hab : a = b := by
            have := take_drop_eq ht (a := t.pos) (b := 1) (by omega)
            rw [e1, e2] at this
            simpa using this
          subst hab
          rw [e1] at h0 hn'
          rw [e2] at h00
          have ha : a.toNat < 128 := by
            simp only [skipN, skipG] at h0
            split at h0
            · rename_i h9; unfold blankB at h9; simp only [decide_eq_true_eq] at h9; omega
            · split at h0 <;> omega
          have hc : c = a.toNat := by simp [nxL, ha] at hn'; omega
          simp only [skipN, skipG] at h0 h00
          split at h0
          · rename_i h9; rw [if_pos h9] at h00; omega
          · split at h0
            · rename_i h9
              apply h3
              rw [hc, h9.1]; decide
            · omega
      · omega
    have hsk : skipN (l'.drop pos) = skipN (l.drop pos) := by omega
    have hread : Read l' pos acc := by
      refine ih ?_ ?_
      · have := congrArg (List.take pos) ht
        rw [List.take_take, List.take_take, Nat.min_eq_left (by omega)] at this
        exact this
      · by_cases h0 : 0 < skipN (l'.drop pos)
        · intro t' _; exact contB_skip h0
        · intro t' ht'
          have hpz : pos = t.pos := by omega
          rw [hpz, contB_yes hn']
          -- what stood there in l
          rcases h.inv with ⟨_, rfl⟩ | ⟨p0, acc0, t0, hh, hs0, rfl⟩
          · simp at ht'
          · rw [List.getLast?_append] at ht'
            simp at ht'
            subst ht'
            have := piece_stop hs0
            rw [hpz, contB_yes h2] at this
            exact this
    refine Read.step hread ⟨c, m, by rw [hsk]; exact h1, hn', h3, h4, ?_, ?_⟩
    · have hq : pieceN t.kind m (l'.drop t.pos) = pieceN t.kind m (l.drop t.pos) := by
        unfold pieceN
        rw [runN_swap t.kind _ ((l.drop t.pos).drop m) (Nat.le_refl _)]
        · unfold pieceN at h6 hp
          rw [List.drop_drop, List.drop_drop]
          refine take_drop_eq ht ?_
          rw [List.drop_drop] at h6
          omega
        · unfold pieceN at h6
          rw [List.drop_drop, List.drop_drop, show t.pos + (m + runN t.kind ((l.drop t.pos).drop m)) = e from by omega]
          exact hr t (by simp)
      rw [hq, h5]
      exact (take_drop_eq ht (by omega)).symm
    · have hq : pieceN t.kind m (l'.drop t.pos) = pieceN t.kind m (l.drop t.pos) := by
        unfold pieceN
        rw [runN_swap t.kind _ ((l.drop t.pos).drop m) (Nat.le_refl _)]
        · unfold pieceN at h6 hp
          rw [List.drop_drop, List.drop_drop]
          refine take_drop_eq ht ?_
          rw [List.drop_drop] at h6
          omega
        · unfold pieceN at h6
          rw [List.drop_drop, List.drop_drop, show t.pos + (m + runN t.kind ((l.drop t.pos).drop m)) = e from by omega]
          exact hr t (by simp)
      rw [hq]; exact h6
end Go.Proofs.YtfffjfccochccaaDoor
