/- Plain facts on texts: the runes that a list of bytes is made of; what a name is. -/
import Derived.Test.YtmgbhicogmclgaaRuStep
namespace Go.Proofs.Ytmgbhicogmclgaa
open Go.RowKit
set_option linter.unusedVariables false
set_option linter.unusedSimpArgs false
set_option maxRecDepth 20000

/-- The runes of a list of bytes, at most so many; none, if it is not runes alone. -/
def allL : Nat → List UInt8 → Option (List Nat)
  | 0, l => if l.isEmpty then some [] else none
  | f + 1, l => if l.isEmpty then some [] else
    match nxL l with
    | none => none
    | some x => (allL f (l.drop x.2)).map (x.1 :: ·)
def runesOf (l : List UInt8) : Option (List Nat) := allL l.length l

theorem allL_fuel (f : Nat) : ∀ (g : Nat) (l : List UInt8), l.length ≤ f → l.length ≤ g → allL f l = allL g l := by
  induction f with
  | zero =>
    intro g l h _
    have : l = [] := List.length_eq_zero_iff.1 (by omega)
    subst this
    cases g <;> simp [allL]
  | succ f ih =>
    intro g l hf hg
    match l, g with
    | [], 0 => simp [allL]
    | [], g + 1 => simp [allL]
    | a :: r, 0 => simp at hg
    | a :: r, g + 1 =>
      simp only [allL]
      cases e : nxL (a :: r) with
      | none => simp
      | some x =>
        obtain ⟨c, k⟩ := x
        obtain ⟨_, _, _, h4, h5, _⟩ := nxL_some _ _ _ e
        have hd : ((a :: r).drop k).length ≤ f := by simp at hf h5 ⊢; omega
        have hd2 : ((a :: r).drop k).length ≤ g := by simp at hg h5 ⊢; omega
        simp [ih g ((a :: r).drop k) hd hd2]

theorem runesOf_nil : runesOf [] = some [] := rfl
theorem runesOf_bad {l : List UInt8} (hl : l ≠ []) (h : nxL l = none) : runesOf l = none := by
  match l with
  | [] => exact absurd rfl hl
  | a :: r => simp [runesOf, allL, h]
theorem runesOf_step {l : List UInt8} {c k : Nat} (h : nxL l = some (c, k)) : runesOf l = (runesOf (l.drop k)).map (c :: ·) := by
  match l with
  | [] => simp [nxL] at h
  | a :: r =>
    obtain ⟨_, _, _, h4, h5, _⟩ := nxL_some _ _ _ h
    simp only [runesOf, List.length_cons, allL, h]
    have e := allL_fuel r.length ((a :: r).drop k).length ((a :: r).drop k) (by simp; omega) (Nat.le_refl _)
    rw [if_neg (by simp)]
    simp only [e]

theorem runesOf_le (f : Nat) : ∀ l : List UInt8, l.length ≤ f → ∀ rs, runesOf l = some rs → rs.length ≤ l.length := by
  induction f with
  | zero =>
    intro l hl rs h
    have : l = [] := List.length_eq_zero_iff.1 (by omega)
    subst this
    rw [runesOf_nil] at h
    simp at h; subst h; simp
  | succ f ih =>
    intro l hl rs h
    match l with
    | [] => rw [runesOf_nil] at h; simp at h; subst h; simp
    | a :: r =>
      cases e : nxL (a :: r) with
      | none => rw [runesOf_bad (by simp) e] at h; cases h
      | some x =>
        obtain ⟨c, k⟩ := x
        obtain ⟨_, _, _, h4, h5, _⟩ := nxL_some _ _ _ e
        rw [runesOf_step e] at h
        cases e2 : runesOf ((a :: r).drop k) with
        | none => rw [e2] at h; cases h
        | some rs' =>
          rw [e2] at h
          simp at h; subst h
          have := ih _ (by simp at hl h5 ⊢; omega) _ e2
          simp at this h5 ⊢; omega

def validB (l : List UInt8) : Bool := (runesOf l).isSome
def countN (l : List UInt8) : Nat := ((runesOf l).getD []).length
theorem countN_le (l : List UInt8) : countN l ≤ l.length := by
  unfold countN
  cases e : runesOf l with
  | none => simp
  | some rs => simpa using runesOf_le l.length l (Nat.le_refl _) rs e

/-- Signs that may be in a name: the first a letter, others a letter or a digit. -/
def okFrom : Bool → List Nat → Bool
  | _, [] => true
  | b, c :: r => (letB c || (!b && digB c)) && okFrom false r
theorem okFrom_append (acc rest : List Nat) : ∀ b, okFrom b (acc ++ rest) = (okFrom b acc && okFrom (b && acc.isEmpty) rest) := by
  induction acc with
  | nil => intro b; simp [okFrom]
  | cons a r ih => intro b; simp [okFrom, ih, Bool.and_assoc]

def nameB (s : ByteArray) : Bool := decide (1 ≤ countN s.data.toList ∧ countN s.data.toList ≤ 20) && !keyB s && okFrom true ((runesOf s.data.toList).getD [])

/-- What has been gone through, and what is left. -/
def Gone (l : List UInt8) (pos : Nat) (acc : List Nat) : Prop := runesOf l = (runesOf (l.drop pos)).map (acc ++ ·)
theorem Gone.start (l : List UInt8) : Gone l 0 [] := by
  unfold Gone; simp
theorem Gone.step {l : List UInt8} {pos c k : Nat} {acc : List Nat} (h : Gone l pos acc) (hn : nxL (l.drop pos) = some (c, k)) : Gone l (pos + k) (acc ++ [c]) := by
  unfold Gone at h ⊢
  rw [h, runesOf_step hn, List.drop_drop]
  cases runesOf (l.drop (pos + k)) <;> simp
theorem Gone.bad {l : List UInt8} {pos : Nat} {acc : List Nat} (h : Gone l pos acc) (hp : pos < l.length) (hn : nxL (l.drop pos) = none) : runesOf l = none := by
  unfold Gone at h
  rw [h, runesOf_bad _ hn]; rfl
  intro e
  have : (l.drop pos).length = 0 := by rw [e]; rfl
  simp at this; omega
theorem Gone.done {l : List UInt8} {pos : Nat} {acc : List Nat} (h : Gone l pos acc) (hp : l.length ≤ pos) : runesOf l = some acc := by
  unfold Gone at h
  rw [h, List.drop_eq_nil_of_le hp, runesOf_nil]; simp
theorem Gone.len {l : List UInt8} {pos : Nat} {acc rs : List Nat} (h : Gone l pos acc) (hr : runesOf l = some rs) : ∃ rest, rs = acc ++ rest := by
  unfold Gone at h
  rw [hr] at h
  cases e : runesOf (l.drop pos) with
  | none => rw [e] at h; cases h
  | some r => rw [e] at h; simp at h; exact ⟨r, h⟩

/-- The model's decoder at a place of a text, and whether a rune stands there. -/
theorem dec_at (s : ByteArray) (pos : Nat) (h : pos < s.size) : ∃ c k, Utf8.decode s pos = (c, k) ∧
    (standsB (s.data.toList.drop pos) c = true → nxL (s.data.toList.drop pos) = some (c, k)) ∧ (standsB (s.data.toList.drop pos) c = false → nxL (s.data.toList.drop pos) = none) := by
  have hl : s.data.toList.drop pos ≠ [] := by rw [drop_cons s pos h]; exact List.cons_ne_nil _ _
  have hd := decode_drop s pos (by omega)
  rw [hd]
  generalize e : Utf8.decode ⟨(s.data.toList.drop pos).toArray⟩ 0 = d
  obtain ⟨c, k⟩ := d
  exact ⟨c, k, rfl, nx_stands hl e⟩

theorem len_data (s : ByteArray) : s.data.toList.length = s.size := by rw [Array.length_toList]; rfl
theorem nx_of_gone {l : List UInt8} {pos : Nat} {acc rs : List Nat} (h : Gone l pos acc) (hp : pos < l.length) (hr : runesOf l = some rs) : ∃ x, nxL (l.drop pos) = some x := by
  cases e : nxL (l.drop pos) with
  | none => rw [h.bad hp e] at hr; cases hr
  | some x => exact ⟨x, rfl⟩

theorem dec_of_nx {l : List UInt8} {c k : Nat} {x : Nat × Nat} (h1 : standsB l c = true → nxL l = some (c, k)) (h2 : standsB l c = false → nxL l = none) (h : nxL l = some x) : nxL l = some (c, k) := by
  cases e : standsB l c with
  | true => exact h1 e
  | false => rw [h2 e] at h; cases h

end Go.Proofs.Ytmgbhicogmclgaa
