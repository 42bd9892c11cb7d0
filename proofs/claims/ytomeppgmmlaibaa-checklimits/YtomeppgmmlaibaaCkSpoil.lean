/- What Check answers of a schema in which one field is spoilt. -/
import Derived.Test.YtomeppgmmlaibaaCkMath
namespace Go.Proofs.Ytomeppgmmlaibaa
open Go.RowKit
set_option linter.unusedVariables false
set_option linter.unusedSimpArgs false
set_option maxRecDepth 20000

theorem chkFs_pre (mn en : List ByteArray) : ∀ (l1 : List FlS) (a : List ByteArray) (t : List Int) (r0 r : List FlS), chkFs mn en a t (l1 ++ r0) = 0 → chkFs mn en a t (l1 ++ r) = chkFs mn en (a ++ l1.map FlS.name) (t ++ l1.map FlS.tag) r
  | [], a, t, r0, r, h => by simp
  | f :: l, a, t, r0, r, h => by
    simp only [List.cons_append, chkFs] at h ⊢
    by_cases h1 : freshB f.name a = false
    · rw [if_pos h1] at h; omega
    · rw [if_neg h1] at h ⊢
      by_cases h2 : tagB f.tag t = false
      · rw [if_pos h2] at h; omega
      · rw [if_neg h2] at h ⊢
        by_cases h3 : (labB f.label && typeB mn en f.kind f.tname) = false
        · rw [if_pos h3] at h; omega
        · rw [if_neg h3] at h ⊢
          rw [chkFs_pre mn en l _ _ r0 r h]
          simp
theorem chkFs_tail (mn en : List ByteArray) (l1 : List FlS) (a : List ByteArray) (t : List Int) (r0 : List FlS) (h : chkFs mn en a t (l1 ++ r0) = 0) : chkFs mn en (a ++ l1.map FlS.name) (t ++ l1.map FlS.tag) r0 = 0 := by
  rw [← chkFs_pre mn en l1 a t r0 r0 h]; exact h
theorem chkMs_pre (mn en : List ByteArray) : ∀ (l1 : List MsS) (a : List ByteArray) (r0 r : List MsS), chkMs mn en a (l1 ++ r0) = 0 → chkMs mn en a (l1 ++ r) = chkMs mn en (a ++ l1.map MsS.name) r
  | [], a, r0, r, h => by simp
  | f :: l, a, r0, r, h => by
    simp only [List.cons_append, chkMs] at h ⊢
    by_cases h1 : freshB f.name a = false
    · rw [if_pos h1] at h; omega
    · rw [if_neg h1] at h ⊢
      rw [orE_ok] at h
      rw [h.1, orE_zero, chkMs_pre mn en l _ r0 r h.2]
      simp
/-- A message with one field put in another's place. -/
def putF (m : MsS) (j : Nat) (f : FlS) : MsS := ⟨m.name, m.fields.set j f, m.reserved⟩
def spoiltS (s : ScS) (i j : Nat) (m : MsS) (f : FlS) : ScS := ⟨s.name, s.msgs.set i (putF m j f), s.enums, s.methods⟩
theorem set_split {α : Type} {l : List α} {i : Nat} {x : α} (h : l[i]? = some x) (y : α) : l = l.take i ++ x :: l.drop (i + 1) ∧ l.set i y = l.take i ++ y :: l.drop (i + 1) := by
  obtain ⟨hi, rfl⟩ := List.getElem?_eq_some_iff.1 h
  refine ⟨?_, ?_⟩
  · rw [← List.drop_eq_getElem_cons hi, List.take_append_drop]
  · rw [List.set_eq_take_append_cons_drop, if_pos hi]
theorem set_names {s : ScS} {i : Nat} {m : MsS} (h : s.msgs[i]? = some m) (j : Nat) (f : FlS) : (spoiltS s i j m f).mn = s.mn := by
  unfold ScS.mn spoiltS putF
  obtain ⟨h1, h2⟩ := set_split h ⟨m.name, m.fields.set j f, m.reserved⟩
  simp only
  rw [h2]
  conv => rhs; rw [h1]
  simp
/-- What the spoilt field answers is what all answers. -/
theorem spoil {s : ScS} (hok : checkA s = 0) {i j : Nat} {m : MsS} {f : FlS} (hi : s.msgs[i]? = some m) (hj : m.fields[j]? = some f) (f' : FlS) {X : Int} (hX : X ≠ 0)
    (hf : ∀ a t, freshB f.name a = true → tagB f.tag t = true → labB f.label = true → typeB s.mn s.en f.kind f.tname = true → ∀ l, chkFs s.mn s.en a t (f' :: l) = X) : checkA (spoiltS s i j m f') = X := by
  have hmn := set_names hi j f'
  unfold checkA partsA at hok ⊢
  rw [orE_ok, orE_ok, orE_ok] at hok
  obtain ⟨h1, ⟨h2, h3⟩, h4⟩ := hok
  have hw : wholeA (spoiltS s i j m f') = 0 := by
    rw [wholeA_ok] at h1 ⊢
    refine ⟨h1.1, ?_, ?_⟩
    · show 0 < (s.msgs.set i _).length; rw [List.length_set]; exact h1.2.1
    · have := h1.2.2
      unfold bigS at this ⊢
      rw [decide_eq_false_iff_not] at this ⊢
      have hl : (spoiltS s i j m f').msgs.length = s.msgs.length := List.length_set ..
      rw [hl]; exact this
  have hen : (spoiltS s i j m f').en = s.en := rfl
  rw [hw, orE_zero, hmn, hen]
  obtain ⟨e1, e2⟩ := set_split hi (putF m j f')
  have hm : chkMs s.mn s.en [] (spoiltS s i j m f').msgs = X := by
    show chkMs s.mn s.en [] (s.msgs.set i (putF m j f')) = X
    rw [e1] at h2
    have h2' := h2
    rw [chkMs_pre _ _ _ _ _ _ h2] at h2'
    rw [e2, chkMs_pre _ _ _ _ _ (putF m j f' :: s.msgs.drop (i + 1)) h2]
    unfold chkMs at h2' ⊢
    by_cases g1 : freshB m.name ([] ++ (s.msgs.take i).map MsS.name) = false
    · rw [if_pos g1] at h2'; omega
    · rw [if_neg g1] at h2'
      rw [if_neg (show ¬ freshB (putF m j f').name _ = false from g1)]
      rw [orE_ok] at h2'
      have hb := h2'.1
      suffices hs : chkMb s.mn s.en (putF m j f') = X by rw [hs, orE_ne hX]
      unfold chkMb at hb ⊢
      by_cases g2 : bigM m = true
      · rw [if_pos g2] at hb; omega
      · rw [if_neg g2, orE_ok] at hb
        have g2' : ¬ bigM (putF m j f') = true := by
          unfold bigM at g2 ⊢
          rw [decide_eq_true_iff] at g2 ⊢
          have hl : (putF m j f').fields.length = m.fields.length := List.length_set ..
          rw [hl]; exact g2
        rw [if_neg g2']
        show orE (chkRes [] m.reserved) (chkFs s.mn s.en [] m.reserved (m.fields.set j f')) = X
        rw [hb.1, orE_zero]
        obtain ⟨q1, q2⟩ := set_split hj f'
        have hbf := hb.2
        rw [q1] at hbf
        have ht := chkFs_tail _ _ _ _ _ _ hbf
        rw [q2, chkFs_pre _ _ _ _ _ _ (f' :: m.fields.drop (j + 1)) hbf]
        unfold chkFs at ht
        by_cases k1 : freshB f.name ([] ++ (m.fields.take j).map FlS.name) = false
        · rw [if_pos k1] at ht; omega
        · rw [if_neg k1] at ht
          by_cases k2 : tagB f.tag (m.reserved ++ (m.fields.take j).map FlS.tag) = false
          · rw [if_pos k2] at ht; omega
          · rw [if_neg k2] at ht
            by_cases k3 : (labB f.label && typeB s.mn s.en f.kind f.tname) = false
            · rw [if_pos k3] at ht; omega
            · rw [Bool.not_eq_false, Bool.and_eq_true] at k3
              exact hf _ _ (by simpa using k1) (by simpa using k2) k3.1 k3.2 _
  rw [hm, orE_ne hX, orE_ne hX]
def kReturns7 : ByteArray := ⟨#[114, 101, 116, 117, 114, 110, 115]⟩
def kNobody : ByteArray := ⟨#[110, 111, 98, 111, 100, 121, 95, 97, 116, 95, 97, 108, 108]⟩
theorem returns_no : nameB kReturns7 = false := by decide +kernel
theorem spoil0 {s : ScS} (hok : checkA s = 0) {i j : Nat} {m : MsS} {f : FlS} (hi : s.msgs[i]? = some m) (hj : m.fields[j]? = some f) : checkA (spoiltS s i j m ⟨kReturns7, f.tag, f.label, f.kind, f.tname⟩) = 6 :=
  spoil hok hi hj _ (by decide) (fun a t h1 h2 h3 h4 l => by unfold chkFs; rw [if_pos (by unfold freshB; rw [returns_no]; rfl)])
theorem spoil1 {s : ScS} (hok : checkA s = 0) {i j : Nat} {m : MsS} {f : FlS} (hi : s.msgs[i]? = some m) (hj : m.fields[j]? = some f) (n : Int) (hn : tagR n = false) : checkA (spoiltS s i j m ⟨f.name, n, f.label, f.kind, f.tname⟩) = 7 :=
  spoil hok hi hj _ (by decide) (fun a t h1 h2 h3 h4 l => by unfold chkFs; rw [if_neg (by rw [h1]; decide), if_pos (by unfold tagB; rw [hn]; rfl)])
theorem spoil2 {s : ScS} (hok : checkA s = 0) {i j : Nat} {m : MsS} {f : FlS} (hi : s.msgs[i]? = some m) (hj : m.fields[j]? = some f) (hno : memB kNobody s.mn = false) : checkA (spoiltS s i j m ⟨f.name, f.tag, f.label, 7, kNobody⟩) = 8 :=
  spoil hok hi hj _ (by decide) (fun a t h1 h2 h3 h4 l => by
    unfold chkFs
    rw [if_neg (by rw [h1]; decide), if_neg (by rw [h2]; decide), if_pos]
    have : typeB s.mn s.en 7 kNobody = false := by unfold typeB; simp [hno]
    rw [this, Bool.and_false])
theorem spoil4 {s : ScS} (hok : checkA s = 0) {i j : Nat} {m : MsS} {f : FlS} (hi : s.msgs[i]? = some m) (hj : m.fields[j]? = some f) : checkA (spoiltS s i j m ⟨f.name, f.tag, 4, f.kind, f.tname⟩) = 8 :=
  spoil hok hi hj _ (by decide) (fun a t h1 h2 h3 h4 l => by
    unfold chkFs
    rw [if_neg (by rw [h1]; decide), if_neg (by rw [h2]; decide), if_pos (by rfl)])
end Go.Proofs.Ytomeppgmmlaibaa
