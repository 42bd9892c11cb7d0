/- Plain facts on a text with a blank or a comment put ahead of a piece. -/
import Derived.Test.YtfffjfccochccaaDoorLxJoin
namespace Go.Proofs.YtfffjfccochccaaDoor
open Go.RowKit
set_option linter.unusedVariables false
set_option linter.unusedSimpArgs false
set_option maxRecDepth 20000

/-- Bytes that are blanks and comments, whatever follows. -/
def Blanks (b : List UInt8) : Prop := 1 ≤ b.length ∧ ∀ r, skipN (b ++ r) = b.length + skipN r
theorem blanks_0 : Blanks [32] := ⟨by decide, fun r => by simp [skipN, skipG, blankB]⟩
theorem blanks_1 : Blanks [10] := ⟨by decide, fun r => by simp [skipN, skipG, blankB]⟩
theorem blanks_2 : Blanks [9, 13] := ⟨by decide, fun r => by simp [skipN, skipG, blankB]; omega⟩
theorem blanks_3 : Blanks [47, 47, 32, 104, 111, 112, 32, 59, 32, 123, 10] := ⟨by decide, fun r => by simp [skipN, skipG, blankB, headN]; omega⟩
theorem catA_inr {acc ts : List Tk} {x : LexA} (h : catA acc x = .inr ts) : ∃ r, x = .inr r ∧ acc ++ r = ts := by
  cases x with
  | inl e => simp [catA] at h
  | inr r => simp only [catA, Sum.inr.injEq] at h; exact ⟨r, rfl, h⟩
theorem lex_blank {l b : List UInt8} {ts : List Tk} (hb : Blanks b) (h : lexO l 0 = .inr ts) {k : Nat} {t : Tk} (ht : ts[k]? = some t) :
    lexO (l.take t.pos ++ b ++ l.drop t.pos) 0 = .inr (ts.take k ++ (ts.drop k).map (shiftT b.length)) := by
  obtain ⟨f1, f2, f3, f4, f5, f6, hR, hS⟩ := piece_at h ht
  obtain ⟨E, hE⟩ : ∃ E, endOf (ts.take k) = E := ⟨_, rfl⟩
  rw [hE] at f1 hR hS
  have hsb := hS.bd
  obtain ⟨n, hn⟩ : ∃ n, skipN (l.drop E) = n := ⟨_, rfl⟩
  rw [hn] at f1
  obtain ⟨P, hP⟩ : ∃ P, t.pos = P := ⟨_, rfl⟩
  rw [hP] at f1 f2 hsb ⊢
  have hPl : P < l.length := by omega
  -- the rest behind the piece ahead
  have hz : skipN (l.drop P) = 0 := by
    have := skipN_again (l.drop E)
    rwa [hn, List.drop_drop, ← f1] at this
  have htk : (l.take P).length = P := by rw [List.length_take]; omega
  have hd1 : (l.take P ++ b ++ l.drop P).drop E = (l.drop E).take n ++ (b ++ l.drop P) := by
    rw [List.append_assoc, List.drop_append_of_le_length (by omega), List.drop_take, show P - E = n from by omega]
  have hgl : ((l.drop E).take n).length = n := by rw [List.length_take, List.length_drop]; omega
  have hd2 : ((l.take P ++ b ++ l.drop P).drop E).drop n = b ++ l.drop P := by
    rw [hd1, List.drop_append, List.drop_eq_nil_of_le (by omega), hgl, Nat.sub_self]; rfl
  have hsk : skipN ((l.take P ++ b ++ l.drop P).drop E) = n + b.length := by
    have := skipN_pre (x := l.drop E) (y := (l.take P ++ b ++ l.drop P).drop E) hn (by rw [List.length_drop]; omega) (by rw [hd1, List.take_append_of_le_length (by omega), List.take_take, Nat.min_self])
    rw [this, hd2, hb.2, hz]
    omega
  have hd3 : ((l.take P ++ b ++ l.drop P).drop E).drop (n + b.length) = l.drop P := by
    rw [← List.drop_drop, hd2, List.drop_append, List.drop_eq_nil_of_le (Nat.le_refl _), Nat.sub_self]; rfl
  have hread : Read (l.take P ++ b ++ l.drop P) E (ts.take k) := by
    refine hR.move ?_ ?_
    · rw [List.append_assoc, List.take_append_of_le_length (by omega), List.take_take, Nat.min_eq_left (by omega)]
    · intro t' _
      exact contB_skip (by rw [hsk]; have := hb.1; omega)
  have hlen : n + b.length ≤ ((l.take P ++ b ++ l.drop P).drop E).length := by
    rw [List.length_drop, List.length_append, List.length_append, htk, List.length_drop]; omega
  rw [hread.rest, lexO_skip (j := n + b.length) (by rw [hd3, hz]; exact hsk) hlen, hd3]
  -- what the elder text has from the piece on
  have h2 := hR.rest
  rw [h, lexO_skip (l := l.drop E) (j := n) (by rw [List.drop_drop, ← f1, hz]; exact hn) (by rw [List.length_drop]; omega), List.drop_drop, ← f1] at h2
  obtain ⟨r, hr1, hr2⟩ := catA_inr h2.symm
  have hr3 : r = ts.drop k := by
    have := congrArg (List.drop k) hr2
    have hkl := (List.getElem?_eq_some_iff.1 ht).1
    rw [List.drop_append, List.length_take, Nat.min_eq_left (by omega), Nat.sub_self, List.drop_eq_nil_of_le (by rw [List.length_take]; omega)] at this
    simpa using this
  have h3 : lexO (l.drop P) (E + (n + b.length)) = shiftA b.length (lexO (l.drop P) P) := by
    rw [show E + (n + b.length) = P + b.length from by omega]
    exact lexF_shift _ _ _ _
  rw [h3, hr1, hr3]
  rfl
theorem blank_get {ts : List Tk} {k b i : Nat} {r t : Tk} (hk : k ≤ ts.length) (hr : (ts.take k ++ (ts.drop k).map (shiftT b))[i]? = some r) (ht : ts[i]? = some t) : r.kind = t.kind ∧ r.bytes = t.bytes ∧ r.pos = if k ≤ i then t.pos + b else t.pos := by
  have htl : (ts.take k).length = k := by rw [List.length_take]; omega
  by_cases h : i < k
  · rw [List.getElem?_append_left (by omega), List.getElem?_take, if_pos h, ht] at hr
    simp at hr
    subst hr
    rw [if_neg (by omega)]
    exact ⟨rfl, rfl, rfl⟩
  · rw [List.getElem?_append_right (by omega), htl, List.getElem?_map, List.getElem?_drop, show k + (i - k) = i from by omega, ht] at hr
    simp at hr
    subst hr
    rw [if_pos (by omega)]
    exact ⟨rfl, rfl, rfl⟩
end Go.Proofs.YtfffjfccochccaaDoor
