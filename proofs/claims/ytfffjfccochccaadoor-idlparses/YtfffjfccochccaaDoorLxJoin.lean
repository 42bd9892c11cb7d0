/- Plain facts on two texts with a byte 10 between: the pieces of both. -/
import Derived.Test.YtfffjfccochccaaDoorLxUse
namespace Go.Proofs.YtfffjfccochccaaDoor
open Go.ChangeShapes Go.WideShapes Go.ChangeAt Go.RowKit
set_option linter.unusedVariables false
set_option linter.unusedSimpArgs false
set_option maxRecDepth 20000

def shiftT (n : Nat) (t : Tk) : Tk := ⟨t.kind, t.text, t.pos + n⟩
def shiftA (n : Nat) : LexA → LexA
  | .inl (p, e) => .inl (p + n, e)
  | .inr ts => .inr (ts.map (shiftT n))
theorem shiftA_cons (n : Nat) (t : Tk) (x : LexA) : shiftA n (consA t x) = consA (shiftT n t) (shiftA n x) := by
  cases x with
  | inl y => obtain ⟨p, e⟩ := y; rfl
  | inr ts => rfl
theorem lexF_shift (f : Nat) : ∀ (l : List UInt8) (p n : Nat), lexF f l (p + n) = shiftA n (lexF f l p) := by
  induction f with
  | zero => intro l p n; rfl
  | succ f ih =>
    intro l p n
    simp only [lexF]
    split
    · rfl
    · cases e : nxL (l.drop (skipN l)) with
      | none => simp only [shiftA]; rw [show p + n + skipN l = p + skipN l + n from by omega]
      | some x =>
        obtain ⟨c, m⟩ := x
        simp only
        split
        · simp only [shiftA]; rw [show p + n + skipN l = p + skipN l + n from by omega]
        · rw [shiftA_cons, ← ih]
          congr 1
          · unfold shiftT; simp only; rw [show p + n + skipN l = p + skipN l + n from by omega]
          · rw [show p + n + skipN l = p + skipN l + n from by omega, show p + skipN l + n + pieceN (kindN c) m (l.drop (skipN l)) = p + skipN l + pieceN (kindN c) m (l.drop (skipN l)) + n from by omega]
theorem lexO_shift (l : List UInt8) (n : Nat) : lexO l n = shiftA n (lexO l 0) := by
  have := lexF_shift l.length l 0 n
  rwa [Nat.zero_add] at this
/-- Blanks ahead turn nothing but places. -/
theorem lexO_skip {l : List UInt8} {j : Nat} (h : skipN l = j + skipN (l.drop j)) (hj : j ≤ l.length) (p : Nat) : lexO l p = lexO (l.drop j) (p + j) := by
  have hd : l.drop (skipN l) = (l.drop j).drop (skipN (l.drop j)) := by rw [List.drop_drop, h]
  by_cases hz : skipN l = l.length
  · rw [lexO_fin hz, lexO_fin (by rw [List.length_drop]; omega)]
  · have hle := skipN_le l
    cases e : nxL (l.drop (skipN l)) with
    | none =>
      rw [lexO_text (by omega) e, lexO_text (by rw [List.length_drop]; omega) (by rw [← hd]; exact e), h]
      rw [Nat.add_assoc]
    | some x =>
      obtain ⟨c, m⟩ := x
      by_cases hk : kindN c = 0
      · rw [lexO_syn e hk, lexO_syn (by rw [← hd]; exact e) hk, h, Nat.add_assoc]
      · rw [lexO_tok e hk, lexO_tok (l := l.drop j) (by rw [← hd]; exact e) hk, ← hd, List.drop_drop]
        have e1 : p + skipN l = p + j + skipN (l.drop j) := by omega
        have e2 : skipN l + pieceN (kindN c) m (l.drop (skipN l)) = j + (skipN (l.drop j) + pieceN (kindN c) m (l.drop (skipN l))) := by omega
        rw [e1, e2]
/-- Two texts with the byte 10 between. -/
theorem lex_join {a b : List UInt8} {x y : List Tk} (ha : lexO a 0 = .inr x) (hb : lexO b 0 = .inr y) : lexO (a ++ 10 :: b) 0 = .inr (x ++ y.map (shiftT (a.length + 1))) := by
  obtain ⟨pos, h1, h2⟩ := lex_ok ha
  have hbd := h1.bd
  have hdr : (a ++ 10 :: b).drop pos = a.drop pos ++ 10 :: b := by rw [List.drop_append_of_le_length hbd.1]
  have hsk := skipG_join (a.drop pos) false (by show skipN (a.drop pos) = _; rw [List.length_drop]; omega) b
  have hsk' : skipN ((a ++ 10 :: b).drop pos) = (a.length - pos) + 1 + skipN b := by
    rw [hdr]
    rw [List.length_drop] at hsk
    exact hsk
  have hread : Read (a ++ 10 :: b) pos x := by
    refine h1.move ?_ ?_
    · rw [List.take_append_of_le_length hbd.1]
    · intro t _
      exact contB_skip (by rw [hsk']; omega)
  have hjd : ((a ++ 10 :: b).drop pos).drop (a.length - pos + 1) = b := by
    rw [List.drop_drop, show pos + (a.length - pos + 1) = a.length + 1 from by omega, List.drop_append, List.drop_eq_nil_of_le (by omega)]
    rw [show a.length + 1 - a.length = 1 from by omega]; rfl
  rw [hread.rest, lexO_skip (j := a.length - pos + 1) (by rw [hjd]; exact hsk') (by rw [List.length_drop, List.length_append, List.length_cons]; omega), hjd]
  rw [show pos + (a.length - pos + 1) = a.length + 1 from by omega, lexO_shift, hb]
  rfl
end Go.Proofs.YtfffjfccochccaaDoor
