/- Plain facts on the pieces of a text, for the statements. -/
import Derived.Test.YtfffjfccochccaaDoorLxRow
namespace Go.Proofs.YtfffjfccochccaaDoor
open Go.RowKit
set_option linter.unusedVariables false
set_option linter.unusedSimpArgs false
set_option maxRecDepth 20000

theorem tokA_small {s : ByteArray} (h : s.size ≤ 16384) : tokA s = ansA (lexO s.data.toList 0) := by unfold tokA; rw [if_neg (by omega)]
theorem tokA_ok {s : ByteArray} {ts : List Tk} (h : s.size ≤ 16384) (he : lexO s.data.toList 0 = .inr ts) : tokA s = (ts, 0, 0) := by rw [tokA_small h, he]; rfl
theorem tokA_no {s : ByteArray} {p e : Nat} (h : s.size ≤ 16384) (he : lexO s.data.toList 0 = .inl (p, e)) : tokA s = ([], p, e) := by rw [tokA_small h, he]; rfl
theorem lex_err {l : List UInt8} {p e : Nat} (h : lexO l 0 = .inl (p, e)) : (e = 9 ∨ e = 5) ∧ p < l.length := by
  obtain ⟨pos, acc, h1, h2⟩ := lex_ends l
  rw [h] at h2
  rcases h2 with ⟨_, h5⟩ | ⟨h3, h4, h5⟩ | ⟨c, m, h3, h4, h5⟩
  · cases h5
  · simp only [Sum.inl.injEq, Prod.mk.injEq] at h5
    exact ⟨.inl h5.2, by omega⟩
  · simp only [Sum.inl.injEq, Prod.mk.injEq] at h5
    refine ⟨.inr h5.2, ?_⟩
    have := nx_len h3
    rw [List.length_drop] at this
    omega
def endOf (acc : List Tk) : Nat := match acc.getLast? with
  | none => 0
  | some t => t.pos + t.text.length
theorem Read.endOf {l : List UInt8} {pos : Nat} {acc : List Tk} (h : Read l pos acc) : endOf acc = pos := by
  rcases h.inv with ⟨rfl, rfl⟩ | ⟨p, a, t, _, hs, rfl⟩
  · rfl
  · have := hs.bd
    unfold Proofs.YtfffjfccochccaaDoor.endOf
    rw [List.getLast?_append]
    simp
    omega
/-- A piece of a text that is one: where it stands, behind the one ahead. -/
theorem piece_at {l : List UInt8} {ts : List Tk} (h : lexO l 0 = .inr ts) {i : Nat} {t : Tk} (ht : ts[i]? = some t) :
    t.pos = endOf (ts.take i) + skipN (l.drop (endOf (ts.take i))) ∧ t.pos + t.text.length ≤ l.length ∧ 1 ≤ t.text.length ∧ t.text = (l.drop t.pos).take t.text.length ∧ endOf (ts.take (i + 1)) = t.pos + t.text.length ∧ t.kind ≤ 3 ∧ Read l (endOf (ts.take i)) (ts.take i) ∧ StepAt l (endOf (ts.take i)) t (t.pos + t.text.length) := by
  obtain ⟨pos, h1, h2⟩ := lex_ok h
  obtain ⟨p, e, g1, g2, g3, g4⟩ := h1.at i t ht
  have hb := g2.bd
  have hp := g2
  obtain ⟨c, m, q1, _⟩ := hp
  rw [g1.endOf, g3.endOf]
  have e1 : t.text.length = e - t.pos := hb.2.2.2.1
  have e2 : e = t.pos + t.text.length := by omega
  refine ⟨q1, by omega, by omega, ?_, e2, hb.2.2.2.2.2, g1, ?_⟩
  · rw [e1]; exact hb.2.2.2.2.1
  · rw [← e2]; exact g2
theorem lex_len {l : List UInt8} {ts : List Tk} (h : lexO l 0 = .inr ts) : ts.length ≤ l.length := by
  obtain ⟨pos, h1, _⟩ := lex_ok h
  have := h1.bd
  omega
theorem gap_ok (l : List UInt8) (p : Nat) : lexO (l.take (skipN l)) p = .inr [] := by
  refine lexO_fin ?_ p
  have := skipN_le l
  rw [skipN_take, List.length_take]; omega
theorem tokA_gap (s : ByteArray) (E n : Nat) (hs : s.size ≤ 16384) (hn : n = skipN (s.data.toList.drop E)) : tokA (s.extract E (E + n)) = ([], 0, 0) := by
  refine tokA_ok ?_ ?_
  · rw [ByteArray.size_extract]; omega
  · rw [extract_list, hn]; exact gap_ok _ _
theorem Tk.size (t : Tk) : t.bytes.size = t.text.length := by unfold Tk.bytes; exact size_list _
theorem piece_bytes {s : ByteArray} {t : Tk} (h : t.text = (s.data.toList.drop t.pos).take t.text.length) : s.extract t.pos (t.pos + t.bytes.size) = t.bytes := by
  rw [extract_piece, Tk.size, ← h]; rfl
end Go.Proofs.YtfffjfccochccaaDoor
