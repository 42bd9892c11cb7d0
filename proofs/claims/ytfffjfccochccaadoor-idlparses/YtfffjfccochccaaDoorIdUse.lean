/- Texts of the statements, read: reckoned by the kernel; what an answer of Parse is like. -/
import Derived.Test.YtfffjfccochccaaDoorIdMath
import Derived.Test.YtfffjfccochccaaDoorLxApp
namespace Go.Proofs.YtfffjfccochccaaDoor
open Go.RowKit
set_option linter.unusedVariables false
set_option linter.unusedSimpArgs false
set_option maxRecDepth 20000

theorem parse_awake : parseA ⟨#[115, 99, 104, 101, 109, 97, 32, 97, 59, 32, 109, 101, 115, 115, 97, 103, 101, 32, 109, 32, 123, 32, 105, 110, 116, 51, 50, 32, 120, 32, 61, 32, 49, 59, 32, 125]⟩ = (⟨⟨#[97]⟩, [⟨⟨#[109]⟩, [⟨⟨#[120]⟩, 1, 1, 1, ⟨#[]⟩⟩], []⟩], [], []⟩, 0, 0) := by kernel_rfl
theorem parse_kinds : parseA ⟨#[115, 99, 104, 101, 109, 97, 32, 97, 59, 32, 109, 101, 115, 115, 97, 103, 101, 32, 109, 32, 123, 32, 101, 32, 120, 32, 61, 32, 49, 59, 32, 109, 32, 121, 32, 61, 32, 50, 59, 32, 110, 32, 122, 32, 61, 32, 51, 59, 32, 125, 32, 101, 110, 117, 109, 32, 101, 32, 123, 32, 97, 32, 61, 32, 48, 59, 32, 125]⟩ = (⟨⟨#[97]⟩, [⟨⟨#[109]⟩, [⟨⟨#[120]⟩, 1, 1, 6, ⟨#[101]⟩⟩, ⟨⟨#[121]⟩, 2, 1, 7, ⟨#[109]⟩⟩, ⟨⟨#[122]⟩, 3, 1, 7, ⟨#[110]⟩⟩], []⟩], [⟨⟨#[101]⟩, [⟨⟨#[97]⟩, 0⟩]⟩], []⟩, 0, 0) := by kernel_rfl
theorem parse_wrong0 : parseA ⟨#[]⟩ = (zeroS, 0, 5) := by kernel_rfl
theorem parse_wrong1 : parseA ⟨#[115, 99, 104, 101, 109, 97]⟩ = (zeroS, 6, 5) := by kernel_rfl
theorem parse_wrong2 : parseA ⟨#[115, 99, 104, 101, 109, 97, 32, 97]⟩ = (zeroS, 8, 5) := by kernel_rfl
theorem parse_wrong3 : parseA ⟨#[115, 99, 104, 101, 109, 97, 32, 97, 59, 59]⟩ = (zeroS, 9, 5) := by kernel_rfl
theorem parse_wrong4 : parseA ⟨#[115, 99, 104, 101, 109, 97, 32, 97, 59, 32, 109, 101, 115, 115, 97, 103, 101, 32, 109, 32, 123, 32, 105, 110, 116, 51, 50, 32, 61, 32, 49, 59, 32, 125]⟩ = (zeroS, 28, 5) := by kernel_rfl
theorem parse_wrong5 : parseA ⟨#[115, 99, 104, 101, 109, 97, 32, 97, 59, 32, 109, 101, 115, 115, 97, 103, 101, 32, 109, 32, 123, 32, 114, 101, 115, 101, 114, 118, 101, 100, 32, 59, 32, 125]⟩ = (zeroS, 31, 5) := by kernel_rfl
theorem parse_wrong6 : parseA ⟨#[115, 99, 104, 101, 109, 97, 32, 97, 59, 32, 99, 97, 108, 108, 32, 99, 40, 109, 41, 32, 40, 109, 41, 59]⟩ = (zeroS, 20, 5) := by kernel_rfl
theorem parse_wrong7 : parseA ⟨#[115, 99, 104, 101, 109, 97, 32, 97, 59, 32, 109, 101, 115, 115, 97, 103, 101, 32, 109, 32, 123, 32, 105, 110, 116, 51, 50, 32, 120, 32, 61, 32, 48, 49, 59, 32, 125]⟩ = (zeroS, 32, 5) := by kernel_rfl

theorem place_le {s : ByteArray} (hs : s.size ≤ 16384) {ts : List Tk} (h : lexO s.data.toList 0 = .inr ts) (n : Nat) : placeN ts s.size n ≤ s.size := by
  unfold placeN
  split
  · exact Nat.le_refl _
  · rename_i t ht
    have := (piece_at h ht).2.1
    rw [len_data] at this
    omega
theorem name_ne {n : ByteArray} (h : nameK n.data.toList = true) : 1 ≤ n.size := by
  rw [← len_data]
  cases e : n.data.toList with
  | nil => rw [e] at h; revert h; decide
  | cons a r => simp
theorem pBind_inr {α β : Type} {x : PR α} {f : α → List ByteArray → PR β} {b : β} {r : List ByteArray} (h : pBind x f = .inr (b, r)) : ∃ a r', x = .inr (a, r') ∧ f a r' = .inr (b, r) := by
  cases x with
  | inl n => simp [pBind] at h
  | inr y => obtain ⟨a, r'⟩ := y; exact ⟨a, r', rfl, h⟩
theorem pName_inr {ts r : List ByteArray} {n : ByteArray} (h : pName ts = .inr (n, r)) : nameK n.data.toList = true := by
  unfold pName at h
  split at h
  · cases h
  · split at h
    · rename_i hk
      simp only [Sum.inr.injEq, Prod.mk.injEq] at h
      rw [← h.1]; exact hk
    · cases h
theorem pDecl_name {s s' : ScS} {ts r : List ByteArray} (h : pDecl s ts = .inr (s', r)) : s'.name = s.name := by
  unfold pDecl at h
  split at h
  · obtain ⟨m, r', _, h2⟩ := pBind_inr h
    simp only [Sum.inr.injEq, Prod.mk.injEq] at h2
    rw [← h2.1]
  · split at h
    · obtain ⟨m, r', _, h2⟩ := pBind_inr h
      simp only [Sum.inr.injEq, Prod.mk.injEq] at h2
      rw [← h2.1]
    · split at h
      · obtain ⟨m, r', _, h2⟩ := pBind_inr h
        simp only [Sum.inr.injEq, Prod.mk.injEq] at h2
        rw [← h2.1]
      · cases h
theorem pDecls_name (f : Nat) : ∀ {s s' : ScS} {ts r : List ByteArray}, pDecls f s ts = .inr (s', r) → s'.name = s.name := by
  induction f with
  | zero =>
    intro s s' ts r h
    simp only [pDecls, Sum.inr.injEq, Prod.mk.injEq] at h
    rw [h.1]
  | succ f ih =>
    intro s s' ts r h
    simp only [pDecls] at h
    split at h
    · simp only [Sum.inr.injEq, Prod.mk.injEq] at h
      rw [h.1]
    · obtain ⟨s1, r1, h1, h2⟩ := pBind_inr h
      rw [ih h2, pDecl_name h1]
theorem pText_name {sc : ScS} {ts r : List ByteArray} (h : pText ts = .inr (sc, r)) : 1 ≤ sc.name.size := by
  unfold pText at h
  obtain ⟨_, r1, _, h⟩ := pBind_inr h
  obtain ⟨n, r2, hn, h⟩ := pBind_inr h
  obtain ⟨_, r3, _, h⟩ := pBind_inr h
  rw [pDecls_name _ h]
  exact name_ne (pName_inr hn)
/-- What an answer is like: an error, and a place within the text; or a schema with a name. -/
theorem parse_like (s : ByteArray) (hs : s.size ≤ 16384) : ((parseA s).2.2 = 0 ∧ (parseA s).2.1 = 0 ∧ 1 ≤ (parseA s).1.name.size) ∨ (((parseA s).2.2 = 5 ∨ (parseA s).2.2 = 9) ∧ (parseA s).2.1 ≤ s.size ∧ (parseA s).1 = zeroS) := by
  unfold parseA
  cases h : lexO s.data.toList 0 with
  | inl x =>
    obtain ⟨p, e⟩ := x
    have he := lex_err h
    rw [len_data] at he
    rw [tokA_no hs h]
    right
    rw [if_pos (show ¬ e = 0 by omega)]
    exact ⟨by simp only; omega, by simp only; omega, rfl⟩
  | inr ts =>
    rw [tokA_ok hs h]
    simp only [ne_eq, not_true_eq_false, if_false]
    cases hp : pText (ts.map Tk.bytes) with
    | inl n => right; exact ⟨.inl rfl, place_le hs h n, rfl⟩
    | inr x =>
      obtain ⟨sc, r⟩ := x
      left
      refine ⟨rfl, rfl, ?_⟩
      show 1 ≤ sc.name.size
      exact pText_name hp
/-- The schema hangs on the pieces' texts alone. -/
theorem parse_texts {s s' : ByteArray} (hs : s.size ≤ 16384) (hs' : s'.size ≤ 16384) {ts ts' : List Tk} (h : lexO s.data.toList 0 = .inr ts) (h' : lexO s'.data.toList 0 = .inr ts') (he : ts.map Tk.bytes = ts'.map Tk.bytes) (h0 : (parseA s).2.2 = 0) : parseA s' = parseA s := by
  unfold parseA at h0 ⊢
  rw [tokA_ok hs h] at h0 ⊢
  rw [tokA_ok hs' h']
  simp only [ne_eq, not_true_eq_false, if_false] at h0 ⊢
  rw [← he]
  cases hp : pText (ts.map Tk.bytes) with
  | inl n => rw [hp] at h0; simp at h0
  | inr x => rfl
end Go.Proofs.YtfffjfccochccaaDoor
