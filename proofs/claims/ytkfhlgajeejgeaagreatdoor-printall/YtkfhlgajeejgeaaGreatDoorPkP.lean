/- Plain facts on pieces: texts put behind one another; blanks behind a sign. -/
import Derived.Maps.OwnSet
import Derived.Test.YtkfhlgajeejgeaaGreatDoorPkO
import Derived.Test.YtkfhlgajeejgeaaGreatDoorPkL
import Derived.Test.YtkfhlgajeejgeaaGreatDoorPkB
namespace Go.Proofs.YtkfhlgajeejgeaaGreatDoor
open Go.RowKit
set_option linter.unusedVariables false
set_option linter.unusedSimpArgs false
set_option maxRecDepth 20000

theorem app_drop (a b : List UInt8) (n : Nat) : (a ++ b).drop (a.length + n) = b.drop n := by
  rw [List.drop_append, List.drop_eq_nil_of_le (by omega), List.nil_append, show a.length + n - a.length = n from by omega]
theorem StepAt.app {a b : List UInt8} {pos e : Nat} {t : Tk} (h : StepAt b pos t e) : StepAt (a ++ b) (a.length + pos) (shiftT a.length t) (a.length + e) := by
  obtain ⟨c, m, h1, h2, h3, h4, h5, h6⟩ := h
  have hp : (shiftT a.length t).pos = a.length + t.pos := by show t.pos + a.length = _; omega
  refine ⟨c, m, ?_, ?_, h3, h4, ?_, ?_⟩
  · rw [hp, app_drop, h1]; omega
  · rw [hp, app_drop]; exact h2
  · rw [hp, app_drop]; exact h5
  · rw [hp, app_drop]
    show a.length + e = a.length + t.pos + pieceN t.kind m (b.drop t.pos)
    omega
/-- A text that ends with a piece, and another one behind it. -/
theorem Read.app {a b : List UInt8} {x y : List Tk} {p : Nat} (ha : Read a a.length x) (hr : Rests x b) (hb : Read b p y) : Read (a ++ b) (a.length + p) (x ++ y.map (shiftT a.length)) := by
  refine Read.ind (fun p y => Read (a ++ b) (a.length + p) (x ++ y.map (shiftT a.length))) ?_ ?_ _ y rfl p hb
  · rw [List.map_nil, List.append_nil, Nat.add_zero]
    refine ha.move ?_ ?_
    · rw [List.take_append_of_le_length (Nat.le_refl _)]
    · have := app_drop a b 0
      rw [Nat.add_zero, List.drop_zero] at this
      rw [this]; exact hr
  · intro pos acc t e h hs ih
    rw [List.map_append, List.map_cons, List.map_nil, ← List.append_assoc]
    exact ih.step hs.app
theorem Read.whole {l : List UInt8} {x : List Tk} (h : Read l l.length x) : lexO l 0 = .inr x := h.fin (by rw [List.drop_eq_nil_of_le (Nat.le_refl _), skipN_nil]; omega)
theorem rests_skip {x : List Tk} {b : List UInt8} (h : 0 < skipN b) : Rests x b := fun t _ => contB_skip h
theorem rests_nil (b : List UInt8) : Rests [] b := fun t h => by simp at h
theorem rests_sign {x : List Tk} {t : Tk} (h : t.kind = 3) (b : List UInt8) : Rests (x ++ [t]) b := fun t' h' => by
  rw [List.getLast?_append] at h'
  simp at h'
  subst h'
  rw [h]
  unfold contB
  cases nxL b with
  | none => rfl
  | some y => simp [goesB]
/-- One piece alone, with blanks ahead of it. -/
theorem read_one {g w : List UInt8} {c m : Nat} (hg : skipN (g ++ w) = g.length) (hn : nxL w = some (c, m)) (hk : kindN c ≠ 0) (hw : pieceN (kindN c) m w = w.length) : Read (g ++ w) (g ++ w).length [⟨kindN c, w, g.length⟩] := by
  have hd : (g ++ w).drop g.length = w := by have := app_drop g w 0; rwa [Nat.add_zero, List.drop_zero] at this
  have h : StepAt (g ++ w) 0 ⟨kindN c, w, g.length⟩ (g.length + w.length) := by
    refine ⟨c, m, ?_, ?_, hk, rfl, ?_, ?_⟩
    · rw [List.drop_zero, hg]; show g.length = 0 + g.length; omega
    · show nxL ((g ++ w).drop g.length) = _; rw [hd]; exact hn
    · show w = ((g ++ w).drop g.length).take (pieceN (kindN c) m ((g ++ w).drop g.length)); rw [hd, hw, List.take_length]
    · show g.length + w.length = g.length + pieceN (kindN c) m ((g ++ w).drop g.length); rw [hd, hw]
  have := Read.start.step h
  rw [List.nil_append] at this
  rwa [List.length_append]

/-- A sign's byte is in no other piece. -/
theorem nx_byte {l : List UInt8} {c m j : Nat} {a : UInt8} (h : nxL l = some (c, m)) (hj : j < m) (ha : l[j]? = some a) (hs : a.toNat < 128) : m = 1 ∧ c = a.toNat ∧ j = 0 := by
  match l with
  | [] => simp [nxL] at h
  | x :: r =>
    rcases nx_small h with ⟨h1, h2, h3⟩ | ⟨h1, h2⟩
    · have : j = 0 := by omega
      subst this
      simp at ha
      subst ha
      exact ⟨h3, h2, rfl⟩
    · exfalso
      simp only [nxL] at h
      rw [if_neg (by omega)] at h
      match j, ha with
      | 0, ha => simp at ha; subst ha; omega
      | j + 1, ha =>
        simp only [List.getElem?_cons_succ] at ha
        split at h
        · split at h
          · rename_i b r'
            split at h
            · rename_i g
              simp only [Option.some.injEq, Prod.mk.injEq] at h
              have : j = 0 := by omega
              subst this
              simp at ha
              subst ha
              have := g.1
              simp [ctU] at this; omega
            · cases h
          · cases h
        · split at h
          · split at h
            · rename_i b c' r'
              split at h
              · rename_i g
                simp only [Option.some.injEq, Prod.mk.injEq] at h
                have g1 := g.1
                have g2 := g.2.1
                simp [ctU] at g1 g2
                match j, ha with
                | 0, ha => simp at ha; subst ha; omega
                | 1, ha => simp at ha; subst ha; omega
                | j + 2, ha => omega
              · cases h
            · cases h
          · split at h
            · split at h
              · rename_i b c' d' r'
                split at h
                · rename_i g
                  simp only [Option.some.injEq, Prod.mk.injEq] at h
                  have g1 := g.1
                  have g2 := g.2.1
                  have g3 := g.2.2.1
                  simp [ctU] at g1 g2 g3
                  match j, ha with
                  | 0, ha => simp at ha; subst ha; omega
                  | 1, ha => simp at ha; subst ha; omega
                  | 2, ha => simp at ha; subst ha; omega
                  | j + 3, ha => omega
                · cases h
              · cases h
            · cases h
theorem run_byte (k : Nat) (f : Nat) : ∀ l : List UInt8, l.length ≤ f → ∀ (j : Nat) (a : UInt8), j < runN k l → l[j]? = some a → a.toNat < 128 → goesB k a.toNat = true := by
  induction f with
  | zero =>
    intro l hl j a hj ha hs
    have : l = [] := List.length_eq_zero_iff.1 (by omega)
    subst this
    simp at ha
  | succ f ih =>
    intro l hl j a hj ha hs
    cases e : contB k l with
    | false => rw [runN_stop0 e] at hj; omega
    | true =>
      cases e2 : nxL l with
      | none => rw [contB_none e2] at e; cases e
      | some x =>
        obtain ⟨c, m⟩ := x
        obtain ⟨h4, h5⟩ := nx_len e2
        rw [contB_yes e2] at e
        rw [runN_yes e2 e] at hj
        by_cases hjm : j < m
        · obtain ⟨_, h, _⟩ := nx_byte e2 hjm ha hs
          rw [← h]; exact e
        · refine ih (l.drop m) (by rw [List.length_drop]; omega) (j - m) a (by omega) ?_ hs
          rw [List.getElem?_drop, show m + (j - m) = j from by omega]; exact ha
/-- Where a sign's byte stands in a piece, that is the sign. -/
theorem step_sign {l : List UInt8} {pos e q : Nat} {t : Tk} {a : UInt8} (h : StepAt l pos t e) (h1 : t.pos ≤ q) (h2 : q < e) (ha : l[q]? = some a) (hs : signB a.toNat = true) : q + 1 = e ∧ t.kind = 3 := by
  have hlt : a.toNat < 128 := by unfold signB at hs; simp only [decide_eq_true_eq] at hs; omega
  have hnl : letB a.toNat = false := by unfold signB at hs; unfold letB; simp only [decide_eq_true_eq] at hs; rw [decide_eq_false (by omega)]
  have hnd : digB a.toNat = false := by unfold signB at hs; unfold digB; simp only [decide_eq_true_eq] at hs; rw [decide_eq_false (by omega)]
  obtain ⟨c, m, g1, g2, g3, g4, g5, g6⟩ := h
  have ha' : (l.drop t.pos)[q - t.pos]? = some a := by rw [List.getElem?_drop, show t.pos + (q - t.pos) = q from by omega]; exact ha
  by_cases hm : q - t.pos < m
  · obtain ⟨k1, k2, k3⟩ := nx_byte g2 hm ha' hlt
    have hk : kindN c = 3 := by unfold kindN; rw [k2, if_neg (by simp [hnl]), if_neg (by simp [hnd]), if_pos hs]
    have hp : pieceN t.kind m (l.drop t.pos) = 1 := by
      rw [g4, hk, k1]
      unfold pieceN
      rw [runN_stop0]
      unfold contB
      cases nxL ((l.drop t.pos).drop 1) with
      | none => rfl
      | some x => simp [goesB]
    exact ⟨by omega, by rw [g4, hk]⟩
  · exfalso
    have := run_byte t.kind _ ((l.drop t.pos).drop m) (Nat.le_refl _) (q - t.pos - m) a (by unfold pieceN at g6; omega) (by rw [List.getElem?_drop, show m + (q - t.pos - m) = q - t.pos from by omega]; exact ha') hlt
    simp [goesB, hnl, hnd] at this
/-- Without a slash a gap is blanks. -/
theorem gap_blank (l : List UInt8) : ∀ (j : Nat) (a : UInt8), j < skipN l → l[j]? = some a → (∀ i x, i ≤ j → l[i]? = some x → x.toNat ≠ 47) → blankB a = true := by
  induction l with
  | nil => intro j a hj ha _; simp at ha
  | cons x r ih =>
    intro j a hj ha hn
    have hx : x.toNat ≠ 47 := hn 0 x (by omega) rfl
    by_cases hb : blankB x = true
    · match j, ha with
      | 0, ha => simp at ha; subst ha; exact hb
      | j + 1, ha =>
        refine ih j a ?_ (by simpa using ha) (fun i y hi hy => hn (i + 1) y (by omega) (by simpa using hy))
        have : skipN (x :: r) = 1 + skipN r := by simp [skipN, skipG, hb]
        omega
    · have : skipN (x :: r) = 0 := by
        simp only [skipN, skipG]
        rw [if_neg hb, if_neg (fun h => hx h.1)]
      omega
/-- Behind a sign that no slash stands ahead of, a piece ends. -/
theorem read_to (l : List UInt8) (ts : List Tk) (h : lexO l 0 = .inr ts) (k : Nat) (a : UInt8) (ha : l[k]? = some a) (hs : signB a.toNat = true) (hn : ∀ i x, i ≤ k → l[i]? = some x → x.toNat ≠ 47) :
    ∀ (f pos i : Nat), l.length - pos ≤ f → pos ≤ k → Read l pos (ts.take i) → i ≤ ts.length → ∃ j t, j ≤ ts.length ∧ Read l (k + 1) (ts.take j) ∧ (ts.take j).getLast? = some t ∧ t.kind = 3 := by
  have hkl := (List.getElem?_eq_some_iff.1 ha).1
  have hnb : blankB a = false := by unfold signB at hs; unfold blankB; simp only [decide_eq_true_eq] at hs; rw [decide_eq_false (by omega)]
  intro f
  induction f with
  | zero => intro pos i hf hp _ _; omega
  | succ f ih =>
    intro pos i hf hp hr hi
    have hgap : pos + skipN (l.drop pos) ≤ k := by
      by_cases hc : pos + skipN (l.drop pos) ≤ k
      · exact hc
      · exfalso
        have := gap_blank (l.drop pos) (k - pos) a (by omega) (by rw [List.getElem?_drop, show pos + (k - pos) = k from by omega]; exact ha)
          (fun i' x hi' hx => hn (pos + i') x (by omega) (by rwa [List.getElem?_drop] at hx))
        rw [hnb] at this; cases this
    by_cases hil : i < ts.length
    · obtain ⟨_, _, _, _, f5, _, g7, g8⟩ := piece_at h (i := i) (t := ts[i]) (List.getElem?_eq_getElem hil)
      have he : endOf (ts.take i) = pos := hr.endOf
      rw [he] at g7 g8
      have hb := g8.bd
      have hq := g8
      obtain ⟨c, m, q1, _⟩ := hq
      obtain ⟨E, hE⟩ : ∃ E, ts[i].pos + ts[i].text.length = E := ⟨_, rfl⟩
      rw [hE] at g8 hb
      have hst : Read l E (ts.take (i + 1)) := by
        rw [List.take_succ_eq_append_getElem hil]
        exact hr.step g8
      by_cases hkE : k < E
      · obtain ⟨k1, k2⟩ := step_sign g8 (by omega) hkE ha hs
        refine ⟨i + 1, ts[i], by omega, by rw [k1]; exact hst, ?_, k2⟩
        rw [List.take_succ_eq_append_getElem hil, List.getLast?_append]
        simp
      · exact ih E (i + 1) (by omega) (by omega) hst (by omega)
    · exfalso
      have hti : ts.take i = ts := List.take_of_length_le (by omega)
      rw [hti] at hr
      obtain ⟨pos', h1, h2⟩ := lex_ok h
      have e1 := hr.endOf
      have e2 := h1.endOf
      rw [e1] at e2
      subst e2
      omega
/-- Blanks behind a sign turn nothing but places. -/
theorem lex_behind {l b : List UInt8} {ts : List Tk} (hb : Blanks b) (h : lexO l 0 = .inr ts) {k : Nat} {a : UInt8} (ha : l[k]? = some a) (hs : signB a.toNat = true) (hn : ∀ i x, i ≤ k → l[i]? = some x → x.toNat ≠ 47) :
    ∃ j, lexO (l.take (k + 1) ++ b ++ l.drop (k + 1)) 0 = .inr (ts.take j ++ (ts.drop j).map (shiftT b.length)) ∧ j ≤ ts.length := by
  obtain ⟨j, t, hj, hR, hl, hk⟩ := read_to l ts h k a ha hs hn l.length 0 0 (by omega) (by omega) (by rw [List.take_zero]; exact Read.start) (by omega)
  have hkl := (List.getElem?_eq_some_iff.1 ha).1
  have htk : (l.take (k + 1)).length = k + 1 := by rw [List.length_take]; omega
  have hd : (l.take (k + 1) ++ b ++ l.drop (k + 1)).drop (k + 1) = b ++ l.drop (k + 1) := by
    have := app_drop (l.take (k + 1)) (b ++ l.drop (k + 1)) 0
    rwa [Nat.add_zero, htk, List.drop_zero, ← List.append_assoc] at this
  have hread : Read (l.take (k + 1) ++ b ++ l.drop (k + 1)) (k + 1) (ts.take j) := by
    refine hR.move ?_ ?_
    · rw [List.append_assoc, List.take_append_of_le_length (by omega), List.take_take, Nat.min_self]
    · rw [hd]
      exact rests_skip (by rw [hb.2]; have := hb.1; omega)
  have hd2 : ((l.take (k + 1) ++ b ++ l.drop (k + 1)).drop (k + 1)).drop b.length = l.drop (k + 1) := by
    have := app_drop b (l.drop (k + 1)) 0
    rw [hd]
    rwa [Nat.add_zero, List.drop_zero] at this
  refine ⟨j, ?_, hj⟩
  rw [hread.rest, lexO_skip (j := b.length) (by rw [hd2, hd, hb.2]) (by rw [hd, List.length_append]; omega), hd2]
  have h2 := hR.rest
  rw [h] at h2
  obtain ⟨r, hr1, hr2⟩ := catA_inr h2.symm
  have hr3 : r = ts.drop j := by
    have := congrArg (List.drop j) hr2
    rw [List.drop_append, List.length_take, Nat.min_eq_left (by omega), Nat.sub_self, List.drop_eq_nil_of_le (by rw [List.length_take]; omega)] at this
    simpa using this
  have h3 : lexO (l.drop (k + 1)) (k + 1 + b.length) = shiftA b.length (lexO (l.drop (k + 1)) (k + 1)) := lexF_shift _ _ _ _
  rw [h3, hr1, hr3]
  rfl
theorem shift_texts (x : List Tk) (n : Nat) : (x.map (shiftT n)).map Tk.bytes = x.map Tk.bytes := by
  rw [List.map_map]; rfl
end Go.Proofs.YtkfhlgajeejgeaaGreatDoor

/- Texts of the statements, read: reckoned by the kernel; what an answer of Parse is like. -/
namespace Go.Proofs.YtkfhlgajeejgeaaGreatDoor
open Go.RowKit
set_option linter.unusedVariables false
set_option linter.unusedSimpArgs false
set_option maxRecDepth 20000

theorem parse_awake : parseA ⟨#[115, 99, 104, 101, 109, 97, 32, 97, 59, 32, 109, 101, 115, 115, 97, 103, 101, 32, 109, 32, 123, 32, 105, 110, 116, 51, 50, 32, 120, 32, 61, 32, 49, 59, 32, 125]⟩ = (⟨⟨#[97]⟩, [⟨⟨#[109]⟩, [⟨⟨#[120]⟩, 1, 1, 1, ⟨#[]⟩⟩], []⟩], [], []⟩, 0, 0) := by kernel_rfl
theorem parse_kinds : parseA ⟨#[115, 99, 104, 101, 109, 97, 32, 97, 59, 32, 109, 101, 115, 115, 97, 103, 101, 32, 109, 32, 123, 32, 101, 32, 120, 32, 61, 32, 49, 59, 32, 109, 32, 121, 32, 61, 32, 50, 59, 32, 110, 32, 122, 32, 61, 32, 51, 59, 32, 125, 32, 101, 110, 117, 109, 32, 101, 32, 123, 32, 97, 32, 61, 32, 48, 59, 32, 125]⟩ = (⟨⟨#[97]⟩, [⟨⟨#[109]⟩, [⟨⟨#[120]⟩, 1, 1, 6, ⟨#[101]⟩⟩, ⟨⟨#[121]⟩, 2, 1, 7, ⟨#[109]⟩⟩, ⟨⟨#[122]⟩, 3, 1, 7, ⟨#[110]⟩⟩], []⟩], [⟨⟨#[101]⟩, [⟨⟨#[97]⟩, 0⟩]⟩], []⟩, 0, 0) := by kernel_rfl
theorem parse_wrong0 : parseA ⟨#[]⟩ = (zeroS, 0, 5) := by kernel_rfl
theorem parse_wrong1 : parseA ⟨#[115, 99, 104, 101, 109, 97]⟩ = (zeroS, 6, 5) := by kernel_rfl
theorem parse_wrong2 : parseA ⟨#[115, 99, 104, 101, 109, 97, 32, 97]⟩ = (zeroS, 8, 5) := by kernel_rfl
theorem parse_wrong3 : parseA ⟨#[115, 99, 104, 101, 109, 97, 32, 97, 59, 59]⟩ = (zeroS, 9, 5) := by kernel_rfl
theorem parse_wrong4 : parseA ⟨#[115, 99, 104, 101, 109, 97, 32, 97, 59, 32, 109, 101, 115, 115, 97, 103, 101, 32, 109, 32, 123, 32, 105, 110, 116, 51, 50, 32, 61, 32, 49, 59, 32, 125]⟩ = (zeroS, 28, 5) := by kernel_rfl
theorem parse_wrong5 : parseA ⟨#[115, 99, 104, 101, 109, 97, 32, 97, 59, 32, 109, 101, 115, 115, 97, 103, 101, 32, 109, 32, 123, 32, 114, 101, 115, 101, 114, 118, 101, 100, 32, 59, 32, 125]⟩ = (zeroS, 31, 5) := by kernel_rfl
theorem parse_wrong6 : parseA ⟨#[115, 99, 104, 101, 109, 97, 32, 97, 59, 32, 99, 97, 108, 108, 32, 99, 40, 109, 41, 32, 40, 109, 41, 59]⟩ = (zeroS, 20, 5) := by kernel_rfl
theorem parse_wrong7 : parseA ⟨#[115, 99, 104, 101, 109, 97, 32, 97, 59, 32, 109, 101, 115, 115, 97, 103, 101, 32, 109, 32, 123, 32, 105, 110, 116, 51, 50, 32, 120, 32, 61, 32, 48, 49, 59, 32, 125]⟩ = (zeroS, 32, 5) := by kernel_rfl

theorem place_le {s : ByteArray} (hs : s.size ≤ 16384) {ts : List Tk} (h : lexO s.data.toList 0 = .inr ts) (n : Nat) : placeN ts s.size n ≤ s.size := by
  unfold placeN
  split
  · exact Nat.le_refl _
  · rename_i t ht
    have := (piece_at h ht).2.1
    rw [len_data] at this
    omega
theorem name_ne {n : ByteArray} (h : nameK n.data.toList = true) : 1 ≤ n.size := by
  rw [← len_data]
  cases e : n.data.toList with
  | nil => rw [e] at h; revert h; decide
  | cons a r => simp
theorem pBind_inr {α β : Type} {x : PR α} {f : α → List ByteArray → PR β} {b : β} {r : List ByteArray} (h : pBind x f = .inr (b, r)) : ∃ a r', x = .inr (a, r') ∧ f a r' = .inr (b, r) := by
  cases x with
  | inl n => simp [pBind] at h
  | inr y => obtain ⟨a, r'⟩ := y; exact ⟨a, r', rfl, h⟩
theorem pName_inr {ts r : List ByteArray} {n : ByteArray} (h : pName ts = .inr (n, r)) : nameK n.data.toList = true := by
  unfold pName at h
  split at h
  · cases h
  · split at h
    · rename_i hk
      simp only [Sum.inr.injEq, Prod.mk.injEq] at h
      rw [← h.1]; exact hk
    · cases h
theorem pDecl_name {s s' : ScS} {ts r : List ByteArray} (h : pDecl s ts = .inr (s', r)) : s'.name = s.name := by
  unfold pDecl at h
  split at h
  · obtain ⟨m, r', _, h2⟩ := pBind_inr h
    simp only [Sum.inr.injEq, Prod.mk.injEq] at h2
    rw [← h2.1]
  · split at h
    · obtain ⟨m, r', _, h2⟩ := pBind_inr h
      simp only [Sum.inr.injEq, Prod.mk.injEq] at h2
      rw [← h2.1]
    · split at h
      · obtain ⟨m, r', _, h2⟩ := pBind_inr h
        simp only [Sum.inr.injEq, Prod.mk.injEq] at h2
        rw [← h2.1]
      · cases h
theorem pDecls_name (f : Nat) : ∀ {s s' : ScS} {ts r : List ByteArray}, pDecls f s ts = .inr (s', r) → s'.name = s.name := by
  induction f with
  | zero =>
    intro s s' ts r h
    simp only [pDecls, Sum.inr.injEq, Prod.mk.injEq] at h
    rw [h.1]
  | succ f ih =>
    intro s s' ts r h
    simp only [pDecls] at h
    split at h
    · simp only [Sum.inr.injEq, Prod.mk.injEq] at h
      rw [h.1]
    · obtain ⟨s1, r1, h1, h2⟩ := pBind_inr h
      rw [ih h2, pDecl_name h1]
theorem pText_name {sc : ScS} {ts r : List ByteArray} (h : pText ts = .inr (sc, r)) : 1 ≤ sc.name.size := by
  unfold pText at h
  obtain ⟨_, r1, _, h⟩ := pBind_inr h
  obtain ⟨n, r2, hn, h⟩ := pBind_inr h
  obtain ⟨_, r3, _, h⟩ := pBind_inr h
  rw [pDecls_name _ h]
  exact name_ne (pName_inr hn)
/-- What an answer is like: an error, and a place within the text; or a schema with a name. -/
theorem parse_like (s : ByteArray) (hs : s.size ≤ 16384) : ((parseA s).2.2 = 0 ∧ (parseA s).2.1 = 0 ∧ 1 ≤ (parseA s).1.name.size) ∨ (((parseA s).2.2 = 5 ∨ (parseA s).2.2 = 9) ∧ (parseA s).2.1 ≤ s.size ∧ (parseA s).1 = zeroS) := by
  unfold parseA
  cases h : lexO s.data.toList 0 with
  | inl x =>
    obtain ⟨p, e⟩ := x
    have he := lex_err h
    rw [len_data] at he
    rw [tokA_no hs h]
    right
    rw [if_pos (show ¬ e = 0 by omega)]
    exact ⟨by simp only; omega, by simp only; omega, rfl⟩
  | inr ts =>
    rw [tokA_ok hs h]
    simp only [ne_eq, not_true_eq_false, if_false]
    cases hp : pText (ts.map Tk.bytes) with
    | inl n => right; exact ⟨.inl rfl, place_le hs h n, rfl⟩
    | inr x =>
      obtain ⟨sc, r⟩ := x
      left
      refine ⟨rfl, rfl, ?_⟩
      show 1 ≤ sc.name.size
      exact pText_name hp
/-- The schema hangs on the pieces' texts alone. -/
theorem parse_texts {s s' : ByteArray} (hs : s.size ≤ 16384) (hs' : s'.size ≤ 16384) {ts ts' : List Tk} (h : lexO s.data.toList 0 = .inr ts) (h' : lexO s'.data.toList 0 = .inr ts') (he : ts.map Tk.bytes = ts'.map Tk.bytes) (h0 : (parseA s).2.2 = 0) : parseA s' = parseA s := by
  unfold parseA at h0 ⊢
  rw [tokA_ok hs h] at h0 ⊢
  rw [tokA_ok hs' h']
  simp only [ne_eq, not_true_eq_false, if_false] at h0 ⊢
  rw [← he]
  cases hp : pText (ts.map Tk.bytes) with
  | inl n => rw [hp] at h0; simp at h0
  | inr x => rfl
end Go.Proofs.YtkfhlgajeejgeaaGreatDoor

/- What a schema that was read is like: names that may be, kinds that are known; which name is an enumeration's. -/
namespace Go.Proofs.YtkfhlgajeejgeaaGreatDoor
open Go.ChangeShapes Go.WideShapes Go.ChangeAt Go.RowKit
set_option linter.unusedVariables false
set_option linter.unusedSimpArgs false
set_option maxRecDepth 20000

def GoodF (f : FlS) : Prop := (f.kind = 0 ∧ nameK f.tname.data.toList = true) ∨ (f.kind ≠ 0 ∧ f.tname = noT)
def GoodM (m : MsS) : Prop := ∀ f ∈ m.fields, GoodF f
def GoodS (s : ScS) : Prop := (∀ m ∈ s.msgs, GoodM m) ∧ ∀ e ∈ s.enums, nameK e.name.data.toList = true
theorem type_good {ts r : List ByteArray} {x : Int × ByteArray} (h : pType ts = .inr (x, r)) : (x.1 = 0 ∧ nameK x.2.data.toList = true) ∨ (x.1 ≠ 0 ∧ x.2 = noT) := by
  cases ts with
  | nil => simp [pType] at h
  | cons t r' =>
    unfold pType at h
    simp only at h
    split at h
    · rename_i hs
      simp only [Sum.inr.injEq, Prod.mk.injEq] at h
      right
      rw [← h.1]
      exact ⟨by simp only; omega, rfl⟩
    · obtain ⟨a, r1, h1, h2⟩ := pBind_inr h
      simp only [Sum.inr.injEq, Prod.mk.injEq] at h2
      left
      rw [← h2.1]
      exact ⟨rfl, pName_inr h1⟩
theorem field_good {ts r : List ByteArray} {f : FlS} (h : pField ts = .inr (f, r)) : GoodF f := by
  unfold pField at h
  obtain ⟨ty, r1, h1, h⟩ := pBind_inr h
  obtain ⟨n, r2, _, h⟩ := pBind_inr h
  obtain ⟨_, r3, _, h⟩ := pBind_inr h
  obtain ⟨g, r4, _, h⟩ := pBind_inr h
  obtain ⟨_, r5, _, h⟩ := pBind_inr h
  simp only [Sum.inr.injEq, Prod.mk.injEq] at h
  rw [← h.1]
  exact type_good h1
theorem member_good {m m' : MsS} {ts r : List ByteArray} (h : pMember m ts = .inr (m', r)) (hm : GoodM m) : GoodM m' := by
  unfold pMember at h
  split at h
  · obtain ⟨n, r1, _, h⟩ := pBind_inr h
    obtain ⟨l, r2, _, h⟩ := pBind_inr h
    simp only [Sum.inr.injEq, Prod.mk.injEq] at h
    rw [← h.1]; exact hm
  · obtain ⟨f, r1, h1, h⟩ := pBind_inr h
    simp only [Sum.inr.injEq, Prod.mk.injEq] at h
    rw [← h.1]
    intro x hx
    simp only [List.mem_append, List.mem_singleton] at hx
    rcases hx with hx | rfl
    · exact hm x hx
    · exact field_good h1
theorem members_good (f : Nat) : ∀ {m m' : MsS} {ts r : List ByteArray}, pMembers f m ts = .inr (m', r) → GoodM m → GoodM m' := by
  induction f with
  | zero => intro m m' ts r h; simp [pMembers] at h
  | succ f ih =>
    intro m m' ts r h hm
    simp only [pMembers] at h
    split at h
    · simp only [Sum.inr.injEq, Prod.mk.injEq] at h
      rw [← h.1]; exact hm
    · obtain ⟨m1, r1, h1, h2⟩ := pBind_inr h
      exact ih h2 (member_good h1 hm)
theorem msg_good {ts r : List ByteArray} {m : MsS} (h : pMsg ts = .inr (m, r)) : GoodM m := by
  unfold pMsg at h
  obtain ⟨n, r1, _, h⟩ := pBind_inr h
  obtain ⟨_, r2, _, h⟩ := pBind_inr h
  exact members_good _ h (fun f hf => by simp at hf)
theorem values_name (f : Nat) : ∀ {m m' : EnS} {ts r : List ByteArray}, pValues f m ts = .inr (m', r) → m'.name = m.name := by
  induction f with
  | zero => intro m m' ts r h; simp [pValues] at h
  | succ f ih =>
    intro m m' ts r h
    simp only [pValues] at h
    split at h
    · simp only [Sum.inr.injEq, Prod.mk.injEq] at h
      rw [← h.1]
    · obtain ⟨m1, r1, h1, h2⟩ := pBind_inr h
      exact ih (m := ⟨m.name, m.values ++ [m1]⟩) h2
theorem enum_good {ts r : List ByteArray} {m : EnS} (h : pEnum ts = .inr (m, r)) : nameK m.name.data.toList = true := by
  unfold pEnum at h
  obtain ⟨n, r1, h1, h⟩ := pBind_inr h
  obtain ⟨_, r2, _, h⟩ := pBind_inr h
  rw [values_name _ h]
  exact pName_inr h1
theorem decl_good {s s' : ScS} {ts r : List ByteArray} (h : pDecl s ts = .inr (s', r)) (hs : GoodS s) : GoodS s' := by
  unfold pDecl at h
  split at h
  · obtain ⟨m, r', h1, h2⟩ := pBind_inr h
    simp only [Sum.inr.injEq, Prod.mk.injEq] at h2
    rw [← h2.1]
    refine ⟨fun x hx => ?_, hs.2⟩
    simp only [List.mem_append, List.mem_singleton] at hx
    rcases hx with hx | rfl
    · exact hs.1 x hx
    · exact msg_good h1
  · split at h
    · obtain ⟨m, r', h1, h2⟩ := pBind_inr h
      simp only [Sum.inr.injEq, Prod.mk.injEq] at h2
      rw [← h2.1]
      refine ⟨hs.1, fun x hx => ?_⟩
      simp only [List.mem_append, List.mem_singleton] at hx
      rcases hx with hx | rfl
      · exact hs.2 x hx
      · exact enum_good h1
    · split at h
      · obtain ⟨m, r', _, h2⟩ := pBind_inr h
        simp only [Sum.inr.injEq, Prod.mk.injEq] at h2
        rw [← h2.1]
        exact hs
      · cases h
theorem decls_good (f : Nat) : ∀ {s s' : ScS} {ts r : List ByteArray}, pDecls f s ts = .inr (s', r) → GoodS s → GoodS s' := by
  induction f with
  | zero =>
    intro s s' ts r h hs
    simp only [pDecls, Sum.inr.injEq, Prod.mk.injEq] at h
    rw [← h.1]; exact hs
  | succ f ih =>
    intro s s' ts r h hs
    simp only [pDecls] at h
    split at h
    · simp only [Sum.inr.injEq, Prod.mk.injEq] at h
      rw [← h.1]; exact hs
    · obtain ⟨s1, r1, h1, h2⟩ := pBind_inr h
      exact ih h2 (decl_good h1 hs)
theorem text_good {sc : ScS} {ts r : List ByteArray} (h : pText ts = .inr (sc, r)) : GoodS sc := by
  unfold pText at h
  obtain ⟨_, r1, _, h⟩ := pBind_inr h
  obtain ⟨n, r2, hn, h⟩ := pBind_inr h
  obtain ⟨_, r3, _, h⟩ := pBind_inr h
  exact decls_good _ h ⟨fun m hm => by simp at hm, fun m hm => by simp at hm⟩
/-- A name's bytes. -/
theorem runesOf_ge (f : Nat) : ∀ l : List UInt8, l.length ≤ f → ∀ rs, runesOf l = some rs → l.length ≤ 4 * rs.length := by
  induction f with
  | zero =>
    intro l hl rs h
    omega
  | succ f ih =>
    intro l hl rs h
    match l with
    | [] => simp
    | a :: r =>
      cases e : nxL (a :: r) with
      | none => rw [runesOf_bad (by simp) e] at h; cases h
      | some x =>
        obtain ⟨c, k⟩ := x
        obtain ⟨_, _, _, h4, h5, hk, _⟩ := nxL_some _ _ _ e
        rw [runesOf_step e] at h
        cases e2 : runesOf ((a :: r).drop k) with
        | none => rw [e2] at h; cases h
        | some rs' =>
          rw [e2] at h
          simp at h; subst h
          have := ih _ (by simp at hl h5 ⊢; omega) _ e2
          rw [List.length_drop] at this
          simp only [List.length_cons] at this h5 ⊢
          omega
theorem name_size {t : ByteArray} (h : nameK t.data.toList = true) : t.size ≤ 80 := by
  unfold nameK at h
  simp only [Bool.and_eq_true, decide_eq_true_eq] at h
  have hc := h.1.1
  unfold countN at hc
  rw [← len_data]
  cases e : runesOf t.data.toList with
  | none => rw [e] at hc; simp at hc
  | some rs =>
    rw [e] at hc
    simp only [Option.getD_some] at hc
    have := runesOf_ge _ _ (Nat.le_refl _) _ e
    omega
/-- The kind of a field, once the enumerations are known. -/
def setF (es : List EnS) (f : FlS) : FlS := if es.any (fun e => e.name.data.toList == f.tname.data.toList) = true then ⟨f.name, f.tag, f.label, 6, f.tname⟩ else f
def setM (es : List EnS) (m : MsS) : MsS := ⟨m.name, m.fields.map (setF es), m.reserved⟩
theorem nameK_noT : nameK noT.data.toList = false := by decide +kernel
theorem set_kind {es : List EnS} {f : FlS} (hf : GoodF f) (he : ∀ e ∈ es, nameK e.name.data.toList = true) : setF es (pre7 f) = kindF es f := by
  unfold setF kindF pre7
  rcases hf with ⟨h1, h2⟩ | ⟨h1, h2⟩
  · rw [if_pos h1]
    simp only [h1, k7, if_true]
    split <;> rfl
  · rw [if_neg h1]
    have : es.any (fun e => e.name.data.toList == f.tname.data.toList) = false := by
      rw [List.any_eq_false]
      intro e hm hc
      rw [h2, beq_iff_eq] at hc
      have := he e hm
      rw [hc, nameK_noT] at this
      cases this
    rw [this]
    simp only [Bool.false_eq_true, if_false, k7, if_neg h1]
theorem set_kinds {s : ScS} (h : GoodS s) : (s.msgs.map preM).map (setM s.enums) = s.msgs.map (kindM s.enums) := by
  rw [List.map_map]
  apply List.map_congr_left
  intro m hm
  show setM s.enums (preM m) = kindM s.enums m
  unfold setM preM kindM
  simp only [List.map_map, MsS.mk.injEq, true_and, and_true]
  apply List.map_congr_left
  intro f hf
  exact set_kind (h.1 m hm f hf) h.2
end Go.Proofs.YtkfhlgajeejgeaaGreatDoor

/- A field's kind, written in place: what the rows are then. -/
namespace Go.Proofs.YtkfhlgajeejgeaaGreatDoor
open Go.ChangeShapes Go.WideShapes Go.ChangeAt Go.RowKit
set_option linter.unusedVariables false
set_option linter.unusedSimpArgs false
set_option maxRecDepth 20000

/-- A field's kind, among the cells. -/
theorem fl_set : ∀ (fs : List FlS) (j : Nat) (f : FlS) (k : Int), fs[j]? = some f → (flRows fs).flatten.set (j * 5 + 3) (.int .i64 k) = (flRows (fs.set j ⟨f.name, f.tag, f.label, k, f.tname⟩)).flatten
  | [], j, f, k, h => by simp at h
  | x :: l, 0, f, k, h => by
    obtain rfl : x = f := by simpa using h
    simp [flRows, FlS.cells]
  | x :: l, j + 1, f, k, h => by
    have ih := fl_set l j f k (by simpa using h)
    simp only [flRows, List.map_cons, List.flatten_cons, List.set_cons_succ] at ih ⊢
    rw [← ih, List.set_append_right _ _ (by simp [FlS.cells]; omega)]
    congr 1
    have : (j + 1) * 5 + 3 - x.cells.length = j * 5 + 3 := by simp [FlS.cells]; omega
    rw [this]
def kindAt (m : MsS) (j : Nat) (f : FlS) : MsS := ⟨m.name, m.fields.set j ⟨f.name, f.tag, f.label, 6, f.tname⟩, m.reserved⟩
theorem MsO.setK {w : World} {B : Nat} {v : Value} {ms : List MsS} {ps : List (Value × Value)} (h : MsO w B v ms ps) {i j q n cap : Nat} {m : MsS} {p : Value × Value} {f : FlS} (hm : ms[i]? = some m) (hp : ps[i]? = some p) (hf : m.fields[j]? = some f) (hv : p.1 = .slice (some ⟨q, 0, none⟩) n cap) :
    MsO (w.setCell ⟨q, j * 5 + 3, none⟩ (.int .i64 6)) B v (ms.set i (kindAt m j f)) ps := by
  have hb : p.1.ownBlock = some q := by rw [hv]; rfl
  have hF := (h.each i m p hm hp).1
  have hk : Kp (fun k => p.1.ownBlock = some k) w (w.setCell ⟨q, j * 5 + 3, none⟩ (.int .i64 6)) := Kp.setCell (p := ⟨q, j * 5 + 3, none⟩) (Kp.refl _ w) (fun _ => hb) _
  have hn : m.fields.length = n := by
    obtain ⟨a, c, e⟩ := own_form hF
    rw [hv] at e
    simp only [Value.slice.injEq] at e
    exact e.2.1.symm
  refine ⟨by rw [List.length_set]; exact h.len, ?_, ?_, h.apart⟩
  · have e : msRows (ms.set i (kindAt m j f)) ps = msRows ms ps := by
      apply List.ext_getElem?
      intro a
      unfold msRows
      rw [List.getElem?_zipWith, List.getElem?_zipWith, List.getElem?_set]
      by_cases ha : i = a
      · subst ha
        rw [if_pos rfl, if_pos (List.getElem?_eq_some_iff.1 hm).1, hm, hp]
        rfl
      · rw [if_neg ha]
    rw [e, List.length_set]
    exact own_kpV h.own hk (fun k hk hv' => own_apart hF h.own (by decide) k hv' hk)
  · intro a m' p' hm' hp'
    rw [List.getElem?_set] at hm'
    by_cases ha : i = a
    · subst ha
      rw [if_pos rfl] at hm'
      split at hm' <;> simp at hm'
      subst hm'
      rw [hp] at hp'
      cases hp'
      constructor
      · show World.ownsRow _ _ _ _ _ (m.fields.set j _).length (flRows (m.fields.set j _)).flatten
        rw [List.length_set, ← fl_set m.fields j f 6 hf, hv, hn]
        rw [hv, hn] at hF
        exact own_set hF _
      · exact own_kpV (h.each i m p hm hp).2 hk (fun k hk hv' => own_apart hF (h.each i m p hm hp).2 (by decide) k hv' hk)
    · rw [if_neg ha] at hm'
      exact ⟨own_kpV (h.each a m' p' hm' hp').1 hk (fun k hk hv' => ha (h.apart i a p p' k hp hp' hv' hk)), own_kpV (h.each a m' p' hm' hp').2 hk (fun k hk hv' => own_apart hF (h.each a m' p' hm' hp').2 (by decide) k hv' hk)⟩
/-- How far the kinds are set: the messages ahead of i, and of the i-th the fields ahead of j. -/
structure Part (es : List EnS) (ms ms' : List MsS) (i j : Nat) : Prop where
  len : ms'.length = ms.length
  each : ∀ (a : Nat) (m : MsS), ms[a]? = some m → ∃ m', ms'[a]? = some m' ∧ m'.name = m.name ∧ m'.reserved = m.reserved ∧ m'.fields.length = m.fields.length ∧ ∀ (b : Nat) (f : FlS), m.fields[b]? = some f → m'.fields[b]? = some (if a < i ∨ (a = i ∧ b < j) then setF es f else f)
theorem Part.start (es : List EnS) (ms : List MsS) : Part es ms ms 0 0 := ⟨rfl, fun a m hm => ⟨m, hm, rfl, rfl, rfl, fun b f hf => by rw [if_neg (by omega)]; exact hf⟩⟩
theorem Part.next {es : List EnS} {ms ms' : List MsS} {i j : Nat} {m : MsS} (h : Part es ms ms' i j) (hm : ms[i]? = some m) (hj : m.fields.length ≤ j) : Part es ms ms' (i + 1) 0 := by
  refine ⟨h.len, fun a m1 hm1 => ?_⟩
  obtain ⟨m', e1, e2, e3, e4, e5⟩ := h.each a m1 hm1
  refine ⟨m', e1, e2, e3, e4, fun b f hf => ?_⟩
  rw [e5 b f hf]
  congr 1
  by_cases ha : a = i
  · subst ha
    rw [hm] at hm1
    cases hm1
    have := (List.getElem?_eq_some_iff.1 hf).1
    rw [if_pos (by omega), if_pos (by omega)]
  · by_cases h2 : a < i
    · rw [if_pos (by omega), if_pos (by omega)]
    · rw [if_neg (by omega), if_neg (by omega)]
theorem Part.no {es : List EnS} {ms ms' : List MsS} {i j : Nat} {m : MsS} {f : FlS} (h : Part es ms ms' i j) (hm : ms[i]? = some m) (hf : m.fields[j]? = some f) (hs : setF es f = f) : Part es ms ms' i (j + 1) := by
  refine ⟨h.len, fun a m1 hm1 => ?_⟩
  obtain ⟨m', e1, e2, e3, e4, e5⟩ := h.each a m1 hm1
  refine ⟨m', e1, e2, e3, e4, fun b f1 hf1 => ?_⟩
  rw [e5 b f1 hf1]
  congr 1
  by_cases ha : a = i ∧ b = j
  · obtain ⟨rfl, rfl⟩ := ha
    rw [hm] at hm1
    cases hm1
    rw [hf] at hf1
    cases hf1
    rw [if_neg (by omega), if_pos (by omega), hs]
  · by_cases h2 : a < i ∨ (a = i ∧ b < j)
    · rw [if_pos h2, if_pos (by omega)]
    · rw [if_neg h2, if_neg (by omega)]
theorem Part.yes {es : List EnS} {ms ms' : List MsS} {i j : Nat} {m m' : MsS} {f : FlS} (h : Part es ms ms' i j) (hm : ms[i]? = some m) (hm' : ms'[i]? = some m') (hf : m.fields[j]? = some f) (hs : setF es f = ⟨f.name, f.tag, f.label, 6, f.tname⟩) : Part es ms (ms'.set i (kindAt m' j f)) i (j + 1) := by
  refine ⟨by rw [List.length_set]; exact h.len, fun a m1 hm1 => ?_⟩
  obtain ⟨m2, e1, e2, e3, e4, e5⟩ := h.each a m1 hm1
  by_cases ha : a = i
  · subst ha
    rw [hm] at hm1
    cases hm1
    rw [hm'] at e1
    cases e1
    refine ⟨kindAt m' j f, ?_, e2, e3, ?_, ?_⟩
    · rw [List.getElem?_set, if_pos rfl, if_pos (List.getElem?_eq_some_iff.1 hm').1]
    · show (m'.fields.set j _).length = _
      rw [List.length_set]; exact e4
    · intro b f1 hf1
      show (m'.fields.set j _)[b]? = _
      rw [List.getElem?_set]
      by_cases hb : j = b
      · subst hb
        rw [hf] at hf1
        cases hf1
        have hlt : j < m'.fields.length := by rw [e4]; exact (List.getElem?_eq_some_iff.1 hf).1
        rw [if_pos rfl, if_pos hlt, if_pos (by omega), hs]
      · rw [if_neg hb, e5 b f1 hf1]
        congr 1
        by_cases h2 : b < j
        · rw [if_pos (by omega), if_pos (by omega)]
        · rw [if_neg (by omega), if_neg (by omega)]
  · refine ⟨m2, ?_, e2, e3, e4, fun b f1 hf1 => ?_⟩
    · rw [List.getElem?_set, if_neg (Ne.symm ha)]; exact e1
    · rw [e5 b f1 hf1]
      congr 1
      by_cases h2 : a < i
      · rw [if_pos (by omega), if_pos (by omega)]
      · rw [if_neg (by omega), if_neg (by omega)]
theorem Part.all {es : List EnS} {ms ms' : List MsS} {i : Nat} (h : Part es ms ms' i 0) (hi : ms.length ≤ i) : ms' = ms.map (setM es) := by
  apply List.ext_getElem?
  intro a
  rw [List.getElem?_map]
  cases hm : ms[a]? with
  | none =>
    rw [List.getElem?_eq_none_iff] at hm
    rw [List.getElem?_eq_none_iff.2 (by rw [h.len]; exact hm)]; rfl
  | some m =>
    obtain ⟨m', e1, e2, e3, e4, e5⟩ := h.each a m hm
    have hlt := (List.getElem?_eq_some_iff.1 hm).1
    rw [e1]
    simp only [Option.map_some, Option.some.injEq]
    obtain ⟨n1, f1, r1⟩ := m'
    simp only at e2 e3 e4 e5
    unfold setM
    rw [e2, e3]
    congr 1
    apply List.ext_getElem?
    intro b
    rw [List.getElem?_map]
    cases hf : m.fields[b]? with
    | none =>
      rw [List.getElem?_eq_none_iff] at hf
      rw [List.getElem?_eq_none_iff.2 (by rw [e4]; exact hf)]; rfl
    | some f =>
      rw [e5 b f hf, if_pos (by omega)]; rfl
/-- A field's own cells while the kinds are being set. -/
theorem Part.get {es : List EnS} {ms ms' : List MsS} {i j : Nat} {m : MsS} {f : FlS} (h : Part es ms ms' i j) (hm : ms[i]? = some m) (hf : m.fields[j]? = some f) : ∃ m', ms'[i]? = some m' ∧ m'.fields[j]? = some f ∧ m'.fields.length = m.fields.length := by
  obtain ⟨m', e1, e2, e3, e4, e5⟩ := h.each i m hm
  refine ⟨m', e1, ?_, e4⟩
  rw [e5 j f hf, if_neg (by omega)]
end Go.Proofs.YtkfhlgajeejgeaaGreatDoor

/- What 'settle' does: each field whose type's name is an enumeration's gets that kind. -/
namespace Go.Proofs.YtkfhlgajeejgeaaGreatDoor
open Go.ChangeShapes Go.WideShapes Go.ChangeAt Go.RowKit Go.Maps
set_option linter.unusedVariables false
set_option linter.unusedSimpArgs false
set_option maxRecDepth 20000

theorem results_none {fn : Func} (h : fn.results = #[]) (tmps : Array Value) (P : Program) (w : World) : (results fn tmps).run P w = .ok (.tuple #[]) w := by
  simp [results, h]
theorem lawK : Keyed Tryz.prog 9 := string_keyed Tryz.underlying9
theorem zeroUn (w : World) : (zeroValue 121).run Tryz.prog w = .ok (.agg #[]) w := by kernel_rfl
def hasE (es : List EnS) (t : List UInt8) : Bool := es.any (fun e => e.name.data.toList == t)
theorem has_start (t : List UInt8) : Maps.has (.map [] : DataW Unit) (.string t) = hasE [] t := rfl
theorem has_next {D : DataW Unit} {es : List EnS} {e : EnS} (hD : Maps.IsMap D) (h : ∀ t, Maps.has D (.string t) = hasE es t) (u : DataW Unit) : ∀ t, Maps.has (D.put (.string e.name.data.toList) u) (.string t) = hasE (es ++ [e]) t := by
  intro t
  unfold hasE
  rw [List.any_append, List.any_cons, List.any_nil, Bool.or_false]
  by_cases he : e.name.data.toList = t
  · subst he
    rw [Maps.has_put_same hD (by simp [WideAt.IsKeyLit])]
    simp
  · rw [Maps.has_put_other (by intro c; cases c; exact he rfl), h t]
    have : (e.name.data.toList == t) = false := by rw [beq_eq_false_iff_ne]; exact he
    rw [this, Bool.or_false]
    rfl
theorem take_snoc {α : Type} {l : List α} {k : Nat} {x : α} (h : l[k]? = some x) : l.take (k + 1) = l.take k ++ [x] := by
  rw [List.take_add_one, h]; rfl
/-- The blocks that 'settle' writes to. -/
def FB (pm : List (Value × Value)) (k : Nat) : Prop := ∃ (i : Nat) (p : Value × Value), pm[i]? = some p ∧ p.1.ownBlock = some k
set_option maxHeartbeats 4000000 in
theorem settle_any {w : World} {B : Nat} {vm ve vt : Value} {nm : ByteArray} {ms : List MsS} {es : List EnS} {pm : List (Value × Value)} {pe : List Value} (hM : MsO w B vm ms pm) (hE : EnO w B ve es pe) (hT : ∃ a n c, vt = .slice a n c)
    (hes : ∀ e ∈ es, e.name.size ≤ 80) (hms : ∀ m ∈ ms, ∀ f ∈ m.fields, f.tname.size ≤ 80) :
    Calls Tryz.prog 64 #[.agg #[.string nm, vm, ve, vt]] w fun e w' => e = .returned (.tuple #[]) ∧ MsO w' B vm (ms.map (setM es)) pm ∧ Kp (FB pm) w w' := by
  obtain ⟨ta, tn, tc, rfl⟩ := hT
  have hl1 := own_le hM.own
  have hl2 := own_le hE.own
  obtain ⟨ma, mc, hvm⟩ := own_form hM.own
  obtain ⟨ea, ec, hve⟩ := own_form hE.own
  subst hvm
  subst hve
  obtain ⟨nM, hnM⟩ : ∃ n, ms.length = n := ⟨_, rfl⟩
  obtain ⟨nE, hnE⟩ : ∃ n, es.length = n := ⟨_, rfl⟩
  rw [hnM] at hl1 hM ⊢
  rw [hnE] at hl2 hE ⊢
  have HNM : Hid (ms.length = nM) := hnM
  have HNE : Hid (es.length = nE) := hnE
  have HM0 : Hid (MsO w B (.slice ma nM mc) ms pm) := hM
  have HE0 : Hid (EnO w B (.slice ea nE ec) es pe) := hE
  have HES : Hid (∀ e ∈ es, e.name.size ≤ 80) := hes
  have HMS : Hid (∀ m ∈ ms, ∀ f ∈ m.fields, f.tname.size ≤ 80) := hms
  clear hnM hnE hM hE hes hms
  have hmm := @run_makeMap Tryz.prog
  go_enter Tryz.func64, Tryz.ntmps64
  go_wp2_with fail
  clear hmm
  have HOM0 := World.ownsMap_made (H := Unit) (w.alloc (.cells #[.string nm, .slice ma nM mc, .slice ea nE ec, .slice ta tn tc] 26)) Tryz.prog 9 unitElem
  rw [show (w.alloc (.cells #[.string nm, .slice ma nM mc, .slice ea nE ec, .slice ta tn tc] 26)).heap.size = w.heap.size + 1 by simp] at HOM0
  have HOM1 : Hid _ := HOM0
  clear HOM0
  have BX0 : Blk ((w.alloc (.cells #[.string nm, .slice ma nM mc, .slice ea nE ec, .slice ta tn tc] 26)).alloc (.map #[] 0)) w.heap.size #[.string nm, .slice ma nM mc, .slice ea nE ec, .slice ta tn tc] 26 := (Blk.new w _ _).below ((Below.refl _ _).alloc (Nat.le_refl _) _)
  have hb0 : Below w.heap.size w ((w.alloc (.cells #[.string nm, .slice ma nM mc, .slice ea nE ec, .slice ta tn tc] 26)).alloc (.map #[] 0)) := ((Below.refl _ _).alloc (Nat.le_refl _) _).alloc (by simp) _
  obtain ⟨Bx, hBx⟩ : ∃ n, w.heap.size = n := ⟨_, rfl⟩
  rw [hBx] at HOM1 BX0 hb0 ⊢
  have HBx : Hid (w.heap.size = Bx) := hBx
  clear hBx
  go_loopw [15] (fun iv wr => ∃ (k : Nat) (D : DataW Unit), iv = .int .i64 (k : Int) ∧ k ≤ nE ∧ Hid (wr.ownsMap Tryz.prog 9 (unitElem (H := Unit)) (Bx + 1) k D) ∧ Hid (∀ t, Maps.has D (.string t) = hasE (es.take k) t) ∧ Below Bx w wr ∧ Blk wr Bx #[.string nm, .slice ma nM mc, .slice ea nE ec, .slice ta tn tc] 26) (fun iv _ => nE - (intOf iv).toNat)
  case atStart => exact ⟨0, _, rfl, by omega, HOM1, fun t => has_start t, hb0, BX0⟩
  case round =>
    obtain ⟨k, D, rfl, hk, HOM, HHas, hbel, BX⟩ := hrel
    clear HOM1 hb0 BX0
    by_cases hlt : k < nE
    · have hbw : Below w.heap.size w wr := by rw [HBx.out]; exact hbel
      have hE := HE0.out.below hbw
      obtain ⟨q, cap, hq, hq2, hq3, hq4, hq5⟩ := own_addr hE.own (by rw [HNE.out]; omega)
      simp only [Value.slice.injEq] at hq
      obtain ⟨rfl, hx, rfl⟩ := hq
      clear hx
      obtain ⟨e, he⟩ : ∃ e, es[k]? = some e := ⟨_, List.getElem?_eq_getElem (by rw [HNE.out]; exact hlt)⟩
      obtain ⟨p, hp⟩ : ∃ p, pe[k]? = some p := ⟨_, List.getElem?_eq_getElem (by rw [hE.len, HNE.out]; exact hlt)⟩
      have hown := hE.own
      rw [HNE.out] at hown
      have c0 := own_at (en_len es pe) hown (en_get he hp) (j := 0) rfl
      have c1 := own_at (en_len es pe) hown (en_get he hp) (j := 1) rfl
      obtain ⟨pa, pc, hpv⟩ := own_form (hE.each k e p he hp)
      subst hpv
      rw [Nat.add_zero] at c0
      have hkey := WideMaps.keyOf_string_mk (P := Tryz.prog) (k := 9) Tryz.underlying9 (s := e.name) (by have := HES.out e (List.mem_of_getElem? he); unfold maxLen; omega)
      have HHas2 : Hid (∀ t, Maps.has (D.put (.string e.name.data.toList) (.agg [])) (.string t) = hasE (es.take (k + 1)) t) := by
        rw [take_snoc he]
        exact has_next HOM.out.isMap HHas.out _
      obtain ⟨nV, hnV⟩ : ∃ n, e.values.length = n := ⟨_, rfl⟩
      rw [hnV] at c1
      have hBw : Bx ≤ wr.heap.size := by have := hbel.size; rw [HBx.out] at this; exact this
      have hXw : Bx < wr.heap.size := BX.lt
      clear hE hown hp he hnV HHas hbw hq2 hq3 hq4 hq5
      obtain ⟨enm, evs⟩ := e
      simp only at c0 c1 hkey HHas2
      go_wp2_with (first
        | (at_mapUpdate; refine wpList_mapUpdate_own _ rfl _ _ _ 78 rfl 9 121 lawK Tryz.underlying78 (unitElem (H := Unit)) (Bx + 1) k _ rfl (HOM.out.alloc _) (by unfold maxLen; omega) _ _ _ rfl rfl hkey _ [] unitElem_mk ?_; intro w1 hown1 hgrow1)
        | fail)
      have hb1 : Below Bx w w1 := (hbel.alloc hBw _).grown hgrow1 (by simp; omega) (fun k hk => by cases hk; omega)
      have BX1 := (BX.below ((Below.refl _ _).alloc (Nat.le_refl _) (.cells #[.string enm, .slice pa nV pc] 47)))
      have BX2 : Blk w1 Bx #[.string nm, .slice ma nM mc, .slice (some ⟨q, 0, none⟩) nE ec, .slice ta tn tc] 26 := (hgrow1.block Bx (by simp; omega) (by simp)).trans BX1
      have HOM2 : Hid _ := hown1
      clear hown1 hgrow1 BX1 HOM hbel BX c0 c1 hkey
      go_wp2_with fail
      go_roundw
      case rel => exact ⟨k + 1, _, rfl, by omega, HOM2, HHas2, hb1, BX2⟩
      case measure => simp [intOf]; omega
    · obtain rfl : k = nE := by omega
      have HH : Hid (∀ t, Maps.has D (.string t) = hasE es t) := by
        have := HHas.out
        rw [List.take_of_length_le (by rw [HNE.out]; omega)] at this
        exact this
      have hbw : Below w.heap.size w wr := by rw [HBx.out]; exact hbel
      have HM1 : Hid (MsO wr B (.slice ma nM mc) ms pm) := HM0.out.below hbw
      have KF : Kp (FB pm) w wr := Kp.ofBelow hbw
      have HHigh : Hid (∀ (i : Nat) (p : Value × Value) (k : Nat), pm[i]? = some p → p.1.ownBlock = some k → k < Bx) := by
        have := HM0.out.high
        rw [HBx.out] at this
        exact this
      have b1 := BX.cell 1
      simp only [List.getElem?_toArray, List.getElem?_cons_succ, List.getElem?_cons_zero] at b1
      clear HHas hbw hbel HE0 HES
      go_wp2_with fail
      clear b1 BX
      go_loopw [27] (fun iv wr => ∃ (i : Nat) (ms' : List MsS), iv = .int .i64 (i : Int) ∧ i ≤ nM ∧ Hid (Part es ms ms' i 0) ∧ Hid (MsO wr B (.slice ma nM mc) ms' pm) ∧ Hid (wr.ownsMap Tryz.prog 9 (unitElem (H := Unit)) (Bx + 1) k D) ∧ Kp (FB pm) w wr) (fun iv _ => nM - (intOf iv).toNat)
      case atStart => exact ⟨0, ms, rfl, by omega, Part.start es ms, HM1, HOM, KF⟩
      case round =>
        obtain ⟨i, ms', rfl, hi, HP, HM, HOM, KF⟩ := hrel
        clear HM1
        by_cases hilt : i < nM
        · obtain ⟨m, hm⟩ : ∃ m, ms[i]? = some m := ⟨_, List.getElem?_eq_getElem (by rw [HNM.out]; exact hilt)⟩
          obtain ⟨m', e1, e2, e3, e4, e5⟩ := HP.out.each i m hm
          have hMO := HM.out
          have hl' : ms'.length = nM := by rw [HP.out.len, HNM.out]
          obtain ⟨p, hp⟩ : ∃ p, pm[i]? = some p := ⟨_, List.getElem?_eq_getElem (by rw [hMO.len, hl']; exact hilt)⟩
          obtain ⟨q, cap, hq, hq2, hq3, hq4, hq5⟩ := own_addr hMO.own (by rw [hl']; omega)
          rw [hl'] at hq hq2
          simp only [Value.slice.injEq, true_and] at hq
          obtain ⟨rfl, rfl⟩ := hq
          have hown := hMO.own
          rw [hl'] at hown
          have c0 := own_at (ms_len ms' pm) hown (ms_get e1 hp) (j := 0) rfl
          have c1 := own_at (ms_len ms' pm) hown (ms_get e1 hp) (j := 1) rfl
          have c2 := own_at (ms_len ms' pm) hown (ms_get e1 hp) (j := 2) rfl
          rw [Nat.add_zero] at c0
          obtain ⟨pv, pr⟩ := p
          obtain ⟨pa, pc, hpv⟩ := own_form (hMO.each i m' _ e1 hp).1
          simp only at hpv
          subst hpv
          obtain ⟨ra, rc, hpv⟩ := own_form (hMO.each i m' _ e1 hp).2
          simp only at hpv
          subst hpv
          simp only at c0 c1 c2
          obtain ⟨nF, hnF⟩ : ∃ n, m.fields.length = n := ⟨_, rfl⟩
          have HNF : Hid (m.fields.length = nF) := hnF
          rw [e4, hnF] at c1
          have HP1 : Hid (pm[i]? = some (.slice pa nF pc, .slice ra m'.reserved.length rc)) := by rw [← hnF, ← e4]; exact hp
          have hnF2 : nF ≤ 9223372036854775807 := by rw [← hnF, ← e4]; exact own_le (hMO.each i m' _ e1 hp).1
          have HMm : Hid (ms[i]? = some m) := hm
          generalize m'.reserved.length = nR at *
          generalize m'.name = nm' at *
          have HM2 : Hid (MsO (wr.alloc (.cells #[.string nm', .slice pa nF pc, .slice ra nR rc] 40)) B (.slice (some ⟨q, 0, none⟩) nM mc) ms' pm) := HM.out.below ((Below.refl _ _).alloc (Nat.le_refl _) _)
          have HOM2 : Hid ((wr.alloc (.cells #[.string nm', .slice pa nF pc, .slice ra nR rc] 40)).ownsMap Tryz.prog 9 (unitElem (H := Unit)) (Bx + 1) k D) := HOM.out.alloc _
          have KF2 := KF.alloc (.cells #[.string nm', .slice pa nF pc, .slice ra nR rc] 40)
          have BC2 := Blk.new wr #[.string nm', .slice pa nF pc, .slice ra nR rc] 40
          have hBC : Bx ≤ wr.heap.size := by have := KF.size; rw [HBx.out] at this; exact this
          clear hMO hown e1 e2 e3 e4 e5 hp hm hl' hnF HM HOM KF hq2 hq3 hq4 hq5
          go_wp2_with fail
          clear c0 c1 c2
          generalize wr.alloc (.cells #[.string nm', .slice pa nF pc, .slice ra nR rc] 40) = wz at *
          generalize wr.heap.size = Cb at *
          go_loopw [34] (fun jv wr => ∃ (j : Nat) (ms' : List MsS), jv = .int .i64 (j : Int) ∧ j ≤ nF ∧ Hid (Part es ms ms' i j) ∧ Hid (MsO wr B (.slice (some ⟨q, 0, none⟩) nM mc) ms' pm) ∧ Hid (wr.ownsMap Tryz.prog 9 (unitElem (H := Unit)) (Bx + 1) k D) ∧ Kp (FB pm) w wr ∧ Blk wr Cb #[.string nm', .slice pa nF pc, .slice ra nR rc] 40) (fun jv _ => nF - (intOf jv).toNat)
          case atStart => exact ⟨0, ms', rfl, by omega, HP, HM2, HOM2, KF2, BC2⟩
          case round =>
            obtain ⟨j, ms2, rfl, hj, HP, HM, HOM, KF, BC⟩ := hrel
            clear HM2 HOM2 KF2 BC2
            by_cases hjlt : j < nF
            · obtain ⟨f, hf⟩ : ∃ f, m.fields[j]? = some f := ⟨_, List.getElem?_eq_getElem (by rw [HNF.out]; exact hjlt)⟩
              obtain ⟨m2, g1, g2, g3⟩ := HP.out.get HMm.out hf
              have hF := (HM.out.each i m2 _ g1 HP1.out).1
              simp only at hF
              rw [g3, HNF.out] at hF
              obtain ⟨q2, cap2, hq, hq2, hq3, hq4, hq5⟩ := own_addr hF (by omega)
              simp only [Value.slice.injEq, true_and] at hq
              obtain ⟨rfl, rfl⟩ := hq
              have d3 := own_at (fl_len m2.fields) hF (fl_get g2) (j := 3) rfl
              have d4 := own_at (fl_len m2.fields) hF (fl_get g2) (j := 4) rfl
              have fz3 := own_froz hF (j * 5 + 3)
              have hqB : q2 < Bx := HHigh.out i _ q2 HP1.out rfl
              have hkey := WideMaps.keyOf_string_mk (P := Tryz.prog) (k := 9) Tryz.underlying9 (s := f.tname) (by have := HMS.out m (List.mem_of_getElem? HMm.out) f (List.mem_of_getElem? hf); unfold maxLen; omega)
              have cb1 := BC.cell 1
              simp only [List.getElem?_toArray, List.getElem?_cons_succ, List.getElem?_cons_zero] at cb1
              have d3a : ∀ o, (wr.alloc o).cell? ⟨q2, j * 5 + 3, none⟩ = some (.int .i64 f.kind) := fun o => by rw [World.cell?_alloc_past _ _ _ hq5]; exact d3
              have f3a : ∀ o, (wr.alloc o).frozen? ⟨q2, j * 5 + 3, none⟩ = false := fun o => by rw [World.frozen?_alloc_past _ _ _ hq5]; exact fz3
              have HG : Hid (ms2[i]? = some m2 ∧ m2.fields[j]? = some f ∧ m.fields[j]? = some f) := ⟨g1, g2, hf⟩
              have hqc : q2 < Cb ∨ True := .inr trivial
              clear hF g1 g2 g3 hf hq2 hq3 hq4 hq5 d3 fz3
              cases hb : hasE es f.tname.data.toList with
              | true =>
                have hhas : Maps.has D (.string f.tname.data.toList) = true := by rw [HH.out]; exact hb
                have HS : Hid (setF es f = ⟨f.name, f.tag, f.label, 6, f.tname⟩) := by
                  show _ = _
                  unfold setF
                  exact if_pos hb
                clear hb
                go_wp2_with (first | (at_lookup; refine wpList_lookup_own_unit _ rfl _ _ 78 rfl 9 121 lawK Tryz.underlying78 (zeroUn _) (Bx + 1) k _ rfl HOM.out _ _ rfl hkey ?_) | fail)
                obtain ⟨g1, g2, g3⟩ := HG.out
                have HP3 : Hid (Part es ms (ms2.set i (kindAt m2 j f)) i (j + 1)) := HP.out.yes HMm.out g1 g3 HS.out
                have HM3 : Hid (MsO ((wr.alloc (.cells #[] 121)).setCell ⟨q2, j * 5 + 3, none⟩ (.int .i64 6)) B (.slice (some ⟨q, 0, none⟩) nM mc) (ms2.set i (kindAt m2 j f)) pm) := (HM.out.below ((Below.refl _ _).alloc (Nat.le_refl _) _)).setK g1 HP1.out g2 rfl
                have HOM3 : Hid (((wr.alloc (.cells #[] 121)).setCell ⟨q2, j * 5 + 3, none⟩ (.int .i64 6)).ownsMap Tryz.prog 9 (unitElem (H := Unit)) (Bx + 1) k D) := (HOM.out.alloc _).setCell (by simp only; omega) _
                have KF3 : Kp (FB pm) w ((wr.alloc (.cells #[] 121)).setCell ⟨q2, j * 5 + 3, none⟩ (.int .i64 6)) := Kp.setCell (p := ⟨q2, j * 5 + 3, none⟩) (KF.alloc _) (fun _ => ⟨i, _, HP1.out, rfl⟩) _
                have BC3 := (BC.below ((Below.refl _ _).alloc (Nat.le_refl _) (.cells #[] 121))).other (a := ⟨q2, j * 5 + 3, none⟩) (by simp only; omega) (.int .i64 6)
                clear g1 g2 g3
                go_roundw
                case rel => exact ⟨j + 1, _, rfl, by omega, HP3, HM3, HOM3, KF3, BC3⟩
                case measure => simp [intOf]; omega
              | false =>
                have hhas : Maps.has D (.string f.tname.data.toList) = false := by rw [HH.out]; exact hb
                have HS : Hid (setF es f = f) := by
                  show _ = _
                  unfold setF
                  rw [if_neg (by unfold hasE at hb; rw [hb]; simp)]
                clear hb
                go_wp2_with (first | (at_lookup; refine wpList_lookup_own_unit _ rfl _ _ 78 rfl 9 121 lawK Tryz.underlying78 (zeroUn _) (Bx + 1) k _ rfl HOM.out _ _ rfl hkey ?_) | fail)
                obtain ⟨g1, g2, g3⟩ := HG.out
                have HP3 : Hid (Part es ms ms2 i (j + 1)) := HP.out.no HMm.out g3 HS.out
                have HM3 : Hid (MsO (wr.alloc (.cells #[] 121)) B (.slice (some ⟨q, 0, none⟩) nM mc) ms2 pm) := HM.out.below ((Below.refl _ _).alloc (Nat.le_refl _) _)
                have HOM3 : Hid ((wr.alloc (.cells #[] 121)).ownsMap Tryz.prog 9 (unitElem (H := Unit)) (Bx + 1) k D) := HOM.out.alloc _
                have KF3 : Kp (FB pm) w (wr.alloc (.cells #[] 121)) := KF.alloc _
                have BC3 := BC.below ((Below.refl _ _).alloc (Nat.le_refl _) (.cells #[] 121))
                clear g1 g2 g3
                go_roundw
                case rel => exact ⟨j + 1, _, rfl, by omega, HP3, HM3, HOM3, KF3, BC3⟩
                case measure => simp [intOf]; omega
            · have HP3 : Hid (Part es ms ms2 (i + 1) 0) := HP.out.next HMm.out (by rw [HNF.out]; omega)
              go_wp2_with fail
              go_roundw
              case rel => exact ⟨i + 1, _, rfl, by omega, HP3, HM, HOM, KF⟩
              case measure => simp [intOf]; omega
        · have eM : ms' = ms.map (setM es) := HP.out.all (by rw [HNM.out]; omega)
          subst eM
          go_wp2_with fail
          refine bodyPost_end (results_none rfl _ _ _) rfl ?_
          exact ⟨rfl, HM.out, KF⟩
end Go.Proofs.YtkfhlgajeejgeaaGreatDoor

/- What the program's Parse answers, at every text. -/
namespace Go.Proofs.YtkfhlgajeejgeaaGreatDoor
open Go.ChangeShapes Go.WideShapes Go.ChangeAt Go.RowKit
set_option linter.unusedVariables false
set_option linter.unusedSimpArgs false
set_option maxRecDepth 20000

theorem results_three {fn : Func} {p u v : Tmp} {ty : TypeId} (h : fn.results = #[.cell p ty, .tmp u, .tmp v]) (tmps : Array Value) (P : Program) (w : World) (a : Addr) (x : Value) (ha : (asAddr (tmps.getD p undef)).run P w = .ok a w) (hl : (loadVar ty a).run P w = .ok x w) :
    (results fn tmps).run P w = .ok (.tuple #[x, tmps.getD u undef, tmps.getD v undef]) w := by
  simp only [results, h]
  simp only [Array.getD_eq_getD_getElem?] at ha
  simp [Sem.run_bind, Result.andThen, ha, hl]
theorem lex_few {l : List UInt8} {ts : List Tk} (h : lexO l 0 = .inr ts) : ts.length ≤ l.length := by
  have step : ∀ i, i ≤ ts.length → i ≤ endOf (ts.take i) := by
    intro i
    induction i with
    | zero => intro _; omega
    | succ i ih =>
      intro hi
      obtain ⟨e1, e2, e3, e4, e5, _⟩ := piece_at h (List.getElem?_eq_getElem (show i < ts.length by omega))
      have := ih (by omega)
      omega
  cases hn : ts.length with
  | zero => omega
  | succ n =>
    obtain ⟨e1, e2, e3, e4, e5, _⟩ := piece_at h (List.getElem?_eq_getElem (show n < ts.length by omega))
    have := step (n + 1) (by omega)
    omega
/-- Texts that Tokens takes. -/
theorem tokA_zero {s : ByteArray} {ts : List Tk} {p : Nat} (h : tokA s = (ts, p, 0)) : s.size ≤ 16384 ∧ lexO s.data.toList 0 = .inr ts ∧ p = 0 := by
  unfold tokA at h
  split at h
  · simp at h
  · rename_i hs
    cases hl : lexO s.data.toList 0 with
    | inl x =>
      obtain ⟨q, e⟩ := x
      have he := lex_err hl
      rw [hl] at h
      simp only [ansA, Prod.mk.injEq] at h
      omega
    | inr x =>
      rw [hl] at h
      simp only [ansA, Prod.mk.injEq] at h
      exact ⟨by omega, by rw [h.1], h.2.1.symm⟩
theorem tok_few {s : ByteArray} {ts : List Tk} {p : Nat} (h : tokA s = (ts, p, 0)) : ts.length ≤ 16384 ∧ ∀ t ∈ ts, t.bytes.size ≤ 16384 := by
  obtain ⟨h1, h2, _⟩ := tokA_zero h
  have h3 := lex_few h2
  rw [len_data] at h3
  refine ⟨by omega, fun t ht => ?_⟩
  obtain ⟨i, hi⟩ := List.getElem?_of_mem ht
  obtain ⟨_, e2, _⟩ := piece_at h2 hi
  rw [len_data] at e2
  have : t.bytes.size = t.text.length := by simp [Tk.bytes, ByteArray.size]
  omega
/-- Where the reader stands. -/
theorem Rd.pos_at {w : World} {g : Nat} {V : Value} {ts : List Tk} {E : Nat} {σ : Sg} (h : Rd w g V ts E σ) {n : Nat} (hlt : n < ts.length) :
    ∃ q cap, V = .slice (some ⟨q, 0, none⟩) ts.length cap ∧ ts.length ≤ cap ∧ cap ≤ 9223372036854775807 ∧ w.cell? ⟨q, n * 3 + 2, none⟩ = some (.int .i64 ((ts[n].pos : Nat) : Int)) := by
  obtain ⟨a, cap, h1, h2, h3, h4, h5⟩ := h.row
  have hne : ts ≠ [] := by intro e; subst e; simp at hlt
  obtain ⟨q, rfl, _⟩ := h4 hne
  obtain ⟨_, _, b3⟩ := h5.at0 (List.getElem?_eq_getElem hlt)
  exact ⟨q, cap, h1, h2, by unfold maxLen at h3; omega, b3⟩
set_option maxHeartbeats 1000000 in
theorem rplace_any {w : World} {g : Nat} {V : Value} {ts : List Tk} {E : Nat} {σ : Sg} (h : Rd w g V ts E σ) :
    Calls Tryz.prog 63 #[.pointer (some ⟨g, 0, none⟩)] w fun e w' => e = .returned (.int .i64 ((placeN ts E (leftS σ) : Nat) : Int)) ∧ Below w.heap.size w w' := by
  obtain ⟨n, hn, hm, c0, c1, c2, c3, f1, f3⟩ := h.open
  by_cases hlt : n < ts.length
  · obtain ⟨q, cap, rfl, hcap, hcap2, b3⟩ := h.pos_at hlt
    have e : placeN ts E (leftS σ) = ts[n].pos := by
      unfold placeN
      rw [show ts.length - leftS σ = n by omega, List.getElem?_eq_getElem hlt]
    rw [e]
    generalize ts[n].pos = P at *
    clear h e
    have hd : ((n : Int) == (ts.length : Int)) = false := by rw [beq_eq_false_iff_ne]; omega
    generalize ts.length = N at *
    clear hn
    go_enter Tryz.func63, Tryz.ntmps63
    go_wp2_with fail
    go_quiet (fail)
    go_wp2_with fail
    go_quiet (fail)
    go_wp2_with fail
    go_ret
    exact ⟨rfl, below_drewN _ (below_drewN _ (Below.refl _ _))⟩
  · have e : placeN ts E (leftS σ) = E := by
      unfold placeN
      rw [List.getElem?_eq_none (by omega)]
    rw [e]
    obtain ⟨a, cap, rfl⟩ := h.form
    obtain rfl : n = ts.length := by omega
    clear h e hlt hn
    generalize ts.length = N at *
    have hd : ((N : Int) == (N : Int)) = true := by simp
    go_enter Tryz.func63, Tryz.ntmps63
    go_wp2_with fail
    go_quiet (fail)
    go_wp2_with fail
    go_ret
    exact ⟨rfl, below_drewN _ (Below.refl _ _)⟩
theorem parse_no {s : ByteArray} {ts : List Tk} {p n : Nat} (hA : tokA s = (ts, p, 0)) (hQ : pText (ts.map Tk.bytes) = .inl n) : parseA s = (zeroS, placeN ts s.size n, 5) := by
  unfold parseA
  simp only [hA, ne_eq, not_true_eq_false, if_false, hQ]
theorem parse_yes {s : ByteArray} {ts : List Tk} {p : Nat} {x : ScS} {r : List ByteArray} (hA : tokA s = (ts, p, 0)) (hQ : pText (ts.map Tk.bytes) = .inr (x, r)) : parseA s = (kindS x, 0, 0) := by
  unfold parseA
  simp only [hA, ne_eq, not_true_eq_false, if_false, hQ]
theorem parse_err {s : ByteArray} {ts : List Tk} {p e : Nat} (hA : tokA s = (ts, p, e)) (he : e ≠ 0) : parseA s = (zeroS, p, e) := by
  unfold parseA
  simp only [hA]
  rw [if_pos he]
/-- A schema that lies in blocks from B on. -/
def ScF (w : World) (B : Nat) (v : Value) (s : ScS) : Prop := ∃ vm ve vt pm pe, v = .agg #[.string s.name, vm, ve, vt] ∧ MsO w B vm s.msgs pm ∧ EnO w B ve s.enums pe ∧ w.ownsRow B 54 3 vt s.methods.length (mtRows s.methods).flatten
theorem ScF.zero (w : World) (B : Nat) : ScF w B (.agg #[.string ⟨#[]⟩, .slice none 0 0, .slice none 0 0, .slice none 0 0]) zeroS := ⟨_, _, _, [], [], rfl, MsO.nil _ _, EnO.nil _ _, World.ownsRow_nil _ _ _ _⟩
theorem ScF.to_in {w : World} {B : Nat} {v : Value} {s : ScS} (h : ScF w B v s) : ScIn w v s := by
  obtain ⟨vm, ve, vt, pm, pe, rfl, h1, h2, h3⟩ := h
  exact ⟨vm, ve, vt, rfl, h1.to_in, h2.to_in, mt_in h3⟩
theorem ScF.kp {S : Nat → Prop} {w w1 : World} {B : Nat} {v : Value} {s : ScS} (h : ScF w B v s) (hk : Kp S w w1) (hs : ∀ k, B ≤ k → ¬ S k) : ScF w1 B v s := by
  obtain ⟨vm, ve, vt, pm, pe, rfl, h1, h2, h3⟩ := h
  exact ⟨vm, ve, vt, pm, pe, rfl, h1.kp hk hs, h2.kp hk hs, own_kp h3 hk hs⟩
/-- A reader newly laid, at the first piece. -/
theorem Rd.new {w : World} {V : Value} {ts : List Tk} {E : Nat} (hG : Glob w) (hr : RowT w V ts) (h1 : ts.length ≤ 16384) (h2 : ∀ t ∈ ts, t.bytes.size ≤ 16384) :
    Rd (w.alloc (.cells #[V, .int .i64 0, .int .i64 (E : Int), .bool false] 105)) w.heap.size V ts E (.inr (ts.map Tk.bytes)) := by
  have hb : Below w.heap.size w (w.alloc (.cells #[V, .int .i64 0, .int .i64 (E : Int), .bool false] 105)) := (Below.refl _ _).alloc (Nat.le_refl _) _
  obtain ⟨a, cap, e1, e2, e3, e4, e5⟩ := hr.form
  refine ⟨hG.below hb, hG.lt, ?_, by simp [leftS], ?_, ⟨a, cap, e1, e2, e3, ?_, e5.below hb⟩, fun t ht => by have := h2 t ht; omega, by omega⟩
  · simp only [leftS, List.length_map, Nat.sub_self, badS]
    exact heap_alloc_new w _
  · intro r hr'
    simp only [Sum.inr.injEq] at hr'
    subst hr'
    simp
  · intro hne
    obtain ⟨q, hq⟩ := e4 hne
    refine ⟨q, hq, ?_⟩
    have hlt : 0 < ts.length := by cases ts with | nil => exact absurd rfl hne | cons t r => simp
    rw [hq] at e5
    obtain ⟨c0, _, _⟩ := e5.at0 (List.getElem?_eq_getElem hlt)
    exact World.block_lt_of_cell? _ _ c0
set_option maxHeartbeats 4000000 in
theorem parse_any (s : ByteArray) (w : World) (hs : s.size ≤ 140737488351232) (hG : Glob w) :
    Calls Tryz.prog 36 #[.string s] w fun e w' => ∃ v, e = .returned (.tuple #[v, .int .i64 ((parseA s).2.1 : Int), .int .i64 ((parseA s).2.2 : Int)]) ∧ ScF w' w.heap.size v (parseA s).1 ∧ Below w.heap.size w w' := by
  obtain ⟨⟨ts, p, e⟩, hA⟩ : ∃ A, tokA s = A := ⟨_, rfl⟩
  have HA : Hid (tokA s = (ts, p, e)) := hA
  have HTok : Hid (∀ W : World, Calls Tryz.prog 61 #[.string s] W fun x w' => ∃ v, x = .returned (.tuple #[v, .int .i64 (p : Int), .int .i64 (e : Int)]) ∧ RowT w' v ts ∧ Below W.heap.size W w') := fun W => tokens_row s W hs ts p e hA
  have hb0 : Below w.heap.size w (w.alloc (.cells #[.string ⟨#[]⟩, .slice none 0 0, .slice none 0 0, .slice none 0 0] 26)) := (Below.refl _ _).alloc (Nat.le_refl _) _
  have B0 := Blk.new w #[.string ⟨#[]⟩, .slice none 0 0, .slice none 0 0, .slice none 0 0] 26
  obtain ⟨R, hR⟩ : ∃ R, w.heap.size = R := ⟨_, rfl⟩
  have HR : Hid (w.heap.size = R) := hR
  have hG0 := hG.below hb0
  rw [hR] at hb0 B0
  by_cases he : e = 0
  · subst he
    obtain ⟨hf1, hf2⟩ := tok_few hA
    obtain ⟨z1, z2, rfl⟩ := tokA_zero hA
    have HF : Hid (ts.length ≤ 16384 ∧ ∀ t ∈ ts, t.bytes.size ≤ 16384) := ⟨hf1, hf2⟩
    obtain ⟨Q, hQ⟩ : ∃ Q, pText (ts.map Tk.bytes) = Q := ⟨_, rfl⟩
    have HQ : Hid (pText (ts.map Tk.bytes) = Q) := hQ
    have HPn : Hid (∀ n, Q = .inl n → parseA s = (zeroS, placeN ts s.size n, 5)) := fun n e => parse_no hA (hQ.trans e)
    have HPy : Hid (∀ x r, Q = .inr (x, r) → parseA s = (kindS x, 0, 0) ∧ GoodS x) := fun x r e => ⟨parse_yes hA (hQ.trans e), text_good (hQ.trans e)⟩
    clear hQ hA z1 z2 hf1 hf2 HA
    go_enter Tryz.func36, Tryz.ntmps36
    go_wp2_with fail
    refine (HTok.out _).mono ?_
    rintro e w1 ⟨V, rfl, hrow, hb1⟩
    clear hR
    have B1 := B0.below hb1
    have hb1' : Below R w w1 := hb0.trans (hb1.mono (by simp [HR.out]))
    have hG1 := hG0.below hb1
    have hRd := Rd.new (E := s.size) hG1 hrow HF.out.1 HF.out.2
    have B2 := B1.below ((Below.refl _ _).alloc (Nat.le_refl _) (.cells #[V, .int .i64 0, .int .i64 (s.size : Int), .bool false] 105))
    have hb2 : Below R w (w1.alloc (.cells #[V, .int .i64 0, .int .i64 (s.size : Int), .bool false] 105)) := hb1'.alloc (by have := hb1'.size; have := HR.out; omega) _
    have hRg : R < w1.heap.size := B1.lt
    obtain ⟨va, vc, hV⟩ := hRd.form
    subst hV
    clear B1 hb1' hG1 hb1 hrow hG0 B0 hb0 HTok
    obtain ⟨nT, hnT⟩ : ∃ n, ts.length = n := ⟨_, rfl⟩
    rw [hnT] at hRd B2 hb2 ⊢
    go_wp2_with fail
    generalize hw2 : w1.alloc (.cells #[.slice va nT vc, .int .i64 0, .int .i64 (s.size : Int), .bool false] 105) = w2 at *
    generalize w1.heap.size = g at *
    clear hw2 hnT
    refine (rschema_any hRd).mono ?_
    rintro e w3 ⟨sc, vm, ve, vt, pm, pe, B, rfl, rsc, h3, k3, hB3, HM, HE, HT⟩
    have e0 : pOn (.inr (ts.map Tk.bytes)) pText = Q := HQ.out
    rw [e0] at h3 rsc
    have B3 := B2.kp k3 (by omega)
    have hb3 : Below R w w3 := hb2.trans (k3.toBelow (by have := B2.lt; omega) (fun k hk => by omega))
    have hg2 : g < w2.heap.size := hRd.lt
    clear e0 hRd k3 B2 hb2 HQ
    obtain ⟨ma, mc, hv⟩ := own_form HM.own
    subst hv
    obtain ⟨ea, ec, hv⟩ := own_form HE.own
    subst hv
    obtain ⟨ta, tc, hv⟩ := own_form HT
    subst hv
    obtain ⟨nM, hnM⟩ : ∃ n, (sc.msgs.map preM).length = n := ⟨_, rfl⟩
    obtain ⟨nE, hnE⟩ : ∃ n, sc.enums.length = n := ⟨_, rfl⟩
    obtain ⟨nC, hnC⟩ : ∃ n, sc.methods.length = n := ⟨_, rfl⟩
    rw [hnM] at HM ⊢
    rw [hnE] at HE ⊢
    have HT' := HT
    rw [hnC] at HT ⊢
    have HNC : Hid (sc.methods.length = nC) := hnC
    clear hnM hnE hnC
    have HM3 : Hid _ := HM
    have HE3 : Hid _ := HE
    have HT3 : Hid _ := HT
    clear HM HE HT HT'
    have hbA : Below w3.heap.size w3 (w3.alloc (.cells #[.string sc.name, .slice ma nM mc, .slice ea nE ec, .slice ta nC tc] 26)) := (Below.refl _ _).alloc (Nat.le_refl _) _
    have h4 := h3.below hbA
    have B4 := B3.below hbA
    have BA := Blk.new w3 #[.string sc.name, .slice ma nM mc, .slice ea nE ec, .slice ta nC tc] 26
    have hb4 : Below R w (w3.alloc (.cells #[.string sc.name, .slice ma nM mc, .slice ea nE ec, .slice ta nC tc] 26)) := hb3.alloc (by have := B3.lt; omega) _
    have HM4 : Hid _ := HM3.out.below hbA
    have HE4 : Hid _ := HE3.out.below hbA
    have HT4 : Hid _ := own_below HT3.out hbA
    have hAb : R < w3.heap.size := B3.lt
    have hgA : g < w3.heap.size := h3.lt
    clear h3 B3 hb3 HM3 HE3 HT3
    obtain ⟨n, hn, hm, c0, c1, c2, c3, f1, f3⟩ := h4.open
    clear hn hm c0 c1 c2 f1 f3
    cases Q with
    | inl n =>
      have HP2 : Hid (parseA s = (zeroS, placeN ts s.size n, 5)) := HPn.out n rfl
      simp only [stX, badS] at h4 c3
      go_wp2_with fail
      generalize w3.alloc (.cells #[.string sc.name, .slice ma nM mc, .slice ea nE ec, .slice ta nC tc] 26) = w4 at *
      generalize w3.heap.size = Ab at *
      clear hbA c3
      refine (rplace_any h4).mono ?_
      rintro e w5 ⟨rfl, hb5⟩
      have B5 := B4.below hb5
      have hb5' : Below R w w5 := hb4.trans (hb5.mono (by have := B4.lt; omega))
      simp only [leftS]
      generalize hpl : placeN ts s.size n = pl at *
      clear hpl HM4 HE4 HT4 h4 hb4 hb5 B4 BA
      have r0 := B5.cell 0
      have r1 := B5.cell 1
      have r2 := B5.cell 2
      have r3 := B5.cell 3
      have f0 := B5.froz 0
      have f1 := B5.froz 1
      have f2 := B5.froz 2
      have f3 := B5.froz 3
      simp only [List.getElem?_toArray, List.getElem?_cons_succ, List.getElem?_cons_zero] at r0 r1 r2 r3
      go_wp2_with fail
      refine bodyPost_ret (results_three rfl _ _ _ ⟨R, 0, none⟩ (.agg #[.string ⟨#[]⟩, .slice none 0 0, .slice none 0 0, .slice none 0 0]) (by go_simp) (by go_simp)) rfl ?_
      rw [HP2.out]
      refine ⟨_, rfl, ScF.zero _ _, ?_⟩
      rw [HR.out]
      exact (((hb5'.setCell (Nat.le_refl _) _).setCell (Nat.le_refl _) _).setCell (Nat.le_refl _) _).setCell (Nat.le_refl _) _
    | inr x =>
      obtain ⟨x, r⟩ := x
      have := rsc x r rfl
      subst this
      obtain ⟨q1, q2⟩ := HPy.out sc r rfl
      have HP2 : Hid (parseA s = (kindS sc, 0, 0)) := q1
      have HGd : Hid (GoodS sc) := q2
      clear q1 q2 HPn HPy rsc
      simp only [stX, badS] at h4 c3
      have HES : Hid (∀ e ∈ sc.enums, e.name.size ≤ 80) := fun e he => name_size (HGd.out.2 e he)
      have HMS : Hid (∀ m ∈ sc.msgs.map preM, ∀ f ∈ m.fields, f.tname.size ≤ 80) := by
        intro m hm f hf
        simp only [List.mem_map] at hm
        obtain ⟨m0, hm0, rfl⟩ := hm
        simp only [preM, List.mem_map] at hf
        obtain ⟨f0, hf0, rfl⟩ := hf
        rcases HGd.out.1 m0 hm0 f0 hf0 with ⟨_, e⟩ | ⟨_, e⟩
        · exact name_size e
        · show f0.tname.size ≤ 80
          rw [e]; decide
      have a0 := BA.cell 0
      have a1 := BA.cell 1
      have a2 := BA.cell 2
      have a3 := BA.cell 3
      simp only [List.getElem?_toArray, List.getElem?_cons_succ, List.getElem?_cons_zero] at a0 a1 a2 a3
      go_wp2_with fail
      generalize w3.alloc (.cells #[.string sc.name, .slice ma nM mc, .slice ea nE ec, .slice ta nC tc] 26) = w4 at *
      generalize w3.heap.size = Ab at *
      clear hbA c3 a0 a1 a2 a3
      refine (settle_any HM4.out HE4.out ⟨_, _, _, rfl⟩ HES.out HMS.out).mono ?_
      rintro e w5 ⟨rfl, hM5, k5⟩
      have hFB : ∀ k, FB pm k → B ≤ k ∧ ∃ (i : Nat) (p : Value × Value) (m : MsS), pm[i]? = some p ∧ p.1.ownBlock = some k ∧ w4.ownsRow B 44 5 p.1 m.fields.length (flRows m.fields).flatten := by
        rintro k ⟨i, p, hp, hk⟩
        have hi : i < (sc.msgs.map preM).length := by rw [← HM4.out.len]; exact (List.getElem?_eq_some_iff.1 hp).1
        have := (HM4.out.each i _ p (List.getElem?_eq_getElem hi) hp).1
        exact ⟨(this.lt k hk).1, i, p, _, hp, hk, this⟩
      have HE5 : Hid (EnO w5 B (.slice ea nE ec) sc.enums pe) := by
        refine ⟨HE4.out.len, own_kpV HE4.out.own k5 (fun k hk hS => ?_), fun i e p he hp => own_kpV (HE4.out.each i e p he hp) k5 (fun k hk hS => ?_)⟩
        · obtain ⟨_, _, _, _, _, hb, hf⟩ := hFB k hS
          exact own_apart hf HE4.out.own (by decide) k hb hk
        · obtain ⟨_, _, _, _, _, hb, hf⟩ := hFB k hS
          exact own_apart hf (HE4.out.each i e p he hp) (by decide) k hb hk
      have HT5 : Hid (w5.ownsRow B 54 3 (.slice ta nC tc) nC (mtRows sc.methods).flatten) := own_kpV HT4.out k5 (fun k hk hS => by
        obtain ⟨_, _, _, _, _, hb, hf⟩ := hFB k hS
        exact own_apart hf HT4.out (by decide) k hb hk)
      have B5 := B4.kp k5 (fun hS => by have := (hFB _ hS).1; omega)
      have BA5 := BA.kp k5 (fun hS => by
        obtain ⟨_, _, _, _, _, hb, hf⟩ := hFB _ hS
        exact absurd (own_type hf hb BA) (by decide))
      have hb5 : Below R w w5 := hb4.trans (k5.toBelow (by have := B4.lt; omega) (fun k hS => by have := (hFB k hS).1; omega))
      have HM5 : Hid (MsO w5 B (.slice ma nM mc) (sc.msgs.map (kindM sc.enums)) pm) := by
        have := hM5
        rw [set_kinds HGd.out] at this
        exact this
      clear hM5 k5 hFB HM4 HE4 HT4 h4 hb4 B4 BA HES HMS HGd
      have a0 := BA5.cell 0
      have a1 := BA5.cell 1
      have a2 := BA5.cell 2
      have a3 := BA5.cell 3
      have r0 := B5.cell 0
      have r1 := B5.cell 1
      have r2 := B5.cell 2
      have r3 := B5.cell 3
      have f0 := B5.froz 0
      have f1 := B5.froz 1
      have f2 := B5.froz 2
      have f3 := B5.froz 3
      simp only [List.getElem?_toArray, List.getElem?_cons_succ, List.getElem?_cons_zero] at a0 a1 a2 a3 r0 r1 r2 r3
      go_wp2_with fail
      refine bodyPost_ret (results_three rfl _ _ _ ⟨R, 0, none⟩ (.agg #[.string sc.name, .slice ma nM mc, .slice ea nE ec, .slice ta nC tc]) (by go_simp) (by go_simp)) rfl ?_
      have k6 : Kp (fun k => k = R) w5 ((((w5.setCell ⟨R, 0, none⟩ (.string sc.name)).setCell ⟨R, 1, none⟩ (.slice ma nM mc)).setCell ⟨R, 2, none⟩ (.slice ea nE ec)).setCell ⟨R, 3, none⟩ (.slice ta nC tc)) := Kp.setCell (p := ⟨R, 3, none⟩) (Kp.setCell (p := ⟨R, 2, none⟩) (Kp.setCell (p := ⟨R, 1, none⟩) (Kp.setCell (p := ⟨R, 0, none⟩) (Kp.refl (fun k => k = R) w5) (fun _ => rfl) _) (fun _ => rfl) _) (fun _ => rfl) _) (fun _ => rfl) _
      rw [HP2.out]
      refine ⟨_, rfl, ⟨_, _, _, pm, pe, rfl, ?_, ?_, ?_⟩, ?_⟩
      · exact (HM5.out.kp k6 (fun k hk => by omega)).base (by rw [HR.out]; omega)
      · exact (HE5.out.kp k6 (fun k hk => by omega)).base (by rw [HR.out]; omega)
      · show World.ownsRow _ _ _ _ _ sc.methods.length _
        rw [HNC.out]
        exact own_base (own_kp HT5.out k6 (fun k hk => by omega)) (by rw [HR.out]; omega)
      · rw [HR.out]
        exact (((hb5.setCell (Nat.le_refl _) _).setCell (Nat.le_refl _) _).setCell (Nat.le_refl _) _).setCell (Nat.le_refl _) _
  · have HP2 : Hid (parseA s = (zeroS, p, e)) := parse_err hA he
    have hd : ((e : Int) == 0) = false := by rw [beq_eq_false_iff_ne]; omega
    clear hA HA he
    go_enter Tryz.func36, Tryz.ntmps36
    go_wp2_with fail
    refine (HTok.out _).mono ?_
    rintro x w1 ⟨V, rfl, hrow, hb1⟩
    clear hR
    have B1 := B0.below hb1
    have hb1' : Below R w w1 := hb0.trans (hb1.mono (by simp [HR.out]))
    have r0 := B1.cell 0
    have r1 := B1.cell 1
    have r2 := B1.cell 2
    have r3 := B1.cell 3
    have f0 := B1.froz 0
    have f1 := B1.froz 1
    have f2 := B1.froz 2
    have f3 := B1.froz 3
    simp only [List.getElem?_toArray, List.getElem?_cons_succ, List.getElem?_cons_zero] at r0 r1 r2 r3
    clear hb1 hrow hG0 B0 hb0 HTok
    go_wp2_with fail
    refine bodyPost_ret (results_three rfl _ _ _ ⟨R, 0, none⟩ (.agg #[.string ⟨#[]⟩, .slice none 0 0, .slice none 0 0, .slice none 0 0]) (by go_simp) (by go_simp)) rfl ?_
    rw [HP2.out]
    refine ⟨_, rfl, ScF.zero _ _, ?_⟩
    rw [HR.out]
    exact (((hb1'.setCell (Nat.le_refl _) _).setCell (Nat.le_refl _) _).setCell (Nat.le_refl _) _).setCell (Nat.le_refl _) _
end Go.Proofs.YtkfhlgajeejgeaaGreatDoor

/- The document's example of layer 6 holds: awake answers true; the closed texts. -/
namespace Go.Proofs.YtkfhlgajeejgeaaGreatDoor
open Go.ChangeShapes Go.WideShapes Go.ChangeAt Go.RowKit
set_option linter.unusedVariables false
set_option linter.unusedSimpArgs false
set_option maxRecDepth 20000

theorem parse_row (s : ByteArray) (w : World) (hs : s.size ≤ 140737488351232) (hG : Glob w) (sc : ScS) (p e : Nat) (h : parseA s = (sc, p, e)) :
    Calls Tryz.prog 36 #[.string s] w fun x w' => ∃ vm ve vt, x = .returned (.tuple #[.agg #[.string sc.name, vm, ve, vt], .int .i64 (p : Int), .int .i64 (e : Int)]) ∧ MsIn w' vm sc.msgs ∧ EnIn w' ve sc.enums ∧ RowG w' vt 3 (mtRows sc.methods) ∧ Below w.heap.size w w' := by
  refine (parse_any s w hs hG).mono ?_
  rintro x w' ⟨v, rfl, hF, hb⟩
  obtain ⟨vm, ve, vt, rfl, h1, h2, h3⟩ := hF.to_in
  rw [h] at h1 h2 h3 ⊢
  exact ⟨vm, ve, vt, rfl, h1, h2, h3, hb⟩
/-- A slice's form, from its row. -/
theorem ms_form {w : World} {v : Value} {ms : List MsS} (h : MsIn w v ms) : ∃ a c, v = .slice a ms.length c := by
  obtain ⟨a, cap, e1, _⟩ := h.open
  exact ⟨a, cap, e1⟩
theorem en_form {w : World} {v : Value} {ms : List EnS} (h : EnIn w v ms) : ∃ a c, v = .slice a ms.length c := by
  obtain ⟨a, cap, e1, _⟩ := h.open
  exact ⟨a, cap, e1⟩
theorem row_form {w : World} {v : Value} {size : Nat} {rs : List (List Value)} (h : RowG w v size rs) : ∃ a c, v = .slice a rs.length c := by
  obtain ⟨a, cap, e1, _⟩ := h.open
  exact ⟨a, cap, e1⟩
end Go.Proofs.YtkfhlgajeejgeaaGreatDoor
