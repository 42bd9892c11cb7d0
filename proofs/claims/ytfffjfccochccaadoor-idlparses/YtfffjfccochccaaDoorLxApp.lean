/- Plain facts on pieces: texts put behind one another; blanks behind a sign. -/
import Derived.Test.YtfffjfccochccaaDoorLxBlank
import Derived.Test.YtfffjfccochccaaDoorLxNum
namespace Go.Proofs.YtfffjfccochccaaDoor
open Go.RowKit
set_option linter.unusedVariables false
set_option linter.unusedSimpArgs false
set_option maxRecDepth 20000

theorem app_drop (a b : List UInt8) (n : Nat) : (a ++ b).drop (a.length + n) = b.drop n := by
  rw [List.drop_append, List.drop_eq_nil_of_le (by omega), List.nil_append, show a.length + n - a.length = n from by omega]
theorem StepAt.app {a b : List UInt8} {pos e : Nat} {t : Tk} (h : StepAt b pos t e) : StepAt (a ++ b) (a.length + pos) (shiftT a.length t) (a.length + e) := by
  obtain ⟨c, m, h1, h2, h3, h4, h5, h6⟩ := h
  have hp : (shiftT a.length t).pos = a.length + t.pos := by show t.pos + a.length = _; omega
  refine ⟨c, m, ?_, ?_, h3, h4, ?_, ?_⟩
  · rw [hp, app_drop, h1]; omega
  · rw [hp, app_drop]; exact h2
  · rw [hp, app_drop]; exact h5
  · rw [hp, app_drop]
    show a.length + e = a.length + t.pos + pieceN t.kind m (b.drop t.pos)
    omega
/-- A text that ends with a piece, and another one behind it. -/
theorem Read.app {a b : List UInt8} {x y : List Tk} {p : Nat} (ha : Read a a.length x) (hr : Rests x b) (hb : Read b p y) : Read (a ++ b) (a.length + p) (x ++ y.map (shiftT a.length)) := by
  refine Read.ind (fun p y => Read (a ++ b) (a.length + p) (x ++ y.map (shiftT a.length))) ?_ ?_ _ y rfl p hb
  · rw [List.map_nil, List.append_nil, Nat.add_zero]
    refine ha.move ?_ ?_
    · rw [List.take_append_of_le_length (Nat.le_refl _)]
    · have := app_drop a b 0
      rw [Nat.add_zero, List.drop_zero] at this
      rw [this]; exact hr
  · intro pos acc t e h hs ih
    rw [List.map_append, List.map_cons, List.map_nil, ← List.append_assoc]
    exact ih.step hs.app
theorem Read.whole {l : List UInt8} {x : List Tk} (h : Read l l.length x) : lexO l 0 = .inr x := h.fin (by rw [List.drop_eq_nil_of_le (Nat.le_refl _), skipN_nil]; omega)
theorem rests_skip {x : List Tk} {b : List UInt8} (h : 0 < skipN b) : Rests x b := fun t _ => contB_skip h
theorem rests_nil (b : List UInt8) : Rests [] b := fun t h => by simp at h
theorem rests_sign {x : List Tk} {t : Tk} (h : t.kind = 3) (b : List UInt8) : Rests (x ++ [t]) b := fun t' h' => by
  rw [List.getLast?_append] at h'
  simp at h'
  subst h'
  rw [h]
  unfold contB
  cases nxL b with
  | none => rfl
  | some y => simp [goesB]
/-- One piece alone, with blanks ahead of it. -/
theorem read_one {g w : List UInt8} {c m : Nat} (hg : skipN (g ++ w) = g.length) (hn : nxL w = some (c, m)) (hk : kindN c ≠ 0) (hw : pieceN (kindN c) m w = w.length) : Read (g ++ w) (g ++ w).length [⟨kindN c, w, g.length⟩] := by
  have hd : (g ++ w).drop g.length = w := by have := app_drop g w 0; rwa [Nat.add_zero, List.drop_zero] at this
  have h : StepAt (g ++ w) 0 ⟨kindN c, w, g.length⟩ (g.length + w.length) := by
    refine ⟨c, m, ?_, ?_, hk, rfl, ?_, ?_⟩
    · rw [List.drop_zero, hg]; show g.length = 0 + g.length; omega
    · show nxL ((g ++ w).drop g.length) = _; rw [hd]; exact hn
    · show w = ((g ++ w).drop g.length).take (pieceN (kindN c) m ((g ++ w).drop g.length)); rw [hd, hw, List.take_length]
    · show g.length + w.length = g.length + pieceN (kindN c) m ((g ++ w).drop g.length); rw [hd, hw]
  have := Read.start.step h
  rw [List.nil_append] at this
  rwa [List.length_append]

/-- A sign's byte is in no other piece. -/
theorem nx_byte {l : List UInt8} {c m j : Nat} {a : UInt8} (h : nxL l = some (c, m)) (hj : j < m) (ha : l[j]? = some a) (hs : a.toNat < 128) : m = 1 ∧ c = a.toNat ∧ j = 0 := by
  match l with
  | [] => simp [nxL] at h
  | x :: r =>
    rcases nx_small h with ⟨h1, h2, h3⟩ | ⟨h1, h2⟩
    · have : j = 0 := by omega
      subst this
      simp at ha
      subst ha
      exact ⟨h3, h2, rfl⟩
    · exfalso
      simp only [nxL] at h
      rw [if_neg (by omega)] at h
      match j, ha with
      | 0, ha => simp at ha; subst ha; omega
      | j + 1, ha =>
        simp only [List.getElem?_cons_succ] at ha
        split at h
        · split at h
          · rename_i b r'
            split at h
            · rename_i g
              simp only [Option.some.injEq, Prod.mk.injEq] at h
              have : j = 0 := by omega
              subst this
              simp at ha
              subst ha
              have := g.1
              simp [ctU] at this; omega
            · cases h
          · cases h
        · split at h
          · split at h
            · rename_i b c' r'
              split at h
              · rename_i g
                simp only [Option.some.injEq, Prod.mk.injEq] at h
                have g1 := g.1
                have g2 := g.2.1
                simp [ctU] at g1 g2
                match j, ha with
                | 0, ha => simp at ha; subst ha; omega
                | 1, ha => simp at ha; subst ha; omega
                | j + 2, ha => omega
              · cases h
            · cases h
          · split at h
            · split at h
              · rename_i b c' d' r'
                split at h
                · rename_i g
                  simp only [Option.some.injEq, Prod.mk.injEq] at h
                  have g1 := g.1
                  have g2 := g.2.1
                  have g3 := g.2.2.1
                  simp [ctU] at g1 g2 g3
                  match j, ha with
                  | 0, ha => simp at ha; subst ha; omega
                  | 1, ha => simp at ha; subst ha; omega
                  | 2, ha => simp at ha; subst ha; omega
                  | j + 3, ha => omega
                · cases h
              · cases h
            · cases h
theorem run_byte (k : Nat) (f : Nat) : ∀ l : List UInt8, l.length ≤ f → ∀ (j : Nat) (a : UInt8), j < runN k l → l[j]? = some a → a.toNat < 128 → goesB k a.toNat = true := by
  induction f with
  | zero =>
    intro l hl j a hj ha hs
    have : l = [] := List.length_eq_zero_iff.1 (by omega)
    subst this
    simp at ha
  | succ f ih =>
    intro l hl j a hj ha hs
    cases e : contB k l with
    | false => rw [runN_stop0 e] at hj; omega
    | true =>
      cases e2 : nxL l with
      | none => rw [contB_none e2] at e; cases e
      | some x =>
        obtain ⟨c, m⟩ := x
        obtain ⟨h4, h5⟩ := nx_len e2
        rw [contB_yes e2] at e
        rw [runN_yes e2 e] at hj
        by_cases hjm : j < m
        · obtain ⟨_, h, _⟩ := nx_byte e2 hjm ha hs
          rw [← h]; exact e
        · refine ih (l.drop m) (by rw [List.length_drop]; omega) (j - m) a (by omega) ?_ hs
          rw [List.getElem?_drop, show m + (j - m) = j from by omega]; exact ha
/-- Where a sign's byte stands in a piece, that is the sign. -/
theorem step_sign {l : List UInt8} {pos e q : Nat} {t : Tk} {a : UInt8} (h : StepAt l pos t e) (h1 : t.pos ≤ q) (h2 : q < e) (ha : l[q]? = some a) (hs : signB a.toNat = true) : q + 1 = e ∧ t.kind = 3 := by
  have hlt : a.toNat < 128 := by unfold signB at hs; simp only [decide_eq_true_eq] at hs; omega
  have hnl : letB a.toNat = false := by unfold signB at hs; unfold letB; simp only [decide_eq_true_eq] at hs; rw [decide_eq_false (by omega)]
  have hnd : digB a.toNat = false := by unfold signB at hs; unfold digB; simp only [decide_eq_true_eq] at hs; rw [decide_eq_false (by omega)]
  obtain ⟨c, m, g1, g2, g3, g4, g5, g6⟩ := h
  have ha' : (l.drop t.pos)[q - t.pos]? = some a := by rw [List.getElem?_drop, show t.pos + (q - t.pos) = q from by omega]; exact ha
  by_cases hm : q - t.pos < m
  · obtain ⟨k1, k2, k3⟩ := nx_byte g2 hm ha' hlt
    have hk : kindN c = 3 := by unfold kindN; rw [k2, if_neg (by simp [hnl]), if_neg (by simp [hnd]), if_pos hs]
    have hp : pieceN t.kind m (l.drop t.pos) = 1 := by
      rw [g4, hk, k1]
      unfold pieceN
      rw [runN_stop0]
      unfold contB
      cases nxL ((l.drop t.pos).drop 1) with
      | none => rfl
      | some x => simp [goesB]
    exact ⟨by omega, by rw [g4, hk]⟩
  · exfalso
    have := run_byte t.kind _ ((l.drop t.pos).drop m) (Nat.le_refl _) (q - t.pos - m) a (by unfold pieceN at g6; omega) (by rw [List.getElem?_drop, show m + (q - t.pos - m) = q - t.pos from by omega]; exact ha') hlt
    simp [goesB, hnl, hnd] at this
/-- Without a slash a gap is blanks. -/
theorem gap_blank (l : List UInt8) : ∀ (j : Nat) (a : UInt8), j < skipN l → l[j]? = some a → (∀ i x, i ≤ j → l[i]? = some x → x.toNat ≠ 47) → blankB a = true := by
  induction l with
  | nil => intro j a hj ha _; simp at ha
  | cons x r ih =>
    intro j a hj ha hn
    have hx : x.toNat ≠ 47 := hn 0 x (by omega) rfl
    by_cases hb : blankB x = true
    · match j, ha with
      | 0, ha => simp at ha; subst ha; exact hb
      | j + 1, ha =>
        refine ih j a ?_ (by simpa using ha) (fun i y hi hy => hn (i + 1) y (by omega) (by simpa using hy))
        have : skipN (x :: r) = 1 + skipN r := by simp [skipN, skipG, hb]
        omega
    · have : skipN (x :: r) = 0 := by
        simp only [skipN, skipG]
        rw [if_neg hb, if_neg (fun h => hx h.1)]
      omega
/-- Behind a sign that no slash stands ahead of, a piece ends. -/
theorem read_to (l : List UInt8) (ts : List Tk) (h : lexO l 0 = .inr ts) (k : Nat) (a : UInt8) (ha : l[k]? = some a) (hs : signB a.toNat = true) (hn : ∀ i x, i ≤ k → l[i]? = some x → x.toNat ≠ 47) :
    ∀ (f pos i : Nat), l.length - pos ≤ f → pos ≤ k → Read l pos (ts.take i) → i ≤ ts.length → ∃ j t, j ≤ ts.length ∧ Read l (k + 1) (ts.take j) ∧ (ts.take j).getLast? = some t ∧ t.kind = 3 := by
  have hkl := (List.getElem?_eq_some_iff.1 ha).1
  have hnb : blankB a = false := by unfold signB at hs; unfold blankB; simp only [decide_eq_true_eq] at hs; rw [decide_eq_false (by omega)]
  intro f
  induction f with
  | zero => intro pos i hf hp _ _; omega
  | succ f ih =>
    intro pos i hf hp hr hi
    have hgap : pos + skipN (l.drop pos) ≤ k := by
      by_cases hc : pos + skipN (l.drop pos) ≤ k
      · exact hc
      · exfalso
        have := gap_blank (l.drop pos) (k - pos) a (by omega) (by rw [List.getElem?_drop, show pos + (k - pos) = k from by omega]; exact ha)
          (fun i' x hi' hx => hn (pos + i') x (by omega) (by rwa [List.getElem?_drop] at hx))
        rw [hnb] at this; cases this
    by_cases hil : i < ts.length
    · obtain ⟨_, _, _, _, f5, _, g7, g8⟩ := piece_at h (i := i) (t := ts[i]) (List.getElem?_eq_getElem hil)
      have he : endOf (ts.take i) = pos := hr.endOf
      rw [he] at g7 g8
      have hb := g8.bd
      have hq := g8
      obtain ⟨c, m, q1, _⟩ := hq
      obtain ⟨E, hE⟩ : ∃ E, ts[i].pos + ts[i].text.length = E := ⟨_, rfl⟩
      rw [hE] at g8 hb
      have hst : Read l E (ts.take (i + 1)) := by
        rw [List.take_succ_eq_append_getElem hil]
        exact hr.step g8
      by_cases hkE : k < E
      · obtain ⟨k1, k2⟩ := step_sign g8 (by omega) hkE ha hs
        refine ⟨i + 1, ts[i], by omega, by rw [k1]; exact hst, ?_, k2⟩
        rw [List.take_succ_eq_append_getElem hil, List.getLast?_append]
        simp
      · exact ih E (i + 1) (by omega) (by omega) hst (by omega)
    · exfalso
      have hti : ts.take i = ts := List.take_of_length_le (by omega)
      rw [hti] at hr
      obtain ⟨pos', h1, h2⟩ := lex_ok h
      have e1 := hr.endOf
      have e2 := h1.endOf
      rw [e1] at e2
      subst e2
      omega
/-- Blanks behind a sign turn nothing but places. -/
theorem lex_behind {l b : List UInt8} {ts : List Tk} (hb : Blanks b) (h : lexO l 0 = .inr ts) {k : Nat} {a : UInt8} (ha : l[k]? = some a) (hs : signB a.toNat = true) (hn : ∀ i x, i ≤ k → l[i]? = some x → x.toNat ≠ 47) :
    ∃ j, lexO (l.take (k + 1) ++ b ++ l.drop (k + 1)) 0 = .inr (ts.take j ++ (ts.drop j).map (shiftT b.length)) ∧ j ≤ ts.length := by
  obtain ⟨j, t, hj, hR, hl, hk⟩ := read_to l ts h k a ha hs hn l.length 0 0 (by omega) (by omega) (by rw [List.take_zero]; exact Read.start) (by omega)
  have hkl := (List.getElem?_eq_some_iff.1 ha).1
  have htk : (l.take (k + 1)).length = k + 1 := by rw [List.length_take]; omega
  have hd : (l.take (k + 1) ++ b ++ l.drop (k + 1)).drop (k + 1) = b ++ l.drop (k + 1) := by
    have := app_drop (l.take (k + 1)) (b ++ l.drop (k + 1)) 0
    rwa [Nat.add_zero, htk, List.drop_zero, ← List.append_assoc] at this
  have hread : Read (l.take (k + 1) ++ b ++ l.drop (k + 1)) (k + 1) (ts.take j) := by
    refine hR.move ?_ ?_
    · rw [List.append_assoc, List.take_append_of_le_length (by omega), List.take_take, Nat.min_self]
    · rw [hd]
      exact rests_skip (by rw [hb.2]; have := hb.1; omega)
  have hd2 : ((l.take (k + 1) ++ b ++ l.drop (k + 1)).drop (k + 1)).drop b.length = l.drop (k + 1) := by
    have := app_drop b (l.drop (k + 1)) 0
    rw [hd]
    rwa [Nat.add_zero, List.drop_zero] at this
  refine ⟨j, ?_, hj⟩
  rw [hread.rest, lexO_skip (j := b.length) (by rw [hd2, hd, hb.2]) (by rw [hd, List.length_append]; omega), hd2]
  have h2 := hR.rest
  rw [h] at h2
  obtain ⟨r, hr1, hr2⟩ := catA_inr h2.symm
  have hr3 : r = ts.drop j := by
    have := congrArg (List.drop j) hr2
    rw [List.drop_append, List.length_take, Nat.min_eq_left (by omega), Nat.sub_self, List.drop_eq_nil_of_le (by rw [List.length_take]; omega)] at this
    simpa using this
  have h3 : lexO (l.drop (k + 1)) (k + 1 + b.length) = shiftA b.length (lexO (l.drop (k + 1)) (k + 1)) := lexF_shift _ _ _ _
  rw [h3, hr1, hr3]
  rfl
theorem shift_texts (x : List Tk) (n : Nat) : (x.map (shiftT n)).map Tk.bytes = x.map Tk.bytes := by
  rw [List.map_map]; rfl
end Go.Proofs.YtfffjfccochccaaDoor
