/- A schema that is being made: one thing more of each kind. -/
import Derived.Test.YtomeppgmmlaibaaLmRow
namespace Go.Proofs.Ytomeppgmmlaibaa
open Go.ChangeShapes Go.WideShapes Go.ChangeAt Go.RowKit
set_option linter.unusedVariables false
set_option linter.unusedSimpArgs false
set_option maxRecDepth 20000

section
variable {w w1 : World} {B bt : Nat} {vm vf vr ve vv vt v' : Value} {pe : List Value} {a b c d e f : Nat}
theorem kp_grown {row : Option Nat} (hg : w.grownBy w1 row) : Kp (fun k => row = some k) w w1 := (Kp.refl _ _).grown hg (fun k hk _ => hk)
/-- Two writes: a row of one type, and a block of another. -/
theorem kp_two {t t2 : TypeId} {sz n b i : Nat} {v u : Value} {xs : List Value} {cs : Array Value} (ho : w.ownsRow B t sz v n xs) (hg : w.grownBy w1 v.ownBlock) (hb : ∃ o, w.heap[b]? = some (.cells o t2 (0, 0))) :
    Kp (fun k => v.ownBlock = some k ∨ k = b) w (w1.setCell ⟨b, i, none⟩ u) ∧ ∀ k o t', w.heap[k]? = some (.cells o t' (0, 0)) → (v.ownBlock = some k ∨ k = b) → t' = t ∨ t' = t2 := by
  refine ⟨(kp_grown hg).cell1 u, fun k o t' hk hS => ?_⟩
  rcases hS with hS | rfl
  · exact .inl (own_ty ho hS hk)
  · obtain ⟨o', ho'⟩ := hb
    exact .inr (blk_ty (cs := o') ho' hk)
theorem kp_set (w : World) (b i : Nat) (u : Value) : Kp (fun k => k = b) w (w.setCell ⟨b, i, none⟩ u) := by
  refine Kp.setCell ?_ (fun _ => by simp) _
  exact Kp.refl _ _
theorem LmO.addM (h : LmO w bt vm nilV nilV ve vv vt pe a 0 0 d e f) (ho : w1.ownsRow (bt + 1) 35 3 v' (a + 1) ((msRows (msL a 0 0) (lmP a nilV nilV)).flatten ++ [.string (nmB a), nilV, nilV])) (hg : w.grownBy w1 vm.ownBlock) :
    LmO (w1.setCell ⟨bt, 1, none⟩ v') bt v' nilV nilV ve vv vt pe (a + 1) 0 0 d e f := by
  have KA := kp_grown hg
  have B1 : Blk w1 bt #[.string aB, vm, ve, vt] 26 := h.blk.kp KA (fun hk => absurd (own_type h.ms.own hk h.blk) (by decide))
  obtain ⟨KS, hS⟩ := kp_two (i := 1) (u := v') (cs := #[]) h.ms.own hg ⟨_, h.blk⟩
  refine ⟨B1.set 1 v' rfl, ⟨?_, World.ownsRow_nil _ _ _ _, World.ownsRow_nil _ _ _ _⟩, h.en.beside KS (fun k o t hk hs => ?_), mt_beside h.mt KS (fun k o t hk hs => ?_)⟩
  · rw [msL_succ, lmP_succ, ms_snoc (by rw [lmP_len, msL_len])]
    exact own_blk ho B1 (by decide) (kp_set _ _ _ _)
  · rcases hS k o t hk hs with rfl | rfl <;> decide
  · rcases hS k o t hk hs with rfl | rfl <;> decide
theorem LmO.addT (h : LmO w bt vm vf vr ve vv vt pe a b c d e f) (ho : w1.ownsRow (bt + 1) 44 3 v' (f + 1) ((mtRows (mtL f)).flatten ++ [.string (nmB f), .string (nmB 0), .string (nmB 0)])) (hg : w.grownBy w1 vt.ownBlock) :
    LmO (w1.setCell ⟨bt, 3, none⟩ v') bt vm vf vr ve vv v' pe a b c d e (f + 1) := by
  have KA := kp_grown hg
  have B1 : Blk w1 bt #[.string aB, vm, ve, vt] 26 := h.blk.kp KA (fun hk => absurd (own_type h.mt hk h.blk) (by decide))
  obtain ⟨KS, hS⟩ := kp_two (i := 3) (u := v') (cs := #[]) h.mt hg ⟨_, h.blk⟩
  refine ⟨B1.set 3 v' rfl, h.ms.beside KS (fun k o t hk hs => ?_), h.en.beside KS (fun k o t hk hs => ?_), ?_⟩
  · rcases hS k o t hk hs with rfl | rfl <;> decide
  · rcases hS k o t hk hs with rfl | rfl <;> decide
  · rw [mtL_succ, mt_snoc]
    exact own_blk ho B1 (by decide) (kp_set _ _ _ _)
theorem own_slot {t : TypeId} {sz n q cap : Nat} {xs : List Value} (h : w.ownsRow B t sz (.slice (some ⟨q, 0, none⟩) n cap) n xs) : ∃ o, w.heap[q]? = some (.cells o t (0, 0)) := by
  rcases h.2 with ⟨h, _⟩ | ⟨q', cap', cur, h1, h2, h3, _⟩
  · cases h
  · simp only [Value.slice.injEq, Option.some.injEq, Addr.mk.injEq] at h1
    obtain ⟨⟨rfl, _⟩, _⟩ := h1
    exact ⟨_, h3⟩
theorem msL_get0 (ha : 0 < a) : (msL a b c)[0]? = some ⟨nmB 0, flL b, inL c⟩ := by simp [msL, ha]
theorem lmP_get0 (ha : 0 < a) : (lmP a vf vr)[0]? = some (vf, vr) := by simp [lmP, ha]
theorem msL_get {i : Nat} (hi : i ≠ 0) (ha : i < a) : (msL a b c)[i]? = some ⟨nmB i, [], []⟩ := by simp [msL, ha, hi]
theorem lmP_get {i : Nat} (hi : i ≠ 0) (ha : i < a) : (lmP a vf vr)[i]? = some (nilV, nilV) := by simp [lmP, ha, hi]
theorem ms_rows_set (ha : 0 < a) {b' c' : Nat} {u1 u2 : Value} {r : List Value} (hr : r = [.string (nmB 0), u1, u2]) : (msRows (msL a b c) (lmP a vf vr)).set 0 r = msRows (msL a b' c') (lmP a u1 u2) := by
  subst hr
  apply List.ext_getElem?
  intro i
  rw [List.getElem?_set]
  by_cases hi : i = 0
  · subst hi
    rw [if_pos rfl, if_pos (by simp [msRows, msL_len, lmP_len]; exact ha), ms_get (msL_get0 ha) (lmP_get0 ha)]
  · rw [if_neg (Ne.symm hi)]
    by_cases hl : i < a
    · rw [ms_get (msL_get hi hl) (lmP_get hi hl), ms_get (msL_get hi hl) (lmP_get hi hl)]
    · rw [List.getElem?_eq_none (by simp [msRows, msL_len, lmP_len]; omega), List.getElem?_eq_none (by simp [msRows, msL_len, lmP_len]; omega)]
theorem ms_row0 (ha : 0 < a) : (msRows (msL a b c) (lmP a vf vr))[0]? = some [.string (nmB 0), vf, vr] := ms_get (msL_get0 ha) (lmP_get0 ha)
theorem LmO.addF {q cap : Nat} (h : LmO w bt (.slice (some ⟨q, 0, none⟩) a cap) vf vr ve vv vt pe a b c d e f) (ha : 0 < a) (ho : w1.ownsRow (bt + 1) 52 5 v' (b + 1) ((flRows (flL b)).flatten ++ [.string (nmB b), .int .i64 (1 + (b : Int)), .int .i64 1, .int .i64 1, .string ⟨#[]⟩])) (hg : w.grownBy w1 vf.ownBlock) :
    LmO (w1.setCell ⟨q, 1, none⟩ v') bt (.slice (some ⟨q, 0, none⟩) a cap) v' vr ve vv vt pe a (b + 1) c d e f := by
  have KA := kp_grown hg
  have hq1 : w1.ownsRow (bt + 1) 35 3 (.slice (some ⟨q, 0, none⟩) a cap) a (msRows (msL a b c) (lmP a vf vr)).flatten := own_kpV h.ms.own KA (fun k hk hv => own_apart h.ms.fl h.ms.own (by decide) k hv hk)
  have hq2 := own_set (j := 1) hq1 v'
  have e1 : (msRows (msL a b c) (lmP a vf vr)).flatten.set 1 v' = (msRows (msL a (b + 1) c) (lmP a v' vr)).flatten := by
    have := flat_set _ (ms_len (msL a b c) (lmP a vf vr)) 0 _ (ms_row0 ha) 1 v' (by decide)
    rw [Nat.zero_mul, Nat.zero_add] at this
    rw [this, show ([.string (nmB 0), vf, vr] : List Value).set 1 v' = [.string (nmB 0), v', vr] from rfl, ms_rows_set ha (b' := b + 1) (c' := c) (u1 := v') (u2 := vr) rfl]
  rw [e1] at hq2
  obtain ⟨KS, hS⟩ := kp_two (i := 1) (u := v') (cs := #[]) h.ms.fl hg (own_slot h.ms.own)
  have KT : Kp (fun k => k = q) w1 (w1.setCell ⟨q, 1, none⟩ v') := kp_set _ _ _ _
  obtain ⟨o1, ho1⟩ := own_slot hq1
  refine ⟨h.blk.kp KS (fun hk => ?_), ⟨hq2, ?_, ?_⟩, h.en.beside KS (fun k o t hk hs => ?_), mt_beside h.mt KS (fun k o t hk hs => ?_)⟩
  · rcases hS _ _ _ h.blk hk with e | e <;> exact absurd e (by decide)
  · rw [flL_succ]
    have e : (flRows (flL b ++ [⟨nmB b, 1 + (b : Int), 1, 1, ⟨#[]⟩⟩])).flatten = (flRows (flL b)).flatten ++ [.string (nmB b), .int .i64 (1 + (b : Int)), .int .i64 1, .int .i64 1, .string ⟨#[]⟩] := by simp [flRows, FlS.cells]
    rw [e]
    exact own_blk (cs := o1) ho ho1 (by decide) KT
  · have := own_kpV h.ms.rs KS (fun k hv hs => by
      rcases h.ms.rs.2 with ⟨h0, _⟩ | ⟨g, cp, cur, h0, _, hq, _⟩
      · rw [h0] at hv; cases hv
      · rw [h0] at hv
        simp only [Value.ownBlock, Option.some.injEq] at hv
        subst hv
        rcases hS _ _ _ hq hs with e | e <;> exact absurd e (by decide))
    exact this
  · rcases hS k o t hk hs with rfl | rfl <;> decide
  · rcases hS k o t hk hs with rfl | rfl <;> decide
theorem LmO.addR {q cap : Nat} (h : LmO w bt (.slice (some ⟨q, 0, none⟩) a cap) vf vr ve vv vt pe a b c d e f) (ha : 0 < a) (ho : w1.ownsRow (bt + 1) 3 1 v' (c + 1) ((inRows (inL c)).flatten ++ [.int .i64 (100 + (c : Int))])) (hg : w.grownBy w1 vr.ownBlock) :
    LmO (w1.setCell ⟨q, 2, none⟩ v') bt (.slice (some ⟨q, 0, none⟩) a cap) vf v' ve vv vt pe a b (c + 1) d e f := by
  have KA := kp_grown hg
  have hq1 : w1.ownsRow (bt + 1) 35 3 (.slice (some ⟨q, 0, none⟩) a cap) a (msRows (msL a b c) (lmP a vf vr)).flatten := own_kpV h.ms.own KA (fun k hk hv => own_apart h.ms.rs h.ms.own (by decide) k hv hk)
  have hq2 := own_set (j := 2) hq1 v'
  have e1 : (msRows (msL a b c) (lmP a vf vr)).flatten.set 2 v' = (msRows (msL a b (c + 1)) (lmP a vf v')).flatten := by
    have := flat_set _ (ms_len (msL a b c) (lmP a vf vr)) 0 _ (ms_row0 ha) 2 v' (by decide)
    rw [Nat.zero_mul, Nat.zero_add] at this
    rw [this, show ([.string (nmB 0), vf, vr] : List Value).set 2 v' = [.string (nmB 0), vf, v'] from rfl, ms_rows_set ha (b' := b) (c' := c + 1) (u1 := vf) (u2 := v') rfl]
  rw [e1] at hq2
  obtain ⟨KS, hS⟩ := kp_two (i := 2) (u := v') (cs := #[]) h.ms.rs hg (own_slot h.ms.own)
  have KT : Kp (fun k => k = q) w1 (w1.setCell ⟨q, 2, none⟩ v') := kp_set _ _ _ _
  obtain ⟨o1, ho1⟩ := own_slot hq1
  refine ⟨h.blk.kp KS (fun hk => ?_), ⟨hq2, ?_, ?_⟩, h.en.beside KS (fun k o t hk hs => ?_), mt_beside h.mt KS (fun k o t hk hs => ?_)⟩
  · rcases hS _ _ _ h.blk hk with e | e <;> exact absurd e (by decide)
  · exact own_kpV h.ms.fl KS (fun k hv hs => by
      rcases h.ms.fl.2 with ⟨h0, _⟩ | ⟨g, cp, cur, h0, _, hq, _⟩
      · rw [h0] at hv; cases hv
      · rw [h0] at hv
        simp only [Value.ownBlock, Option.some.injEq] at hv
        subst hv
        rcases hS _ _ _ hq hs with e | e <;> exact absurd e (by decide))
  · rw [inL_succ]
    have e : (inRows (inL c ++ [100 + (c : Int)])).flatten = (inRows (inL c)).flatten ++ [.int .i64 (100 + (c : Int))] := by simp [inRows]
    rw [e]
    exact own_blk (cs := o1) ho ho1 (by decide) KT
  · rcases hS k o t hk hs with rfl | rfl <;> decide
  · rcases hS k o t hk hs with rfl | rfl <;> decide
/-- A new block of one element is a row of one's own. -/
theorem own_one {t g : Nat} {x y : Value} (h : Blk w g #[x, y] t) (hB : B ≤ g) : w.ownsRow B t 2 (.slice (some ⟨g, 0, none⟩) 1 1) 1 [x, y] :=
  ⟨rfl, .inr ⟨g, 1, #[x, y], rfl, hB, h, Nat.le_refl _, by decide, rfl, rfl⟩⟩
theorem LmO.addE {g : Nat} (h : LmO w bt vm vf vr ve vv vt pe a b c d 0 f) (hB : Blk w g #[.string zB, .int .i64 0] 65) (hg0 : bt + 1 ≤ g) (hne : 0 < d → vv.ownBlock ≠ some g) (ho : w1.ownsRow (bt + 1) 40 2 v' (d + 1) ((enRows (enL d 0) pe).flatten ++ [.string (nmB (100 + d)), .slice (some ⟨g, 0, none⟩) 1 1])) (hg : w.grownBy w1 ve.ownBlock) :
    LmO (w1.setCell ⟨bt, 2, none⟩ v') bt vm vf vr v' (if d = 0 then .slice (some ⟨g, 0, none⟩) 1 1 else vv) vt (pe ++ [.slice (some ⟨g, 0, none⟩) 1 1]) a b c (d + 1) 0 f := by
  have KA := kp_grown hg
  have B1 : Blk w1 bt #[.string aB, vm, ve, vt] 26 := h.blk.kp KA (fun hk => absurd (own_type h.en.own hk h.blk) (by decide))
  obtain ⟨KS, hS⟩ := kp_two (i := 2) (u := v') (cs := #[]) h.en.own hg ⟨_, h.blk⟩
  have hno : ∀ {k : Nat} {o : Array Value}, w.heap[k]? = some (.cells o 65 (0, 0)) → ¬ (ve.ownBlock = some k ∨ k = bt) := fun hk hs => by rcases hS _ _ _ hk hs with e | e <;> exact absurd e (by decide)
  have kn : ∀ {n : Nat} {v : Value} {xs : List Value}, w.ownsRow (bt + 1) 65 2 v n xs → (w1.setCell ⟨bt, 2, none⟩ v').ownsRow (bt + 1) 65 2 v n xs := fun hv => own_kpV hv KS (fun k hk hs => by
    rcases hv.2 with ⟨h0, _⟩ | ⟨g', cp, cur, h0, _, hq, _⟩
    · rw [h0] at hk; cases hk
    · rw [h0] at hk
      simp only [Value.ownBlock, Option.some.injEq] at hk
      subst hk
      exact hno hq hs)
  refine ⟨B1.set 2 v' rfl, h.ms.beside KS (fun k o t hk hs => ?_), ⟨?_, by rw [List.length_append, h.en.len]; rfl, fun hd => ?_, fun i p hi hp => ?_⟩, mt_beside h.mt KS (fun k o t hk hs => ?_)⟩
  · rcases hS k o t hk hs with rfl | rfl <;> decide
  · rw [enL_succ, en_snoc (by rw [h.en.len, enL_len])]
    exact own_blk ho B1 (by decide) (kp_set _ _ _ _)
  · by_cases hd0 : d = 0
    · subst hd0
      rw [if_pos rfl]
      have hp : pe = [] := List.eq_nil_of_length_eq_zero h.en.len
      subst hp
      exact ⟨rfl, kn (own_one hB hg0)⟩
    · rw [if_neg hd0]
      obtain ⟨h1, h2⟩ := h.en.vl (by omega)
      exact ⟨by rw [List.getElem?_append_left (by rw [h.en.len]; omega)]; exact h1, kn h2⟩
  · rcases get_snoc hp with ⟨hl, hp⟩ | ⟨hl, rfl⟩
    · obtain ⟨g', h1, h2, h3, h4⟩ := h.en.each i p hi hp
      refine ⟨g', h1, h2, h3.kp KS (hno h3), ?_⟩
      rw [if_neg (by have := h.en.len; omega)]
      exact h4
    · refine ⟨g, rfl, hg0, hB.kp KS (hno hB), ?_⟩
      have := h.en.len
      rw [if_neg (by omega)]
      exact hne (by omega)
  · rcases hS k o t hk hs with rfl | rfl <;> decide
theorem enL_get0 (hd : 0 < d) : (enL d e)[0]? = some ⟨nmB 100, vlL e⟩ := by simp [enL, hd]
theorem enL_get {i : Nat} (hi : i ≠ 0) (hd : i < d) : (enL d e)[i]? = some ⟨nmB (100 + i), [⟨zB, 0⟩]⟩ := by simp [enL, hd, hi]
theorem en_row0 (hd : 0 < d) (hp : pe[0]? = some vv) : (enRows (enL d e) pe)[0]? = some [.string (nmB 100), vv] := en_get (enL_get0 hd) hp
theorem en_rows_set (hd : 0 < d) (hl : pe.length = d) {e' : Nat} {u : Value} : (enRows (enL d e) pe).set 0 [.string (nmB 100), u] = enRows (enL d e') (pe.set 0 u) := by
  apply List.ext_getElem?
  intro i
  rw [List.getElem?_set]
  by_cases hi : i = 0
  · subst hi
    rw [if_pos rfl, if_pos (by simp [enRows, enL_len, hl]; exact hd), en_row0 hd (by rw [List.getElem?_set, if_pos rfl, if_pos (by omega)])]
  · rw [if_neg (Ne.symm hi)]
    by_cases hl' : i < d
    · obtain ⟨p, hp⟩ : ∃ p, pe[i]? = some p := ⟨_, List.getElem?_eq_getElem (by omega)⟩
      rw [en_get (enL_get hi hl') hp, en_get (enL_get hi hl') (by rw [List.getElem?_set, if_neg (Ne.symm hi)]; exact hp)]
    · rw [List.getElem?_eq_none (by simp [enRows, enL_len, hl]; omega), List.getElem?_eq_none (by simp [enRows, enL_len, hl]; omega)]
/-- A row of two elements is not a block of one. -/
theorem own_size {t g n : Nat} {v x y : Value} {xs : List Value} (h : w.ownsRow B t 2 v n xs) (hn : 2 ≤ n) (hb : Blk w g #[x, y] t) : v.ownBlock ≠ some g := by
  intro hk
  rcases h.2 with ⟨rfl, _⟩ | ⟨q, cap, cur, rfl, _, hq, h4, _, h6, _⟩
  · cases hk
  · simp only [Value.ownBlock, Option.some.injEq] at hk
    subst hk
    unfold Blk at hb
    rw [hq] at hb
    simp only [Option.some.injEq, Obj.cells.injEq] at hb
    have : cur.size = 2 := by rw [hb.1]; rfl
    omega
theorem LmO.addV {q cap : Nat} (h : LmO w bt vm vf vr (.slice (some ⟨q, 0, none⟩) d cap) vv vt pe a b c d e f) (hd : 0 < d) (ho : w1.ownsRow (bt + 1) 65 2 v' (e + 1 + 1) ((nmRows (vlL e)).flatten ++ [.string (nmB (1 + e)), .int .i64 (1 + (e : Int))])) (hg : w.grownBy w1 vv.ownBlock) :
    LmO (w1.setCell ⟨q, 1, none⟩ v') bt vm vf vr (.slice (some ⟨q, 0, none⟩) d cap) v' vt (pe.set 0 v') a b c d (e + 1) f := by
  have KA := kp_grown hg
  obtain ⟨hp0, hv0⟩ := h.en.vl hd
  have hq1 : w1.ownsRow (bt + 1) 40 2 (.slice (some ⟨q, 0, none⟩) d cap) d (enRows (enL d e) pe).flatten := own_kpV h.en.own KA (fun k hk hv => own_apart hv0 h.en.own (by decide) k hv hk)
  have hq2 := own_set (j := 1) hq1 v'
  have e1 : (enRows (enL d e) pe).flatten.set 1 v' = (enRows (enL d (e + 1)) (pe.set 0 v')).flatten := by
    have := flat_set _ (en_len (enL d e) pe) 0 _ (en_row0 hd hp0) 1 v' (by decide)
    rw [Nat.zero_mul, Nat.zero_add] at this
    rw [this, show ([.string (nmB 100), vv] : List Value).set 1 v' = [.string (nmB 100), v'] from rfl, en_rows_set hd h.en.len (e' := e + 1)]
  rw [e1] at hq2
  obtain ⟨KS, hS⟩ := kp_two (i := 1) (u := v') (cs := #[]) hv0 hg (own_slot h.en.own)
  have KT : Kp (fun k => k = q) w1 (w1.setCell ⟨q, 1, none⟩ v') := kp_set _ _ _ _
  obtain ⟨o1, ho1⟩ := own_slot hq1
  have hv2 : (w1.setCell ⟨q, 1, none⟩ v').ownsRow (bt + 1) 65 2 v' (e + 1 + 1) (nmRows (vlL (e + 1))).flatten := by
    rw [vlL_succ]
    have e0 : (nmRows (vlL e ++ [⟨nmB (1 + e), 1 + (e : Int)⟩])).flatten = (nmRows (vlL e)).flatten ++ [.string (nmB (1 + e)), .int .i64 (1 + (e : Int))] := by simp [nmRows, NmS.cells]
    rw [e0]
    exact own_blk (cs := o1) ho ho1 (by decide) KT
  refine ⟨h.blk.kp KS (fun hk => ?_), h.ms.beside KS (fun k o t hk hs => ?_), ⟨hq2, by rw [List.length_set]; exact h.en.len, fun _ => ⟨by rw [List.getElem?_set, if_pos rfl, if_pos (by rw [h.en.len]; exact hd)], hv2⟩, fun i p hi hp => ?_⟩, mt_beside h.mt KS (fun k o t hk hs => ?_)⟩
  · rcases hS _ _ _ h.blk hk with e | e <;> exact absurd e (by decide)
  · rcases hS k o t hk hs with rfl | rfl <;> decide
  · rw [List.getElem?_set, if_neg (by omega)] at hp
    obtain ⟨g, h1, h2, h3, h4⟩ := h.en.each i p hi hp
    have h5 : Blk (w1.setCell ⟨q, 1, none⟩ v') g #[.string zB, .int .i64 0] 65 := by
      refine h3.kp KS (fun hs => ?_)
      rcases hs with hs | hs
      · exact h4 hs
      · obtain ⟨o2, ho2⟩ := own_slot h.en.own
        subst hs
        exact absurd (blk_ty h3 ho2) (by decide)
    exact ⟨g, h1, h2, h5, own_size hv2 (by omega) h5⟩
  · rcases hS k o t hk hs with rfl | rfl <;> decide
/-- What is made is that schema. -/
theorem LmO.to_in (h : LmO w bt vm vf vr ve vv vt pe a b c d e f) : ScIn w (.agg #[.string aB, vm, ve, vt]) (lmS a b c d e f) := by
  obtain ⟨m1, m2⟩ := RowG.own (ms_len _ _) (by decide) h.ms.own
  obtain ⟨e1, e2⟩ := RowG.own (en_len _ _) (by decide) h.en.own
  refine ⟨vm, ve, vt, rfl, ⟨_, m1, ?_, fun i m hm => ?_⟩, ⟨_, e1, ?_, fun i m hm => ?_⟩, own_rowT h.mt⟩
  · rw [← m2]; exact (msL_len a b c).symm
  · have hm : (msL a b c)[i]? = some m := hm
    have hl : i < a := by have := (List.getElem?_eq_some_iff.1 hm).1; rw [msL_len] at this; exact this
    by_cases hi : i = 0
    · subst hi
      rw [msL_get0 hl] at hm
      cases hm
      exact ⟨vf, vr, ms_get (msL_get0 hl) (lmP_get0 hl), own_rowF h.ms.fl, own_rowI h.ms.rs⟩
    · rw [msL_get hi hl] at hm
      cases hm
      exact ⟨nilV, nilV, ms_get (msL_get hi hl) (lmP_get hi hl), RowG.nil _ _, RowG.nil _ _⟩
  · rw [← e2]; exact (enL_len d e).symm
  · have hm : (enL d e)[i]? = some m := hm
    have hl : i < d := by have := (List.getElem?_eq_some_iff.1 hm).1; rw [enL_len] at this; exact this
    by_cases hi : i = 0
    · subst hi
      rw [enL_get0 hl] at hm
      cases hm
      obtain ⟨p1, p2⟩ := h.en.vl hl
      exact ⟨vv, en_get (enL_get0 hl) p1, own_rowN p2⟩
    · rw [enL_get hi hl] at hm
      cases hm
      obtain ⟨p, hp⟩ : ∃ p, pe[i]? = some p := ⟨_, List.getElem?_eq_getElem (by rw [h.en.len]; exact hl)⟩
      obtain ⟨g, rfl, h2, h3, _⟩ := h.en.each i p (by omega) hp
      exact ⟨_, en_get (enL_get hi hl) hp, own_rowN (fs := [⟨zB, 0⟩]) (own_one h3 h2)⟩
end
end Go.Proofs.Ytomeppgmmlaibaa
