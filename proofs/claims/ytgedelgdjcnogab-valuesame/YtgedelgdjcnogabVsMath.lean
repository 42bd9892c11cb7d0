/- Two lists of entries held against each other, a level at a time. -/
import Derived.Test.YtgedelgdjcnogabTvPl
namespace Go.Proofs.Ytgedelgdjcnogab
open Go.ChangeShapes Go.WideShapes Go.ChangeAt Go.RowKit
set_option linter.unusedVariables false
set_option linter.unusedSimpArgs false
set_option maxRecDepth 20000

abbrev Ens : Type := List (Int × List Tr)
/-- Alike but for what is in their entries. -/
def AliT (t u : Tr) : Prop := t.kind = u.kind ∧ t.n = u.n ∧ t.s = u.s ∧ t.es.length = u.es.length ∧ t.rest = u.rest
theorem tr_iffA {t u : Tr} : t = u ↔ AliT t u ∧ t.es = u.es := by
  constructor
  · rintro rfl; exact ⟨⟨rfl, rfl, rfl, rfl, rfl⟩, rfl⟩
  · rintro ⟨⟨h1, h2, h3, _, h5⟩, h4⟩; cases t; cases u; simp_all
def AllA (l m : List Tr) : Prop := l.length = m.length ∧ ∀ (k : Nat) (t u : Tr), l[k]? = some t → m[k]? = some u → AliT t u
def EntA (e f : Int × List Tr) : Prop := e.1 = f.1 ∧ AllA e.2 f.2
def OkC (ea eb : Ens) : Prop := ∀ (i : Nat) (e f : Int × List Tr), ea[i]? = some e → eb[i]? = some f → EntA e f
/-- Two lists that are still to be held against each other. -/
structure It where
  d : Nat
  va : Value
  vb : Value
  ea : Ens
  eb : Ens
def It.row (x : It) : List Value := [x.va, x.vb]
def cellE (w : World) (v : Value) (i : Nat) : Value := match v with
  | .slice (some a) _ _ => (w.cell? ⟨a.block, a.off + i * 2 + 1, none⟩).getD (.int .i64 0)
  | _ => .int .i64 0
def cellT (w : World) (v : Value) (k : Nat) : Value := match v with
  | .slice (some a) _ _ => (w.cell? ⟨a.block, a.off + k * 5 + 3, none⟩).getD (.int .i64 0)
  | _ => .int .i64 0
def itT (d : Nat) (w : World) (va vb : Value) (ta tb : List Tr) (k : Nat) : List It := match ta[k]?, tb[k]? with
  | some t, some u => if t.es.length = 0 then [] else [⟨d, cellT w va k, cellT w vb k, t.es, u.es⟩]
  | _, _ => []
def itsT (d : Nat) (w : World) (va vb : Value) (ta tb : List Tr) (K : Nat) : List It := (List.range K).flatMap (itT d w va vb ta tb)
def itE (d : Nat) (w : World) (va vb : Value) (ea eb : Ens) (i : Nat) : List It := match ea[i]?, eb[i]? with
  | some e, some f => itsT d w (cellE w va i) (cellE w vb i) e.2 f.2 e.2.length
  | _, _ => []
def itsE (d : Nat) (w : World) (va vb : Value) (ea eb : Ens) (K : Nat) : List It := (List.range K).flatMap (itE d w va vb ea eb)
theorem itsT_succ (d : Nat) (w : World) (va vb : Value) (ta tb : List Tr) (K : Nat) : itsT d w va vb ta tb (K + 1) = itsT d w va vb ta tb K ++ itT d w va vb ta tb K := by simp [itsT, List.range_succ, List.flatMap_append]
theorem itsE_succ (d : Nat) (w : World) (va vb : Value) (ea eb : Ens) (K : Nat) : itsE d w va vb ea eb (K + 1) = itsE d w va vb ea eb K ++ itE d w va vb ea eb K := by simp [itsE, List.range_succ, List.flatMap_append]
theorem itE_of {d : Nat} {w : World} {va vb : Value} {ea eb : Ens} {i : Nat} {e f : Int × List Tr} (h : ea[i]? = some e) (k : eb[i]? = some f) : itE d w va vb ea eb i = itsT d w (cellE w va i) (cellE w vb i) e.2 f.2 e.2.length := by simp [itE, h, k]
theorem itT_of {d : Nat} {w : World} {va vb : Value} {ta tb : List Tr} {k : Nat} {t u : Tr} (h : ta[k]? = some t) (q : tb[k]? = some u) : itT d w va vb ta tb k = if t.es.length = 0 then [] else [⟨d, cellT w va k, cellT w vb k, t.es, u.es⟩] := by simp [itT, h, q]
theorem mem_itT {d : Nat} {w : World} {va vb : Value} {ta tb : List Tr} {k : Nat} {x : It} : x ∈ itT d w va vb ta tb k ↔ ∃ t u, ta[k]? = some t ∧ tb[k]? = some u ∧ t.es.length ≠ 0 ∧ x = ⟨d, cellT w va k, cellT w vb k, t.es, u.es⟩ := by
  unfold itT
  split
  · rename_i t u h1 h2
    rw [h1, h2]
    split
    · rename_i h3
      constructor
      · intro h; cases h
      · rintro ⟨t', u', e1, e2, e3, _⟩
        cases e1
        exact absurd h3 e3
    · rename_i h3
      simp only [List.mem_singleton]
      constructor
      · intro h; exact ⟨t, u, rfl, rfl, h3, h⟩
      · rintro ⟨t', u', e1, e2, e3, e4⟩
        cases e1; cases e2
        exact e4
  · rename_i h
    constructor
    · intro h; cases h
    · rintro ⟨t, u, h1, h2, _⟩
      exact absurd h2 (by intro h2; exact h t u h1 h2)
theorem mem_itsE {d : Nat} {w : World} {va vb : Value} {ea eb : Ens} {K : Nat} {x : It} (h : x ∈ itsE d w va vb ea eb K) : ∃ i e f k t u, i < K ∧ ea[i]? = some e ∧ eb[i]? = some f ∧ e.2[k]? = some t ∧ f.2[k]? = some u ∧ t.es.length ≠ 0 ∧ x = ⟨d, cellT w (cellE w va i) k, cellT w (cellE w vb i) k, t.es, u.es⟩ := by
  obtain ⟨i, hi, h⟩ := List.mem_flatMap.1 h
  unfold itE at h
  split at h
  · rename_i e f h1 h2
    obtain ⟨k, hk, h⟩ := List.mem_flatMap.1 h
    obtain ⟨t, u, h3, h4, h5, rfl⟩ := mem_itT.1 h
    exact ⟨i, e, f, k, t, u, List.mem_range.1 hi, h1, h2, h3, h4, h5, rfl⟩
  · cases h
theorem in_itsE {d : Nat} {w : World} {va vb : Value} {ea eb : Ens} {K i k : Nat} {e f : Int × List Tr} {t u : Tr} (hi : i < K) (h1 : ea[i]? = some e) (h2 : eb[i]? = some f) (h3 : e.2[k]? = some t) (h4 : f.2[k]? = some u) (h5 : t.es.length ≠ 0) :
    (⟨d, cellT w (cellE w va i) k, cellT w (cellE w vb i) k, t.es, u.es⟩ : It) ∈ itsE d w va vb ea eb K := by
  refine List.mem_flatMap.2 ⟨i, List.mem_range.2 hi, ?_⟩
  rw [itE_of h1 h2]
  exact List.mem_flatMap.2 ⟨k, List.mem_range.2 (List.getElem?_eq_some_iff.1 h3).1, mem_itT.2 ⟨t, u, h3, h4, h5, rfl⟩⟩
theorem lst_ext {α : Type} {l m : List α} (h : l.length = m.length) (hj : ∀ (j : Nat) (x y : α), l[j]? = some x → m[j]? = some y → x = y) : l = m := by
  refine List.ext_getElem? fun i => ?_
  by_cases hi : i < l.length
  · rw [List.getElem?_eq_getElem hi, List.getElem?_eq_getElem (by omega)]
    exact congrArg some (hj i _ _ (List.getElem?_eq_getElem hi) (List.getElem?_eq_getElem (by omega)))
  · rw [List.getElem?_eq_none (by omega), List.getElem?_eq_none (by omega)]
/-- Two lists are one just if they are alike, and all that is deeper is. -/
theorem es_iff {d : Nat} {w : World} {va vb : Value} {ea eb : Ens} (h : ea.length = eb.length) : ea = eb ↔ OkC ea eb ∧ ∀ x ∈ itsE d w va vb ea eb ea.length, x.ea = x.eb := by
  constructor
  · rintro rfl
    refine ⟨fun i e f h1 h2 => ?_, fun x hx => ?_⟩
    · rw [h1] at h2
      cases h2
      refine ⟨rfl, rfl, fun k t u h3 h4 => ?_⟩
      rw [h3] at h4
      cases h4
      exact ⟨rfl, rfl, rfl, rfl, rfl⟩
    · obtain ⟨i, e, f, k, t, u, hi, h1, h2, h3, h4, h5, rfl⟩ := mem_itsE hx
      rw [h1] at h2
      cases h2
      rw [h3] at h4
      cases h4
      rfl
  · rintro ⟨h1, h2⟩
    refine lst_ext h fun i e f he hf => ?_
    obtain ⟨g1, g2, g3⟩ := h1 i e f he hf
    refine Prod.ext g1 (lst_ext g2 fun k t u ht hu => ?_)
    have ha := g3 k t u ht hu
    refine tr_iffA.2 ⟨ha, ?_⟩
    by_cases h0 : t.es.length = 0
    · have h00 := ha.2.2.2.1
      rw [List.eq_nil_of_length_eq_zero h0, List.eq_nil_of_length_eq_zero (h00.symm.trans h0)]
    · exact h2 _ (in_itsE (List.getElem?_eq_some_iff.1 he).1 he hf ht hu h0)
/-- What an item weighs. -/
def wtE (d : Nat) (es : Ens) : Nat := 1 + ((subs es).map (cntN d)).sum
def It.wt (x : It) : Nat := wtE x.d x.ea
def wts (l : List It) : Nat := (l.map It.wt).sum
theorem wts_append (l m : List It) : wts (l ++ m) = wts l + wts m := by simp [wts]
theorem len_wts : ∀ (l : List It), l.length ≤ wts l
  | [] => by simp [wts]
  | x :: l => by
    have := len_wts l
    simp only [wts, List.map_cons, List.sum_cons, List.length_cons, It.wt, wtE] at this ⊢
    omega
theorem take_atV {α : Type} {l : List α} {i : Nat} {x : α} (h : l[i]? = some x) : l.take (i + 1) = l.take i ++ [x] := by
  obtain ⟨hl, rfl⟩ := List.getElem?_eq_some_iff.1 h
  rw [List.take_succ_eq_append_getElem hl]
theorem itsT_wt (d : Nat) (w : World) (va vb : Value) (ta tb : List Tr) : ∀ K, K ≤ ta.length → wts (itsT d w va vb ta tb K) ≤ ((ta.take K).map (cntN (d + 1))).sum
  | 0, _ => by simp [itsT, wts]
  | K + 1, h => by
    have ih := itsT_wt d w va vb ta tb K (by omega)
    have ht : ta[K]? = some (ta[K]'(by omega)) := List.getElem?_eq_getElem _
    rw [itsT_succ, wts_append, take_atV ht, List.map_append, List.sum_append]
    have h2 : wts (itT d w va vb ta tb K) ≤ cntN (d + 1) (ta[K]'(by omega)) := by
      unfold itT
      rw [ht]
      split
      · rename_i t u e1 e2
        cases e1
        split
        · simp [wts]
        · simp [wts, It.wt, wtE, cntN]
      · simp [wts]
    simp only [List.map_cons, List.map_nil, List.sum_cons, List.sum_nil]
    omega
theorem subs_snocV (es : Ens) (e : Int × List Tr) : subs (es ++ [e]) = subs es ++ e.2 := by simp [subs, List.flatMap_append]
theorem itsE_wt (d : Nat) (w : World) (va vb : Value) (ea eb : Ens) : ∀ K, K ≤ ea.length → wts (itsE d w va vb ea eb K) ≤ ((subs (ea.take K)).map (cntN (d + 1))).sum
  | 0, _ => by simp [itsE, wts]
  | K + 1, h => by
    have ih := itsE_wt d w va vb ea eb K (by omega)
    have ht : ea[K]? = some (ea[K]'(by omega)) := List.getElem?_eq_getElem _
    rw [itsE_succ, wts_append, take_atV ht, subs_snocV, List.map_append, List.sum_append]
    have h2 : wts (itE d w va vb ea eb K) ≤ ((ea[K]'(by omega)).2.map (cntN (d + 1))).sum := by
      unfold itE
      rw [ht]
      split
      · rename_i t u e1 e2
        cases e1
        have := itsT_wt d w (cellE w va K) (cellE w vb K) (ea[K]'(by omega)).2 u.2 _ (Nat.le_refl _)
        rwa [List.take_length] at this
      · simp [wts]
    omega
theorem wts_more (d : Nat) (w : World) (va vb : Value) (ea eb : Ens) {K : Nat} (h : K ≤ ea.length) : wts (itsE d w va vb ea eb K) + 1 ≤ wtE (d + 1) ea := by
  have h1 := itsE_wt d w va vb ea eb K h
  have h2 : ((subs ea).map (cntN (d + 1))).sum = ((subs (ea.take K)).map (cntN (d + 1))).sum + ((subs (ea.drop K)).map (cntN (d + 1))).sum := by
    rw [← List.sum_append, ← List.map_append, subs, subs, subs, ← List.flatMap_append, List.take_append_drop]
  unfold wtE
  omega
/-- What an item reads. -/
def ItOk (w : World) (x : It) : Prop := EnsIn x.d w x.va x.ea ∧ EnsIn x.d w x.vb x.eb ∧ x.ea.length = x.eb.length
theorem ItOk.below {w w1 : World} {x : It} (h : ItOk w x) (hb : Below w.heap.size w w1) : ItOk w1 x := ⟨h.1.belowE hb, h.2.1.belowE hb, h.2.2⟩
theorem cellE_of {d : Nat} {w : World} {v : Value} {es : Ens} (h : EnsIn d w v es) {i : Nat} {e : Int × List Tr} (hi : es[i]? = some e) : ∃ g off a n c, v = .slice (some ⟨g, off, none⟩) es.length c ∧ cellE w v i = .slice a e.2.length n ∧ w.cell? ⟨g, off + i * 2, none⟩ = some (.int .i64 e.1) ∧ w.cell? ⟨g, off + i * 2 + 1, none⟩ = some (.slice a e.2.length n) ∧ TrsIn d w (.slice a e.2.length n) e.2 := by
  obtain ⟨a, cap, rfl, _⟩ := RowP.open h
  obtain ⟨g, off, rfl, r, ⟨vt, rfl, _, ht⟩, hc⟩ := RowP.get h hi
  obtain ⟨a2, c2, rfl, _⟩ := RowP.open ht
  have c0 := hc 0 _ rfl
  have c1 := hc 1 _ rfl
  exact ⟨g, off, a2, c2, cap, rfl, by simp [cellE, c1], c0, c1, ht⟩
theorem cellT_of {d : Nat} {w : World} {v : Value} {ts : List Tr} (h : TrsIn (d + 1) w v ts) {k : Nat} {t : Tr} (hk : ts[k]? = some t) : EnsIn d w (cellT w v k) t.es := by
  obtain ⟨a, cap, rfl, _⟩ := RowP.open h
  obtain ⟨g, off, rfl, r, hr, hc⟩ := RowP.get h hk
  obtain ⟨ve, vr, rfl, _, _, _, _, _, h7⟩ := hr
  have c3 := hc 3 _ rfl
  simp only [cellT, c3, Option.getD_some]
  exact h7
theorem its_ok {d : Nat} {w : World} {va vb : Value} {ea eb : Ens} (ha : EnsIn (d + 1) w va ea) (hb : EnsIn (d + 1) w vb eb) (ho : OkC ea eb) {K : Nat} {x : It} (hx : x ∈ itsE d w va vb ea eb K) : ItOk w x ∧ x.ea.length ≠ 0 := by
  obtain ⟨i, e, f, k, t, u, hi, h1, h2, h3, h4, h5, rfl⟩ := mem_itsE hx
  obtain ⟨g, off, a1, n1, c1, _, q1, _, _, q2⟩ := cellE_of ha h1
  obtain ⟨g', off', a2, n2, c2, _, r1, _, _, r2⟩ := cellE_of hb h2
  refine ⟨⟨?_, ?_, ((ho i e f h1 h2).2.2 k t u h3 h4).2.2.2.1⟩, h5⟩
  · show EnsIn d w _ _
    rw [q1]
    exact cellT_of q2 h3
  · show EnsIn d w _ _
    rw [r1]
    exact cellT_of r2 h4
theorem ens_zero {w : World} {v : Value} {es : Ens} (h : EnsIn 0 w v es) : subs es = [] := by
  rcases hs : subs es with _ | ⟨t, l⟩
  · rfl
  · exfalso
    have ht : t ∈ subs es := by rw [hs]; simp
    obtain ⟨e, he, ht⟩ := mem_subs.1 ht
    obtain ⟨i, hi, rfl⟩ := List.getElem_of_mem he
    obtain ⟨_, _, _, _, _, _, _, _, _, q⟩ := cellE_of h (List.getElem?_eq_getElem hi)
    obtain ⟨k, hk, rfl⟩ := List.getElem_of_mem ht
    obtain ⟨_, _, _, r, hr, _⟩ := RowP.get q (List.getElem?_eq_getElem hk)
    exact hr
/-- A list of entries of one's own, with its blocks. -/
def EnsO (d B : Nat) (w : World) (v : Value) (es : Ens) (bs : List Nat) : Prop := ∃ rows bss, RowO (EtO (TrO d B) B) B 33 2 w v es rows bss ∧ bs = allB v bss
theorem rowO_cell {α : Type} {P : World → List Value → α → List Nat → Prop} {B e size : Nat} {w : World} {v : Value} {xs : List α} {rows : List (List Value)} {bss : List (List Nat)} (h : RowO P B e size w v xs rows bss) (hs : 0 < size) {i : Nat} {r : List Value} (hi : rows[i]? = some r) :
    ∃ g off cap, v = .slice (some ⟨g, off, none⟩) xs.length cap ∧ ∀ j u, r[j]? = some u → w.cell? ⟨g, off + i * size + j, none⟩ = some u := by
  have hr := (RowG.own h.wide hs h.own).1
  obtain ⟨a, cap, rfl, _⟩ := hr.open
  obtain ⟨g, off, rfl, hc⟩ := hr.get hi
  exact ⟨g, off, cap, by rw [h.len], hc⟩
/-- Its own block. -/
theorem EnsO.head {d B : Nat} {w : World} {v : Value} {es : Ens} {bs : List Nat} (h : EnsO d B w v es bs) (hn : es.length ≠ 0) : ∃ g cap cs ty l, v = .slice (some ⟨g, 0, none⟩) es.length cap ∧ w.heap[g]? = some (.cells cs ty (0, 0)) ∧ bs = g :: l := by
  obtain ⟨rows, bss, h1, rfl⟩ := h
  rcases h1.own.2 with ⟨rfl, h2⟩ | ⟨g, cap, cur, rfl, _, hg, _⟩
  · exact absurd h2 hn
  · exact ⟨g, cap, cur, _, bss.flatten, rfl, hg, by simp [allB, blkOf, Value.ownBlock]⟩
theorem EnsO.ens {d B : Nat} {w : World} {v : Value} {es : Ens} {bs : List Nat} (h : EnsO d B w v es bs) : EnsIn d w v es := by
  obtain ⟨rows, bss, h1, rfl⟩ := h
  refine h1.rowP (by decide) fun r x b hx hp => ?_
  obtain ⟨vt, rows', bss', g1, g2, g3, rfl⟩ := hp
  exact ⟨vt, g1, g2, g3.rowP (by decide) fun r x b hx hp => hp.trC⟩
theorem TrV.ens {n B : Nat} {w : World} {v : Value} {t : Tr} {bs : List Nat} (h : TrV (n + 1) B w v t bs) : ∃ ve vr cs, v = .agg #[.int .i64 t.kind, .int .i64 t.n, .string t.s, ve, vr] ∧ EnsO n B w ve t.es cs ∧ cs.Nodup := by
  obtain ⟨r, rfl, ⟨ve, vr, rows, bss, rfl, _, _, _, _, _, h7, rfl⟩, h8⟩ := h
  exact ⟨ve, vr, _, rfl, ⟨rows, bss, h7, rfl⟩, (List.nodup_append.1 h8.1).2.1⟩
theorem footAT {d B : Nat} {w : World} {va vb : Value} {ta tb : List Tr} {rows : List (List Value)} {bss : List (List Nat)} (h : RowO (TrO (d + 1) B) B 25 5 w va ta rows bss) : ∀ K, ∃ P : List (It × List Nat), P.map Prod.fst = itsT d w va vb ta tb K ∧ (∀ p ∈ P, EnsO p.1.d B w p.1.va p.1.ea p.2) ∧ (P.flatMap Prod.snd).Sublist (bss.take K).flatten
  | 0 => ⟨[], by simp [itsT], by simp, by simp⟩
  | K + 1 => by
    obtain ⟨P, h1, h2, h3⟩ := footAT (va := va) (vb := vb) (ta := ta) (tb := tb) h K
    rw [itsT_succ]
    have hmono : (bss.take K).flatten.Sublist (bss.take (K + 1)).flatten := by
      rw [List.take_add_one, List.flatten_append]
      exact List.sublist_append_left _ _
    unfold itT
    split
    · rename_i t u e1 e2
      split
      · exact ⟨P, by simp [h1], h2, h3.trans hmono⟩
      · obtain ⟨r, b, g1, g2, g3⟩ := h.each K _ e1
        obtain ⟨g, off, cap, hv, hc⟩ := rowO_cell h (by decide) g1
        obtain ⟨ve, vr, rows', bss', rfl, _, _, _, _, _, k7, rfl⟩ := g3
        have c3 := hc 3 _ rfl
        have hcell : cellT w va K = ve := by rw [hv]; simp [cellT, c3]
        refine ⟨P ++ [(⟨d, cellT w va K, cellT w vb K, t.es, u.es⟩, allB ve bss')], by simp [h1], fun p hp => ?_, ?_⟩
        · rcases List.mem_append.1 hp with hp | hp
          · exact h2 p hp
          · obtain rfl := List.mem_singleton.1 hp
            have q : EnsO d B w ve _ (allB ve bss') := ⟨rows', bss', k7, rfl⟩
            show EnsO d B w (cellT w va K) _ (allB ve bss')
            rw [hcell]
            exact q
        · rw [List.flatMap_append, take_atV g2, List.flatten_append]
          refine h3.append ?_
          simp only [List.flatMap_cons, List.flatMap_nil, List.append_nil, List.flatten_cons, List.flatten_nil]
          exact List.sublist_append_right _ _
    · exact ⟨P, by simp [h1], h2, h3.trans hmono⟩
theorem footAE {d B : Nat} {w : World} {va vb : Value} {ea eb : Ens} {rows : List (List Value)} {bss : List (List Nat)} (h : RowO (EtO (TrO (d + 1) B) B) B 33 2 w va ea rows bss) : ∀ K, ∃ P : List (It × List Nat), P.map Prod.fst = itsE d w va vb ea eb K ∧ (∀ p ∈ P, EnsO p.1.d B w p.1.va p.1.ea p.2) ∧ (P.flatMap Prod.snd).Sublist (bss.take K).flatten
  | 0 => ⟨[], by simp [itsE], by simp, by simp⟩
  | K + 1 => by
    obtain ⟨P, h1, h2, h3⟩ := footAE (va := va) (vb := vb) (ea := ea) (eb := eb) h K
    rw [itsE_succ]
    have hmono : (bss.take K).flatten.Sublist (bss.take (K + 1)).flatten := by
      rw [List.take_add_one, List.flatten_append]
      exact List.sublist_append_left _ _
    unfold itE
    split
    · rename_i e f e1 e2
      obtain ⟨r, b, g1, g2, g3⟩ := h.each K _ e1
      obtain ⟨g, off, cap, hv, hc⟩ := rowO_cell h (by decide) g1
      obtain ⟨vt, rows', bss', rfl, _, k7, rfl⟩ := g3
      have c1 := hc 1 _ rfl
      have hcell : cellE w va K = vt := by rw [hv]; simp [cellE, c1]
      rw [← hcell] at k7
      obtain ⟨Q, q1, q2, q3⟩ := footAT (va := cellE w va K) (vb := cellE w vb K) (ta := e.2) (tb := f.2) k7 e.2.length
      refine ⟨P ++ Q, by simp [h1, q1], fun p hp => ?_, ?_⟩
      · rcases List.mem_append.1 hp with hp | hp
        · exact h2 p hp
        · exact q2 p hp
      · rw [List.flatMap_append, take_atV g2, List.flatten_append]
        refine h3.append ?_
        simp only [List.flatten_cons, List.flatten_nil, List.append_nil, allB]
        exact (q3.trans (by conv => rhs; rw [← List.take_append_drop e.2.length bss', List.flatten_append]
                            exact List.sublist_append_left _ _)).trans (List.sublist_append_right _ _)
    · exact ⟨P, by simp [h1], h2, h3.trans hmono⟩
/-- What is deeper has the list's other blocks. -/
theorem footA {d B : Nat} {w : World} {va vb : Value} {ea eb : Ens} {bs : List Nat} (h : EnsO (d + 1) B w va ea bs) (K : Nat) : ∃ P : List (It × List Nat), P.map Prod.fst = itsE d w va vb ea eb K ∧ (∀ p ∈ P, EnsO p.1.d B w p.1.va p.1.ea p.2) ∧ ∃ l, bs = blkOf va ++ l ∧ (P.flatMap Prod.snd).Sublist l := by
  obtain ⟨rows, bss, h1, rfl⟩ := h
  obtain ⟨P, g1, g2, g3⟩ := footAE (va := va) (vb := vb) (ea := ea) (eb := eb) h1 K
  refine ⟨P, g1, g2, bss.flatten, rfl, g3.trans ?_⟩
  conv => rhs; rw [← List.take_append_drop K bss, List.flatten_append]
  exact List.sublist_append_left _ _
theorem footBT {d B : Nat} {w : World} {va vb : Value} {ta tb : List Tr} {rows : List (List Value)} {bss : List (List Nat)} (h : RowO (TrO (d + 1) B) B 25 5 w vb tb rows bss) : ∀ K, ∃ P : List (It × List Nat), P.map Prod.fst = itsT d w va vb ta tb K ∧ (∀ p ∈ P, EnsO p.1.d B w p.1.vb p.1.eb p.2) ∧ (P.flatMap Prod.snd).Sublist (bss.take K).flatten
  | 0 => ⟨[], by simp [itsT], by simp, by simp⟩
  | K + 1 => by
    obtain ⟨P, h1, h2, h3⟩ := footBT (va := va) (vb := vb) (ta := ta) (tb := tb) h K
    rw [itsT_succ]
    have hmono : (bss.take K).flatten.Sublist (bss.take (K + 1)).flatten := by
      rw [List.take_add_one, List.flatten_append]
      exact List.sublist_append_left _ _
    unfold itT
    split
    · rename_i t u e1 e2
      split
      · exact ⟨P, by simp [h1], h2, h3.trans hmono⟩
      · obtain ⟨r, b, g1, g2, g3⟩ := h.each K _ e2
        obtain ⟨g, off, cap, hv, hc⟩ := rowO_cell h (by decide) g1
        obtain ⟨ve, vr, rows', bss', rfl, _, _, _, _, _, k7, rfl⟩ := g3
        have c3 := hc 3 _ rfl
        have hcell : cellT w vb K = ve := by rw [hv]; simp [cellT, c3]
        refine ⟨P ++ [(⟨d, cellT w va K, cellT w vb K, t.es, u.es⟩, allB ve bss')], by simp [h1], fun p hp => ?_, ?_⟩
        · rcases List.mem_append.1 hp with hp | hp
          · exact h2 p hp
          · obtain rfl := List.mem_singleton.1 hp
            have q : EnsO d B w ve _ (allB ve bss') := ⟨rows', bss', k7, rfl⟩
            show EnsO d B w (cellT w vb K) _ (allB ve bss')
            rw [hcell]
            exact q
        · rw [List.flatMap_append, take_atV g2, List.flatten_append]
          refine h3.append ?_
          simp only [List.flatMap_cons, List.flatMap_nil, List.append_nil, List.flatten_cons, List.flatten_nil]
          exact List.sublist_append_right _ _
    · exact ⟨P, by simp [h1], h2, h3.trans hmono⟩
theorem footBE {d B : Nat} {w : World} {va vb : Value} {ea eb : Ens} {rows : List (List Value)} {bss : List (List Nat)} (h : RowO (EtO (TrO (d + 1) B) B) B 33 2 w vb eb rows bss) : ∀ K, ∃ P : List (It × List Nat), P.map Prod.fst = itsE d w va vb ea eb K ∧ (∀ p ∈ P, EnsO p.1.d B w p.1.vb p.1.eb p.2) ∧ (P.flatMap Prod.snd).Sublist (bss.take K).flatten
  | 0 => ⟨[], by simp [itsE], by simp, by simp⟩
  | K + 1 => by
    obtain ⟨P, h1, h2, h3⟩ := footBE (va := va) (vb := vb) (ea := ea) (eb := eb) h K
    rw [itsE_succ]
    have hmono : (bss.take K).flatten.Sublist (bss.take (K + 1)).flatten := by
      rw [List.take_add_one, List.flatten_append]
      exact List.sublist_append_left _ _
    unfold itE
    split
    · rename_i e f e1 e2
      obtain ⟨r, b, g1, g2, g3⟩ := h.each K _ e2
      obtain ⟨g, off, cap, hv, hc⟩ := rowO_cell h (by decide) g1
      obtain ⟨vt, rows', bss', rfl, _, k7, rfl⟩ := g3
      have c1 := hc 1 _ rfl
      have hcell : cellE w vb K = vt := by rw [hv]; simp [cellE, c1]
      rw [← hcell] at k7
      obtain ⟨Q, q1, q2, q3⟩ := footBT (va := cellE w va K) (vb := cellE w vb K) (ta := e.2) (tb := f.2) k7 e.2.length
      refine ⟨P ++ Q, by simp [h1, q1], fun p hp => ?_, ?_⟩
      · rcases List.mem_append.1 hp with hp | hp
        · exact h2 p hp
        · exact q2 p hp
      · rw [List.flatMap_append, take_atV g2, List.flatten_append]
        refine h3.append ?_
        simp only [List.flatten_cons, List.flatten_nil, List.append_nil, allB]
        exact (q3.trans (by conv => rhs; rw [← List.take_append_drop e.2.length bss', List.flatten_append]
                            exact List.sublist_append_left _ _)).trans (List.sublist_append_right _ _)
    · exact ⟨P, by simp [h1], h2, h3.trans hmono⟩
/-- What is deeper has the list's other blocks. -/
theorem footB {d B : Nat} {w : World} {va vb : Value} {ea eb : Ens} {bs : List Nat} (h : EnsO (d + 1) B w vb eb bs) (K : Nat) : ∃ P : List (It × List Nat), P.map Prod.fst = itsE d w va vb ea eb K ∧ (∀ p ∈ P, EnsO p.1.d B w p.1.vb p.1.eb p.2) ∧ ∃ l, bs = blkOf vb ++ l ∧ (P.flatMap Prod.snd).Sublist l := by
  obtain ⟨rows, bss, h1, rfl⟩ := h
  obtain ⟨P, g1, g2, g3⟩ := footBE (va := va) (vb := vb) (ea := ea) (eb := eb) h1 K
  refine ⟨P, g1, g2, bss.flatten, rfl, g3.trans ?_⟩
  conv => rhs; rw [← List.take_append_drop K bss, List.flatten_append]
  exact List.sublist_append_left _ _
end Go.Proofs.Ytgedelgdjcnogab
