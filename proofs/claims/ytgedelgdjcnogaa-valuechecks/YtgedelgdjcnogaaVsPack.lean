/- Two lists of entries held against each other, a level at a time. Two rows of fields, two trees, two rows of trees: alike? value.compare: what is one level down. Pairs of places as a map's keys: a key that is new is told apart from those that are there, though it may take draws. What value.Same has still to hold against each other, and what it has seen. -/
import Derived.Test.YtgedelgdjcnogaaTvPl
import Derived.Test.YtgedelgdjcnogaaFdEq
import Derived.BigQuiet
import Derived.Test.YtgedelgdjcnogaaTvPush
import Derived.Test.YtgedelgdjcnogaaRg
import Derived.Maps.AppendAt
import Derived.OwnWalk
import Derived.Test.YtgedelgdjcnogaaTvPlc
import Derived.Deep.Draws
/- Two lists of entries held against each other, a level at a time. -/
namespace Go.Proofs.Ytgedelgdjcnogaa
open Go.ChangeShapes Go.WideShapes Go.ChangeAt Go.RowKit
set_option linter.unusedVariables false
set_option linter.unusedSimpArgs false
set_option maxRecDepth 20000

abbrev Ens : Type := List (Int × List Tr)
/-- Alike but for what is in their entries. -/
def AliT (t u : Tr) : Prop := t.kind = u.kind ∧ t.n = u.n ∧ t.s = u.s ∧ t.es.length = u.es.length ∧ t.rest = u.rest
theorem tr_iffA {t u : Tr} : t = u ↔ AliT t u ∧ t.es = u.es := by
  constructor
  · rintro rfl; exact ⟨⟨rfl, rfl, rfl, rfl, rfl⟩, rfl⟩
  · rintro ⟨⟨h1, h2, h3, _, h5⟩, h4⟩; cases t; cases u; simp_all
def AllA (l m : List Tr) : Prop := l.length = m.length ∧ ∀ (k : Nat) (t u : Tr), l[k]? = some t → m[k]? = some u → AliT t u
def EntA (e f : Int × List Tr) : Prop := e.1 = f.1 ∧ AllA e.2 f.2
def OkC (ea eb : Ens) : Prop := ∀ (i : Nat) (e f : Int × List Tr), ea[i]? = some e → eb[i]? = some f → EntA e f
/-- Two lists that are still to be held against each other. -/
structure It where
  d : Nat
  va : Value
  vb : Value
  ea : Ens
  eb : Ens
def It.row (x : It) : List Value := [x.va, x.vb]
def cellE (w : World) (v : Value) (i : Nat) : Value := match v with
  | .slice (some a) _ _ => (w.cell? ⟨a.block, a.off + i * 2 + 1, none⟩).getD (.int .i64 0)
  | _ => .int .i64 0
def cellT (w : World) (v : Value) (k : Nat) : Value := match v with
  | .slice (some a) _ _ => (w.cell? ⟨a.block, a.off + k * 5 + 3, none⟩).getD (.int .i64 0)
  | _ => .int .i64 0
def itT (d : Nat) (w : World) (va vb : Value) (ta tb : List Tr) (k : Nat) : List It := match ta[k]?, tb[k]? with
  | some t, some u => if t.es.length = 0 then [] else [⟨d, cellT w va k, cellT w vb k, t.es, u.es⟩]
  | _, _ => []
def itsT (d : Nat) (w : World) (va vb : Value) (ta tb : List Tr) (K : Nat) : List It := (List.range K).flatMap (itT d w va vb ta tb)
def itE (d : Nat) (w : World) (va vb : Value) (ea eb : Ens) (i : Nat) : List It := match ea[i]?, eb[i]? with
  | some e, some f => itsT d w (cellE w va i) (cellE w vb i) e.2 f.2 e.2.length
  | _, _ => []
def itsE (d : Nat) (w : World) (va vb : Value) (ea eb : Ens) (K : Nat) : List It := (List.range K).flatMap (itE d w va vb ea eb)
theorem itsT_succ (d : Nat) (w : World) (va vb : Value) (ta tb : List Tr) (K : Nat) : itsT d w va vb ta tb (K + 1) = itsT d w va vb ta tb K ++ itT d w va vb ta tb K := by simp [itsT, List.range_succ, List.flatMap_append]
theorem itsE_succ (d : Nat) (w : World) (va vb : Value) (ea eb : Ens) (K : Nat) : itsE d w va vb ea eb (K + 1) = itsE d w va vb ea eb K ++ itE d w va vb ea eb K := by simp [itsE, List.range_succ, List.flatMap_append]
theorem itE_of {d : Nat} {w : World} {va vb : Value} {ea eb : Ens} {i : Nat} {e f : Int × List Tr} (h : ea[i]? = some e) (k : eb[i]? = some f) : itE d w va vb ea eb i = itsT d w (cellE w va i) (cellE w vb i) e.2 f.2 e.2.length := by simp [itE, h, k]
theorem itT_of {d : Nat} {w : World} {va vb : Value} {ta tb : List Tr} {k : Nat} {t u : Tr} (h : ta[k]? = some t) (q : tb[k]? = some u) : itT d w va vb ta tb k = if t.es.length = 0 then [] else [⟨d, cellT w va k, cellT w vb k, t.es, u.es⟩] := by simp [itT, h, q]
theorem mem_itT {d : Nat} {w : World} {va vb : Value} {ta tb : List Tr} {k : Nat} {x : It} : x ∈ itT d w va vb ta tb k ↔ ∃ t u, ta[k]? = some t ∧ tb[k]? = some u ∧ t.es.length ≠ 0 ∧ x = ⟨d, cellT w va k, cellT w vb k, t.es, u.es⟩ := by
  unfold itT
  split
  · rename_i t u h1 h2
    rw [h1, h2]
    split
    · rename_i h3
      constructor
      · intro h; cases h
      · rintro ⟨t', u', e1, e2, e3, _⟩
        cases e1
        exact absurd h3 e3
    · rename_i h3
      simp only [List.mem_singleton]
      constructor
      · intro h; exact ⟨t, u, rfl, rfl, h3, h⟩
      · rintro ⟨t', u', e1, e2, e3, e4⟩
        cases e1; cases e2
        exact e4
  · rename_i h
    constructor
    · intro h; cases h
    · rintro ⟨t, u, h1, h2, _⟩
      exact absurd h2 (by intro h2; exact h t u h1 h2)
theorem mem_itsE {d : Nat} {w : World} {va vb : Value} {ea eb : Ens} {K : Nat} {x : It} (h : x ∈ itsE d w va vb ea eb K) : ∃ i e f k t u, i < K ∧ ea[i]? = some e ∧ eb[i]? = some f ∧ e.2[k]? = some t ∧ f.2[k]? = some u ∧ t.es.length ≠ 0 ∧ x = ⟨d, cellT w (cellE w va i) k, cellT w (cellE w vb i) k, t.es, u.es⟩ := by
  obtain ⟨i, hi, h⟩ := List.mem_flatMap.1 h
  unfold itE at h
  split at h
  · rename_i e f h1 h2
    obtain ⟨k, hk, h⟩ := List.mem_flatMap.1 h
    obtain ⟨t, u, h3, h4, h5, rfl⟩ := mem_itT.1 h
    exact ⟨i, e, f, k, t, u, List.mem_range.1 hi, h1, h2, h3, h4, h5, rfl⟩
  · cases h
theorem in_itsE {d : Nat} {w : World} {va vb : Value} {ea eb : Ens} {K i k : Nat} {e f : Int × List Tr} {t u : Tr} (hi : i < K) (h1 : ea[i]? = some e) (h2 : eb[i]? = some f) (h3 : e.2[k]? = some t) (h4 : f.2[k]? = some u) (h5 : t.es.length ≠ 0) :
    (⟨d, cellT w (cellE w va i) k, cellT w (cellE w vb i) k, t.es, u.es⟩ : It) ∈ itsE d w va vb ea eb K := by
  refine List.mem_flatMap.2 ⟨i, List.mem_range.2 hi, ?_⟩
  rw [itE_of h1 h2]
  exact List.mem_flatMap.2 ⟨k, List.mem_range.2 (List.getElem?_eq_some_iff.1 h3).1, mem_itT.2 ⟨t, u, h3, h4, h5, rfl⟩⟩
theorem lst_ext {α : Type} {l m : List α} (h : l.length = m.length) (hj : ∀ (j : Nat) (x y : α), l[j]? = some x → m[j]? = some y → x = y) : l = m := by
  refine List.ext_getElem? fun i => ?_
  by_cases hi : i < l.length
  · rw [List.getElem?_eq_getElem hi, List.getElem?_eq_getElem (by omega)]
    exact congrArg some (hj i _ _ (List.getElem?_eq_getElem hi) (List.getElem?_eq_getElem (by omega)))
  · rw [List.getElem?_eq_none (by omega), List.getElem?_eq_none (by omega)]
/-- Two lists are one just if they are alike, and all that is deeper is. -/
theorem es_iff {d : Nat} {w : World} {va vb : Value} {ea eb : Ens} (h : ea.length = eb.length) : ea = eb ↔ OkC ea eb ∧ ∀ x ∈ itsE d w va vb ea eb ea.length, x.ea = x.eb := by
  constructor
  · rintro rfl
    refine ⟨fun i e f h1 h2 => ?_, fun x hx => ?_⟩
    · rw [h1] at h2
      cases h2
      refine ⟨rfl, rfl, fun k t u h3 h4 => ?_⟩
      rw [h3] at h4
      cases h4
      exact ⟨rfl, rfl, rfl, rfl, rfl⟩
    · obtain ⟨i, e, f, k, t, u, hi, h1, h2, h3, h4, h5, rfl⟩ := mem_itsE hx
      rw [h1] at h2
      cases h2
      rw [h3] at h4
      cases h4
      rfl
  · rintro ⟨h1, h2⟩
    refine lst_ext h fun i e f he hf => ?_
    obtain ⟨g1, g2, g3⟩ := h1 i e f he hf
    refine Prod.ext g1 (lst_ext g2 fun k t u ht hu => ?_)
    have ha := g3 k t u ht hu
    refine tr_iffA.2 ⟨ha, ?_⟩
    by_cases h0 : t.es.length = 0
    · have h00 := ha.2.2.2.1
      rw [List.eq_nil_of_length_eq_zero h0, List.eq_nil_of_length_eq_zero (h00.symm.trans h0)]
    · exact h2 _ (in_itsE (List.getElem?_eq_some_iff.1 he).1 he hf ht hu h0)
/-- What an item weighs. -/
def wtE (d : Nat) (es : Ens) : Nat := 1 + ((subs es).map (cntN d)).sum
def It.wt (x : It) : Nat := wtE x.d x.ea
def wts (l : List It) : Nat := (l.map It.wt).sum
theorem wts_append (l m : List It) : wts (l ++ m) = wts l + wts m := by simp [wts]
theorem len_wts : ∀ (l : List It), l.length ≤ wts l
  | [] => by simp [wts]
  | x :: l => by
    have := len_wts l
    simp only [wts, List.map_cons, List.sum_cons, List.length_cons, It.wt, wtE] at this ⊢
    omega
theorem take_atV {α : Type} {l : List α} {i : Nat} {x : α} (h : l[i]? = some x) : l.take (i + 1) = l.take i ++ [x] := by
  obtain ⟨hl, rfl⟩ := List.getElem?_eq_some_iff.1 h
  rw [List.take_succ_eq_append_getElem hl]
theorem itsT_wt (d : Nat) (w : World) (va vb : Value) (ta tb : List Tr) : ∀ K, K ≤ ta.length → wts (itsT d w va vb ta tb K) ≤ ((ta.take K).map (cntN (d + 1))).sum
  | 0, _ => by simp [itsT, wts]
  | K + 1, h => by
    have ih := itsT_wt d w va vb ta tb K (by omega)
    have ht : ta[K]? = some (ta[K]'(by omega)) := List.getElem?_eq_getElem _
    rw [itsT_succ, wts_append, take_atV ht, List.map_append, List.sum_append]
    have h2 : wts (itT d w va vb ta tb K) ≤ cntN (d + 1) (ta[K]'(by omega)) := by
      unfold itT
      rw [ht]
      split
      · rename_i t u e1 e2
        cases e1
        split
        · simp [wts]
        · simp [wts, It.wt, wtE, cntN]
      · simp [wts]
    simp only [List.map_cons, List.map_nil, List.sum_cons, List.sum_nil]
    omega
theorem subs_snocV (es : Ens) (e : Int × List Tr) : subs (es ++ [e]) = subs es ++ e.2 := by simp [subs, List.flatMap_append]
theorem itsE_wt (d : Nat) (w : World) (va vb : Value) (ea eb : Ens) : ∀ K, K ≤ ea.length → wts (itsE d w va vb ea eb K) ≤ ((subs (ea.take K)).map (cntN (d + 1))).sum
  | 0, _ => by simp [itsE, wts]
  | K + 1, h => by
    have ih := itsE_wt d w va vb ea eb K (by omega)
    have ht : ea[K]? = some (ea[K]'(by omega)) := List.getElem?_eq_getElem _
    rw [itsE_succ, wts_append, take_atV ht, subs_snocV, List.map_append, List.sum_append]
    have h2 : wts (itE d w va vb ea eb K) ≤ ((ea[K]'(by omega)).2.map (cntN (d + 1))).sum := by
      unfold itE
      rw [ht]
      split
      · rename_i t u e1 e2
        cases e1
        have := itsT_wt d w (cellE w va K) (cellE w vb K) (ea[K]'(by omega)).2 u.2 _ (Nat.le_refl _)
        rwa [List.take_length] at this
      · simp [wts]
    omega
theorem wts_more (d : Nat) (w : World) (va vb : Value) (ea eb : Ens) {K : Nat} (h : K ≤ ea.length) : wts (itsE d w va vb ea eb K) + 1 ≤ wtE (d + 1) ea := by
  have h1 := itsE_wt d w va vb ea eb K h
  have h2 : ((subs ea).map (cntN (d + 1))).sum = ((subs (ea.take K)).map (cntN (d + 1))).sum + ((subs (ea.drop K)).map (cntN (d + 1))).sum := by
    rw [← List.sum_append, ← List.map_append, subs, subs, subs, ← List.flatMap_append, List.take_append_drop]
  unfold wtE
  omega
/-- What an item reads. -/
def ItOk (w : World) (x : It) : Prop := EnsIn x.d w x.va x.ea ∧ EnsIn x.d w x.vb x.eb ∧ x.ea.length = x.eb.length
theorem ItOk.below {w w1 : World} {x : It} (h : ItOk w x) (hb : Below w.heap.size w w1) : ItOk w1 x := ⟨h.1.belowE hb, h.2.1.belowE hb, h.2.2⟩
theorem cellE_of {d : Nat} {w : World} {v : Value} {es : Ens} (h : EnsIn d w v es) {i : Nat} {e : Int × List Tr} (hi : es[i]? = some e) : ∃ g off a n c, v = .slice (some ⟨g, off, none⟩) es.length c ∧ cellE w v i = .slice a e.2.length n ∧ w.cell? ⟨g, off + i * 2, none⟩ = some (.int .i64 e.1) ∧ w.cell? ⟨g, off + i * 2 + 1, none⟩ = some (.slice a e.2.length n) ∧ TrsIn d w (.slice a e.2.length n) e.2 := by
  obtain ⟨a, cap, rfl, _⟩ := RowP.open h
  obtain ⟨g, off, rfl, r, ⟨vt, rfl, _, ht⟩, hc⟩ := RowP.get h hi
  obtain ⟨a2, c2, rfl, _⟩ := RowP.open ht
  have c0 := hc 0 _ rfl
  have c1 := hc 1 _ rfl
  exact ⟨g, off, a2, c2, cap, rfl, by simp [cellE, c1], c0, c1, ht⟩
theorem cellT_of {d : Nat} {w : World} {v : Value} {ts : List Tr} (h : TrsIn (d + 1) w v ts) {k : Nat} {t : Tr} (hk : ts[k]? = some t) : EnsIn d w (cellT w v k) t.es := by
  obtain ⟨a, cap, rfl, _⟩ := RowP.open h
  obtain ⟨g, off, rfl, r, hr, hc⟩ := RowP.get h hk
  obtain ⟨ve, vr, rfl, _, _, _, _, _, h7⟩ := hr
  have c3 := hc 3 _ rfl
  simp only [cellT, c3, Option.getD_some]
  exact h7
theorem its_ok {d : Nat} {w : World} {va vb : Value} {ea eb : Ens} (ha : EnsIn (d + 1) w va ea) (hb : EnsIn (d + 1) w vb eb) (ho : OkC ea eb) {K : Nat} {x : It} (hx : x ∈ itsE d w va vb ea eb K) : ItOk w x ∧ x.ea.length ≠ 0 := by
  obtain ⟨i, e, f, k, t, u, hi, h1, h2, h3, h4, h5, rfl⟩ := mem_itsE hx
  obtain ⟨g, off, a1, n1, c1, _, q1, _, _, q2⟩ := cellE_of ha h1
  obtain ⟨g', off', a2, n2, c2, _, r1, _, _, r2⟩ := cellE_of hb h2
  refine ⟨⟨?_, ?_, ((ho i e f h1 h2).2.2 k t u h3 h4).2.2.2.1⟩, h5⟩
  · show EnsIn d w _ _
    rw [q1]
    exact cellT_of q2 h3
  · show EnsIn d w _ _
    rw [r1]
    exact cellT_of r2 h4
theorem ens_zero {w : World} {v : Value} {es : Ens} (h : EnsIn 0 w v es) : subs es = [] := by
  rcases hs : subs es with _ | ⟨t, l⟩
  · rfl
  · exfalso
    have ht : t ∈ subs es := by rw [hs]; simp
    obtain ⟨e, he, ht⟩ := mem_subs.1 ht
    obtain ⟨i, hi, rfl⟩ := List.getElem_of_mem he
    obtain ⟨_, _, _, _, _, _, _, _, _, q⟩ := cellE_of h (List.getElem?_eq_getElem hi)
    obtain ⟨k, hk, rfl⟩ := List.getElem_of_mem ht
    obtain ⟨_, _, _, r, hr, _⟩ := RowP.get q (List.getElem?_eq_getElem hk)
    exact hr
/-- A list of entries of one's own, with its blocks. -/
def EnsO (d B : Nat) (w : World) (v : Value) (es : Ens) (bs : List Nat) : Prop := ∃ rows bss, RowO (EtO (TrO d B) B) B 50 2 w v es rows bss ∧ bs = allB v bss
theorem rowO_cell {α : Type} {P : World → List Value → α → List Nat → Prop} {B e size : Nat} {w : World} {v : Value} {xs : List α} {rows : List (List Value)} {bss : List (List Nat)} (h : RowO P B e size w v xs rows bss) (hs : 0 < size) {i : Nat} {r : List Value} (hi : rows[i]? = some r) :
    ∃ g off cap, v = .slice (some ⟨g, off, none⟩) xs.length cap ∧ ∀ j u, r[j]? = some u → w.cell? ⟨g, off + i * size + j, none⟩ = some u := by
  have hr := (RowG.own h.wide hs h.own).1
  obtain ⟨a, cap, rfl, _⟩ := hr.open
  obtain ⟨g, off, rfl, hc⟩ := hr.get hi
  exact ⟨g, off, cap, by rw [h.len], hc⟩
/-- Its own block. -/
theorem EnsO.head {d B : Nat} {w : World} {v : Value} {es : Ens} {bs : List Nat} (h : EnsO d B w v es bs) (hn : es.length ≠ 0) : ∃ g cap cs ty l, v = .slice (some ⟨g, 0, none⟩) es.length cap ∧ w.heap[g]? = some (.cells cs ty (0, 0)) ∧ bs = g :: l := by
  obtain ⟨rows, bss, h1, rfl⟩ := h
  rcases h1.own.2 with ⟨rfl, h2⟩ | ⟨g, cap, cur, rfl, _, hg, _⟩
  · exact absurd h2 hn
  · exact ⟨g, cap, cur, _, bss.flatten, rfl, hg, by simp [allB, blkOf, Value.ownBlock]⟩
theorem EnsO.ens {d B : Nat} {w : World} {v : Value} {es : Ens} {bs : List Nat} (h : EnsO d B w v es bs) : EnsIn d w v es := by
  obtain ⟨rows, bss, h1, rfl⟩ := h
  refine h1.rowP (by decide) fun r x b hx hp => ?_
  obtain ⟨vt, rows', bss', g1, g2, g3, rfl⟩ := hp
  exact ⟨vt, g1, g2, g3.rowP (by decide) fun r x b hx hp => hp.trC⟩
theorem TrV.ens {n B : Nat} {w : World} {v : Value} {t : Tr} {bs : List Nat} (h : TrV (n + 1) B w v t bs) : ∃ ve vr cs, v = .agg #[.int .i64 t.kind, .int .i64 t.n, .string t.s, ve, vr] ∧ EnsO n B w ve t.es cs ∧ cs.Nodup := by
  obtain ⟨r, rfl, ⟨ve, vr, rows, bss, rfl, _, _, _, _, _, h7, rfl⟩, h8⟩ := h
  exact ⟨ve, vr, _, rfl, ⟨rows, bss, h7, rfl⟩, (List.nodup_append.1 h8.1).2.1⟩
theorem footAT {d B : Nat} {w : World} {va vb : Value} {ta tb : List Tr} {rows : List (List Value)} {bss : List (List Nat)} (h : RowO (TrO (d + 1) B) B 25 5 w va ta rows bss) : ∀ K, ∃ P : List (It × List Nat), P.map Prod.fst = itsT d w va vb ta tb K ∧ (∀ p ∈ P, EnsO p.1.d B w p.1.va p.1.ea p.2) ∧ (P.flatMap Prod.snd).Sublist (bss.take K).flatten
  | 0 => ⟨[], by simp [itsT], by simp, by simp⟩
  | K + 1 => by
    obtain ⟨P, h1, h2, h3⟩ := footAT (va := va) (vb := vb) (ta := ta) (tb := tb) h K
    rw [itsT_succ]
    have hmono : (bss.take K).flatten.Sublist (bss.take (K + 1)).flatten := by
      rw [List.take_add_one, List.flatten_append]
      exact List.sublist_append_left _ _
    unfold itT
    split
    · rename_i t u e1 e2
      split
      · exact ⟨P, by simp [h1], h2, h3.trans hmono⟩
      · obtain ⟨r, b, g1, g2, g3⟩ := h.each K _ e1
        obtain ⟨g, off, cap, hv, hc⟩ := rowO_cell h (by decide) g1
        obtain ⟨ve, vr, rows', bss', rfl, _, _, _, _, _, k7, rfl⟩ := g3
        have c3 := hc 3 _ rfl
        have hcell : cellT w va K = ve := by rw [hv]; simp [cellT, c3]
        refine ⟨P ++ [(⟨d, cellT w va K, cellT w vb K, t.es, u.es⟩, allB ve bss')], by simp [h1], fun p hp => ?_, ?_⟩
        · rcases List.mem_append.1 hp with hp | hp
          · exact h2 p hp
          · obtain rfl := List.mem_singleton.1 hp
            have q : EnsO d B w ve _ (allB ve bss') := ⟨rows', bss', k7, rfl⟩
            show EnsO d B w (cellT w va K) _ (allB ve bss')
            rw [hcell]
            exact q
        · rw [List.flatMap_append, take_atV g2, List.flatten_append]
          refine h3.append ?_
          simp only [List.flatMap_cons, List.flatMap_nil, List.append_nil, List.flatten_cons, List.flatten_nil]
          exact List.sublist_append_right _ _
    · exact ⟨P, by simp [h1], h2, h3.trans hmono⟩
theorem footAE {d B : Nat} {w : World} {va vb : Value} {ea eb : Ens} {rows : List (List Value)} {bss : List (List Nat)} (h : RowO (EtO (TrO (d + 1) B) B) B 50 2 w va ea rows bss) : ∀ K, ∃ P : List (It × List Nat), P.map Prod.fst = itsE d w va vb ea eb K ∧ (∀ p ∈ P, EnsO p.1.d B w p.1.va p.1.ea p.2) ∧ (P.flatMap Prod.snd).Sublist (bss.take K).flatten
  | 0 => ⟨[], by simp [itsE], by simp, by simp⟩
  | K + 1 => by
    obtain ⟨P, h1, h2, h3⟩ := footAE (va := va) (vb := vb) (ea := ea) (eb := eb) h K
    rw [itsE_succ]
    have hmono : (bss.take K).flatten.Sublist (bss.take (K + 1)).flatten := by
      rw [List.take_add_one, List.flatten_append]
      exact List.sublist_append_left _ _
    unfold itE
    split
    · rename_i e f e1 e2
      obtain ⟨r, b, g1, g2, g3⟩ := h.each K _ e1
      obtain ⟨g, off, cap, hv, hc⟩ := rowO_cell h (by decide) g1
      obtain ⟨vt, rows', bss', rfl, _, k7, rfl⟩ := g3
      have c1 := hc 1 _ rfl
      have hcell : cellE w va K = vt := by rw [hv]; simp [cellE, c1]
      rw [← hcell] at k7
      obtain ⟨Q, q1, q2, q3⟩ := footAT (va := cellE w va K) (vb := cellE w vb K) (ta := e.2) (tb := f.2) k7 e.2.length
      refine ⟨P ++ Q, by simp [h1, q1], fun p hp => ?_, ?_⟩
      · rcases List.mem_append.1 hp with hp | hp
        · exact h2 p hp
        · exact q2 p hp
      · rw [List.flatMap_append, take_atV g2, List.flatten_append]
        refine h3.append ?_
        simp only [List.flatten_cons, List.flatten_nil, List.append_nil, allB]
        exact (q3.trans (by conv => rhs; rw [← List.take_append_drop e.2.length bss', List.flatten_append]
                            exact List.sublist_append_left _ _)).trans (List.sublist_append_right _ _)
    · exact ⟨P, by simp [h1], h2, h3.trans hmono⟩
/-- What is deeper has the list's other blocks. -/
theorem footA {d B : Nat} {w : World} {va vb : Value} {ea eb : Ens} {bs : List Nat} (h : EnsO (d + 1) B w va ea bs) (K : Nat) : ∃ P : List (It × List Nat), P.map Prod.fst = itsE d w va vb ea eb K ∧ (∀ p ∈ P, EnsO p.1.d B w p.1.va p.1.ea p.2) ∧ ∃ l, bs = blkOf va ++ l ∧ (P.flatMap Prod.snd).Sublist l := by
  obtain ⟨rows, bss, h1, rfl⟩ := h
  obtain ⟨P, g1, g2, g3⟩ := footAE (va := va) (vb := vb) (ea := ea) (eb := eb) h1 K
  refine ⟨P, g1, g2, bss.flatten, rfl, g3.trans ?_⟩
  conv => rhs; rw [← List.take_append_drop K bss, List.flatten_append]
  exact List.sublist_append_left _ _
theorem footBT {d B : Nat} {w : World} {va vb : Value} {ta tb : List Tr} {rows : List (List Value)} {bss : List (List Nat)} (h : RowO (TrO (d + 1) B) B 25 5 w vb tb rows bss) : ∀ K, ∃ P : List (It × List Nat), P.map Prod.fst = itsT d w va vb ta tb K ∧ (∀ p ∈ P, EnsO p.1.d B w p.1.vb p.1.eb p.2) ∧ (P.flatMap Prod.snd).Sublist (bss.take K).flatten
  | 0 => ⟨[], by simp [itsT], by simp, by simp⟩
  | K + 1 => by
    obtain ⟨P, h1, h2, h3⟩ := footBT (va := va) (vb := vb) (ta := ta) (tb := tb) h K
    rw [itsT_succ]
    have hmono : (bss.take K).flatten.Sublist (bss.take (K + 1)).flatten := by
      rw [List.take_add_one, List.flatten_append]
      exact List.sublist_append_left _ _
    unfold itT
    split
    · rename_i t u e1 e2
      split
      · exact ⟨P, by simp [h1], h2, h3.trans hmono⟩
      · obtain ⟨r, b, g1, g2, g3⟩ := h.each K _ e2
        obtain ⟨g, off, cap, hv, hc⟩ := rowO_cell h (by decide) g1
        obtain ⟨ve, vr, rows', bss', rfl, _, _, _, _, _, k7, rfl⟩ := g3
        have c3 := hc 3 _ rfl
        have hcell : cellT w vb K = ve := by rw [hv]; simp [cellT, c3]
        refine ⟨P ++ [(⟨d, cellT w va K, cellT w vb K, t.es, u.es⟩, allB ve bss')], by simp [h1], fun p hp => ?_, ?_⟩
        · rcases List.mem_append.1 hp with hp | hp
          · exact h2 p hp
          · obtain rfl := List.mem_singleton.1 hp
            have q : EnsO d B w ve _ (allB ve bss') := ⟨rows', bss', k7, rfl⟩
            show EnsO d B w (cellT w vb K) _ (allB ve bss')
            rw [hcell]
            exact q
        · rw [List.flatMap_append, take_atV g2, List.flatten_append]
          refine h3.append ?_
          simp only [List.flatMap_cons, List.flatMap_nil, List.append_nil, List.flatten_cons, List.flatten_nil]
          exact List.sublist_append_right _ _
    · exact ⟨P, by simp [h1], h2, h3.trans hmono⟩
theorem footBE {d B : Nat} {w : World} {va vb : Value} {ea eb : Ens} {rows : List (List Value)} {bss : List (List Nat)} (h : RowO (EtO (TrO (d + 1) B) B) B 50 2 w vb eb rows bss) : ∀ K, ∃ P : List (It × List Nat), P.map Prod.fst = itsE d w va vb ea eb K ∧ (∀ p ∈ P, EnsO p.1.d B w p.1.vb p.1.eb p.2) ∧ (P.flatMap Prod.snd).Sublist (bss.take K).flatten
  | 0 => ⟨[], by simp [itsE], by simp, by simp⟩
  | K + 1 => by
    obtain ⟨P, h1, h2, h3⟩ := footBE (va := va) (vb := vb) (ea := ea) (eb := eb) h K
    rw [itsE_succ]
    have hmono : (bss.take K).flatten.Sublist (bss.take (K + 1)).flatten := by
      rw [List.take_add_one, List.flatten_append]
      exact List.sublist_append_left _ _
    unfold itE
    split
    · rename_i e f e1 e2
      obtain ⟨r, b, g1, g2, g3⟩ := h.each K _ e2
      obtain ⟨g, off, cap, hv, hc⟩ := rowO_cell h (by decide) g1
      obtain ⟨vt, rows', bss', rfl, _, k7, rfl⟩ := g3
      have c1 := hc 1 _ rfl
      have hcell : cellE w vb K = vt := by rw [hv]; simp [cellE, c1]
      rw [← hcell] at k7
      obtain ⟨Q, q1, q2, q3⟩ := footBT (va := cellE w va K) (vb := cellE w vb K) (ta := e.2) (tb := f.2) k7 e.2.length
      refine ⟨P ++ Q, by simp [h1, q1], fun p hp => ?_, ?_⟩
      · rcases List.mem_append.1 hp with hp | hp
        · exact h2 p hp
        · exact q2 p hp
      · rw [List.flatMap_append, take_atV g2, List.flatten_append]
        refine h3.append ?_
        simp only [List.flatten_cons, List.flatten_nil, List.append_nil, allB]
        exact (q3.trans (by conv => rhs; rw [← List.take_append_drop e.2.length bss', List.flatten_append]
                            exact List.sublist_append_left _ _)).trans (List.sublist_append_right _ _)
    · exact ⟨P, by simp [h1], h2, h3.trans hmono⟩
/-- What is deeper has the list's other blocks. -/
theorem footB {d B : Nat} {w : World} {va vb : Value} {ea eb : Ens} {bs : List Nat} (h : EnsO (d + 1) B w vb eb bs) (K : Nat) : ∃ P : List (It × List Nat), P.map Prod.fst = itsE d w va vb ea eb K ∧ (∀ p ∈ P, EnsO p.1.d B w p.1.vb p.1.eb p.2) ∧ ∃ l, bs = blkOf vb ++ l ∧ (P.flatMap Prod.snd).Sublist l := by
  obtain ⟨rows, bss, h1, rfl⟩ := h
  obtain ⟨P, g1, g2, g3⟩ := footBE (va := va) (vb := vb) (ea := ea) (eb := eb) h1 K
  refine ⟨P, g1, g2, bss.flatten, rfl, g3.trans ?_⟩
  conv => rhs; rw [← List.take_append_drop K bss, List.flatten_append]
  exact List.sublist_append_left _ _
end Go.Proofs.Ytgedelgdjcnogaa
/- Two rows of fields, two trees, two rows of trees: alike? -/
namespace Go.Proofs.Ytgedelgdjcnogaa
open Go.ChangeShapes Go.WideShapes Go.ChangeAt Go.RowKit
set_option linter.unusedVariables false
set_option linter.unusedSimpArgs false
set_option maxRecDepth 20000

/-- A Bool that says whether something is so. -/
def Says (p : Prop) (e : Ending) : Prop := ∃ R : Bool, e = .returned (.bool R) ∧ (R = true ↔ p)
theorem says_no {p : Prop} (h : ¬ p) : Says p (.returned (.bool false)) := ⟨false, rfl, by simp [h]⟩
theorem says_yes {p : Prop} (h : p) : Says p (.returned (.bool true)) := ⟨true, rfl, by simp [h]⟩
theorem lst_pre {α : Type} {l m : List α} {N : Nat} (h1 : l.length = N) (h2 : m.length = N) (hj : ∀ j, j < N → l[j]? = m[j]?) : l = m := by
  refine List.ext_getElem? fun i => ?_
  by_cases hi : i < N
  · exact hj i hi
  · rw [List.getElem?_eq_none (by omega), List.getElem?_eq_none (by omega)]
set_option maxHeartbeats 2000000 in
theorem equalR_any (pa pb : Option Addr) (Ka Kb ca cb : Nat) (la lb : List Fd) (w : World) (k1 : la.length = Ka) (k2 : lb.length = Kb) (x1 : Ka ≤ ca) (x2 : ca ≤ 9223372036854775807) (y1 : Kb ≤ cb) (y2 : cb ≤ 9223372036854775807)
    (ha : RowG w (.slice pa Ka ca) 4 (fdRows la)) (hb : RowG w (.slice pb Kb cb) 4 (fdRows lb)) :
    Calls Try.prog 56 #[.slice pa Ka ca, .slice pb Kb cb] w fun e w' => Says (la = lb) e ∧ Below w.heap.size w w' := by
  have RA : Hid (RowG w (.slice pa Ka ca) 4 (fdRows la)) := ha
  have RB : Hid (RowG w (.slice pb Kb cb) 4 (fdRows lb)) := hb
  have HKa : Hid (la.length = Ka) := k1
  have HKb : Hid (lb.length = Kb) := k2
  clear ha hb k1 k2
  by_cases hk : Ka = Kb
  · subst hk
    go_enter Try.func56, Try.ntmps56
    go_wp2_with fail
    go_loopw [13] (fun iv wr => ∃ i : Nat, iv = .int .i64 (i : Int) ∧ i ≤ Ka ∧ Hid (∀ j, j < i → la[j]? = lb[j]?) ∧ Below w.heap.size w wr) (fun iv _ => Ka - (intOf iv).toNat)
    case atStart => exact ⟨0, rfl, by omega, (fun j hj => absurd hj (by omega) : ∀ j, j < 0 → la[j]? = lb[j]?), Below.refl _ _⟩
    case round =>
      obtain ⟨i, rfl, hi, HJ, hbel⟩ := hrel
      by_cases hlt : i < Ka
      · obtain ⟨r, hr⟩ : ∃ r, la[i]? = some r := ⟨_, List.getElem?_eq_getElem (by rw [HKa.out]; exact hlt)⟩
        obtain ⟨s, hs⟩ : ∃ r, lb[i]? = some r := ⟨_, List.getElem?_eq_getElem (by rw [HKb.out]; exact hlt)⟩
        obtain ⟨g, off, rfl, c1⟩ := (RA.out.below hbel).get (show (fdRows la)[i]? = some r.cells by simp [fdRows, hr])
        obtain ⟨g2, off2, rfl, c2⟩ := (RB.out.below hbel).get (show (fdRows lb)[i]? = some s.cells by simp [fdRows, hs])
        have p0 := c1 0 _ rfl
        have p1 := c1 1 _ rfl
        have p2 := c1 2 _ rfl
        have p3 := c1 3 _ rfl
        have o0 := c2 0 _ rfl
        have o1 := c2 1 _ rfl
        have o2 := c2 2 _ rfl
        have o3 := c2 3 _ rfl
        simp only [Nat.add_zero] at p0 o0
        have HR : Hid (la[i]? = some r) := hr
        have HS : Hid (lb[i]? = some s) := hs
        clear c1 c2 hr hs
        by_cases hrs : r = s
        · subst hrs
          obtain ⟨t1, t2, t3, t4⟩ := r
          simp only at p0 p1 p2 p3 o0 o1 o2 o3
          go_wp2_with fail
          go_quiet (fail)
          have hbn := below_drewN nq hbel
          clear p0 p1 p2 p3 o0 o1 o2 o3
          go_wp2_with fail
          go_roundw
          case rel => exact ⟨i + 1, by go_num, by omega, (fun j hj => by
            rcases Nat.lt_or_eq_of_le (Nat.le_of_lt_succ hj) with h | h
            · exact HJ.out j h
            · subst h; rw [HR.out, HS.out] : ∀ j, j < i + 1 → la[j]? = lb[j]?), hbn⟩
          case measure => simp [intOf]; omega
        · obtain ⟨t1, t2, t3, t4⟩ := r
          obtain ⟨s1, s2, s3, s4⟩ := s
          simp only at p0 p1 p2 p3 o0 o1 o2 o3
          have hne : la ≠ lb := fun e => hrs (by have := HR.out; rw [e, HS.out] at this; exact (Option.some.inj this).symm)
          have hx := fd_neq t1 t2 t3 s1 s2 s3 t4 s4 hrs
          clear hrs
          go_wp2_with fail
          go_quiet (fail)
          have hbn := below_drewN nq hbel
          clear p0 p1 p2 p3 o0 o1 o2 o3 hx
          go_wp2_with fail
          go_ret
          exact ⟨says_no hne, hbn⟩
      · have hje : la = lb := lst_pre HKa.out HKb.out fun j hj => HJ.out j (by omega)
        go_wp2_with fail
        go_ret
        exact ⟨says_yes hje, hbel⟩
  · have hne : la ≠ lb := fun e => hk (by rw [← HKa.out, ← HKb.out, e])
    have hd : ((Ka : Int) != (Kb : Int)) = true := by simp; omega
    go_enter Try.func56, Try.ntmps56
    go_wp2_with fail
    go_ret
    exact ⟨says_no hne, Below.refl _ _⟩
set_option maxHeartbeats 4000000 in
theorem alike_any (n m : Nat) (a b : Tr) (va vb : Value) (w : World) (ha : TrIn n w va a) (hb : TrIn m w vb b) :
    Calls Try.prog 41 #[va, vb] w fun e w' => Says (AliT a b) e ∧ Below w.heap.size w w' := by
  obtain ⟨n', ve, vr, rfl, rfl, ka, na, sa, fa, ra, ea⟩ := ha.open
  obtain ⟨m', ve2, vr2, rfl, rfl, kb, nb, sb, fb, rb, eb⟩ := hb.open
  obtain ⟨pe, ce, rfl, u1, u2, u3, u4, u5⟩ := ea.open
  obtain ⟨pe2, ce2, rfl, v1, v2, v3, v4, v5⟩ := eb.open
  obtain ⟨pr, cr, rfl, x1, x2, x3, x4, x5⟩ := rest_holds ra
  obtain ⟨pr2, cr2, rfl, y1, y2, y3, y4, y5⟩ := rest_holds rb
  clear u5 v5 x5 y5 ha hb ea eb
  unfold maxLen at u2 v2 x2 y2
  obtain ⟨Ke, hKe⟩ : ∃ K, a.es.length = K := ⟨_, rfl⟩
  obtain ⟨Ke2, hKe2⟩ : ∃ K, b.es.length = K := ⟨_, rfl⟩
  obtain ⟨Kr, hKr⟩ : ∃ K, a.rest.length = K := ⟨_, rfl⟩
  obtain ⟨Kr2, hKr2⟩ : ∃ K, b.rest.length = K := ⟨_, rfl⟩
  rw [hKe] at u1 ⊢
  rw [hKe2] at v1 ⊢
  rw [hKr] at x1 ra ⊢
  rw [hKr2] at y1 rb ⊢
  have HEQ : Hid (∀ W, Below w.heap.size w W → Calls Try.prog 56 #[.slice pr Kr cr, .slice pr2 Kr2 cr2] W fun e w' => Says (a.rest = b.rest) e ∧ Below W.heap.size W w') := fun W hW => equalR_any pr pr2 Kr Kr2 cr cr2 _ _ W hKr hKr2 x1 (by omega) y1 (by omega) (ra.below hW) (rb.below hW)
  clear ra rb u4 v4 x4 y4 sa sb fa fb u3 v3 x3 y3
  have HA : Hid (AliT a b ↔ a.kind = b.kind ∧ a.n = b.n ∧ a.s = b.s ∧ Ke = Ke2 ∧ a.rest = b.rest) := (by rw [← hKe, ← hKe2]; exact Iff.rfl : AliT a b ↔ a.kind = b.kind ∧ a.n = b.n ∧ a.s = b.s ∧ Ke = Ke2 ∧ a.rest = b.rest)
  clear hKe hKe2 hKr hKr2
  generalize AliT a b = P at *
  generalize a.rest = Ra at *
  generalize b.rest = Rb at *
  obtain ⟨k1, e1⟩ : ∃ K, a.kind = K := ⟨_, rfl⟩
  obtain ⟨k2, e2⟩ : ∃ K, b.kind = K := ⟨_, rfl⟩
  obtain ⟨n1, e3⟩ : ∃ K, a.n = K := ⟨_, rfl⟩
  obtain ⟨n2, e4⟩ : ∃ K, b.n = K := ⟨_, rfl⟩
  obtain ⟨s1, e5⟩ : ∃ K, a.s = K := ⟨_, rfl⟩
  obtain ⟨s2, e6⟩ : ∃ K, b.s = K := ⟨_, rfl⟩
  rw [e1, e2, e3, e4, e5, e6] at HA ⊢
  clear e1 e2 e3 e4 e5 e6 ka na kb nb
  have hb2 : ∀ o1 o2, Below w.heap.size w ((w.alloc o1).alloc o2) := fun o1 o2 => ((Below.refl _ _).alloc (Nat.le_refl _) _).alloc (by simp) _
  by_cases hk : k1 = k2
  · subst hk
    by_cases hn : n1 = n2
    · subst hn
      by_cases hs : s1 = s2
      · subst hs
        by_cases he : Ke = Ke2
        · subst he
          go_enter Try.func41, Try.ntmps41
          go_wp2_with fail
          refine (HEQ.out _ (hb2 _ _)).mono ?_
          rintro e w1 ⟨⟨R, rfl, hR⟩, h1⟩
          have HR : Hid (R = true ↔ Ra = Rb) := hR
          clear hR
          go_wp2_with fail
          go_ret
          exact ⟨⟨R, rfl, by rw [HA.out, HR.out]; simp⟩, (hb2 _ _).trans (h1.mono (hb2 _ _).size)⟩
        · have hd : ((Ke : Int) == (Ke2 : Int)) = false := by simp; omega
          go_enter Try.func41, Try.ntmps41
          go_wp2_with fail
          go_ret
          exact ⟨says_no (by rw [HA.out]; simp [he]), hb2 _ _⟩
      · have hd : (s1.toList == s2.toList) = false := by
          simp only [beq_eq_false_iff_ne, ne_eq]
          exact fun h => hs (toList_ext h)
        go_enter Try.func41, Try.ntmps41
        go_wp2_with fail
        go_ret
        exact ⟨says_no (by rw [HA.out]; simp [hs]), hb2 _ _⟩
    · have hd : (n1 == n2) = false := by simpa using hn
      go_enter Try.func41, Try.ntmps41
      go_wp2_with fail
      go_ret
      exact ⟨says_no (by rw [HA.out]; simp [hn]), hb2 _ _⟩
  · have hd : (k1 == k2) = false := by simpa using hk
    go_enter Try.func41, Try.ntmps41
    go_wp2_with fail
    go_ret
    exact ⟨says_no (by rw [HA.out]; simp [hk]), hb2 _ _⟩
set_option maxHeartbeats 4000000 in
theorem equalT_any (n m : Nat) (la lb : List Tr) (va vb : Value) (w : World) (ha : TrsIn n w va la) (hb : TrsIn m w vb lb) :
    Calls Try.prog 57 #[va, vb, .func (.func 41) #[] #[]] w fun e w' => Says (AllA la lb) e ∧ Below w.heap.size w w' := by
  obtain ⟨pa, ca, rfl, u1, u2, u3, u4, u5⟩ := RowP.open ha
  obtain ⟨pb, cb, rfl, v1, v2, v3, v4, v5⟩ := RowP.open hb
  clear u5 v5 u3 v3 u4 v4
  unfold maxLen at u2 v2
  obtain ⟨Ka, hKa⟩ : ∃ K, la.length = K := ⟨_, rfl⟩
  obtain ⟨Kb, hKb⟩ : ∃ K, lb.length = K := ⟨_, rfl⟩
  rw [hKa] at u1 ha ⊢
  rw [hKb] at v1 hb ⊢
  have HA : Hid (TrsIn n w (.slice pa Ka ca) la) := ha
  have HB : Hid (TrsIn m w (.slice pb Kb cb) lb) := hb
  have HKa : Hid (la.length = Ka) := hKa
  have HKb : Hid (lb.length = Kb) := hKb
  clear ha hb hKa hKb
  by_cases hk : Ka = Kb
  · subst hk
    go_enter Try.func57, Try.ntmps57
    go_wp2_with fail
    go_loopw [17] (fun iv wr => ∃ i : Nat, iv = .int .i64 (i : Int) ∧ i ≤ Ka ∧ Hid (∀ j t u, j < i → la[j]? = some t → lb[j]? = some u → AliT t u) ∧ Below w.heap.size w wr) (fun iv _ => Ka - (intOf iv).toNat)
    case atStart => exact ⟨0, rfl, by omega, (fun j t u hj => absurd hj (by omega) : ∀ j t u, j < 0 → la[j]? = some t → lb[j]? = some u → AliT t u), Below.refl _ _⟩
    case round =>
      obtain ⟨i, rfl, hi, HJ, hbel⟩ := hrel
      by_cases hlt : i < Ka
      · obtain ⟨t, ht⟩ : ∃ r, la[i]? = some r := ⟨_, List.getElem?_eq_getElem (by rw [HKa.out]; exact hlt)⟩
        obtain ⟨u, hu⟩ : ∃ r, lb[i]? = some r := ⟨_, List.getElem?_eq_getElem (by rw [HKb.out]; exact hlt)⟩
        obtain ⟨g, off, rfl, c1⟩ := (RowP.belowT HA.out hbel).get ht
        obtain ⟨g2, off2, rfl, c2⟩ := (RowP.belowT HB.out hbel).get hu
        obtain ⟨a1, n1, b1, a2, n2, b2, p0, p1, p2, p3, p4, p5⟩ := trs_get c1
        obtain ⟨a3, n3, b3, a4, n4, b4, o0, o1, o2, o3, o4, o5⟩ := trs_get c2
        have HT : Hid (la[i]? = some t) := ht
        have HU : Hid (lb[i]? = some u) := hu
        have HC : Hid (∀ W, Below wr.heap.size wr W → Calls Try.prog 41 #[.agg #[.int .i64 t.kind, .int .i64 t.n, .string t.s, .slice a1 n1 b1, .slice a2 n2 b2], .agg #[.int .i64 u.kind, .int .i64 u.n, .string u.s, .slice a3 n3 b3, .slice a4 n4 b4]] W fun e w' => Says (AliT t u) e ∧ Below W.heap.size W w') := fun W hW => alike_any n m t u _ _ W (p5.below hW) (o5.below hW)
        clear c1 c2 ht hu p5 o5
        obtain ⟨k1, e1⟩ : ∃ K, t.kind = K := ⟨_, rfl⟩
        obtain ⟨k2, e2⟩ : ∃ K, u.kind = K := ⟨_, rfl⟩
        obtain ⟨m1, e3⟩ : ∃ K, t.n = K := ⟨_, rfl⟩
        obtain ⟨m2, e4⟩ : ∃ K, u.n = K := ⟨_, rfl⟩
        obtain ⟨s1, e5⟩ : ∃ K, t.s = K := ⟨_, rfl⟩
        obtain ⟨s2, e6⟩ : ∃ K, u.s = K := ⟨_, rfl⟩
        rw [e1, e3, e5, e2, e4, e6] at HC
        rw [e1] at p0
        rw [e3] at p1
        rw [e5] at p2
        rw [e2] at o0
        rw [e4] at o1
        rw [e6] at o2
        clear e1 e2 e3 e4 e5 e6
        have hb2 : ∀ o1 o2, Below wr.heap.size wr ((wr.alloc o1).alloc o2) := fun o1 o2 => ((Below.refl _ _).alloc (Nat.le_refl _) _).alloc (by simp) _
        have hal : Below wr.heap.size wr (wr.alloc (Obj.cells #[.int .i64 k1, .int .i64 m1, .string s1, .slice a1 n1 b1, .slice a2 n2 b2] 25)) := (Below.refl _ _).alloc (Nat.le_refl _) _
        replace o0 := (hal.cell (World.block_lt_of_cell? _ _ o0)).trans o0
        replace o1 := (hal.cell (World.block_lt_of_cell? _ _ o1)).trans o1
        replace o2 := (hal.cell (World.block_lt_of_cell? _ _ o2)).trans o2
        replace o3 := (hal.cell (World.block_lt_of_cell? _ _ o3)).trans o3
        replace o4 := (hal.cell (World.block_lt_of_cell? _ _ o4)).trans o4
        clear hal
        go_wp2_with fail
        refine (HC.out _ (hb2 _ _)).mono ?_
        rintro e w1 ⟨⟨R, rfl, hR⟩, h1⟩
        have HR : Hid (R = true ↔ AliT t u) := hR
        have hbn : Below w.heap.size w w1 := hbel.trans (((hb2 _ _).trans (h1.mono (hb2 _ _).size)).mono hbel.size)
        clear hR h1 HC p0 p1 p2 p3 p4 o0 o1 o2 o3 o4
        cases R with
        | true =>
          have HJ2 : Hid (∀ j t u, j < i + 1 → la[j]? = some t → lb[j]? = some u → AliT t u) := (fun j t' u' hj h1 h2 => by
            rcases Nat.lt_or_eq_of_le (Nat.le_of_lt_succ hj) with h | h
            · exact HJ.out j t' u' h h1 h2
            · subst h
              rw [HT.out] at h1
              rw [HU.out] at h2
              cases h1; cases h2
              exact HR.out.1 rfl : ∀ j t u, j < i + 1 → la[j]? = some t → lb[j]? = some u → AliT t u)
          go_wp2_with fail
          go_roundw
          case rel => exact ⟨i + 1, by go_num, by omega, HJ2, hbn⟩
          case measure => simp [intOf]; omega
        | false =>
          have hne : ¬ AllA la lb := fun h => by
            have := HR.out.2 (h.2 i t u HT.out HU.out)
            cases this
          go_wp2_with fail
          go_ret
          exact ⟨says_no hne, hbn⟩
      · have hje : AllA la lb := ⟨HKa.out.trans HKb.out.symm, fun j t u ht hu => HJ.out j t u (by have := (List.getElem?_eq_some_iff.1 ht).1; have := HKa.out; omega) ht hu⟩
        go_wp2_with fail
        go_ret
        exact ⟨says_yes hje, hbel⟩
  · have hne : ¬ AllA la lb := fun e => hk (by rw [← HKa.out, ← HKb.out, e.1])
    have hd : ((Ka : Int) != (Kb : Int)) = true := by simp; omega
    go_enter Try.func57, Try.ntmps57
    go_wp2_with fail
    go_ret
    exact ⟨says_no hne, Below.refl _ _⟩
end Go.Proofs.Ytgedelgdjcnogaa
/- value.compare: what is one level down. -/
namespace Go.Proofs.Ytgedelgdjcnogaa
open Go.ChangeShapes Go.WideShapes Go.ChangeAt Go.RowKit
set_option linter.unusedVariables false
set_option linter.unusedSimpArgs false
set_option maxRecDepth 20000

theorem infoSd : (Try.prog.info? 70).map (fun i => (i.zero, i.size, i.bytes)) = some (some (.agg #[.slice none 0 0, .slice none 0 0]), 2, 48) := by kernel_rfl
theorem range_le {α : Type} (f : Nat → List α) (K : Nat) : ∀ m, ((List.range K).flatMap f).length ≤ ((List.range (K + m)).flatMap f).length
  | 0 => Nat.le_refl _
  | m + 1 => by
    have := range_le f K m
    rw [← Nat.add_assoc, List.range_succ, List.flatMap_append, List.length_append]
    omega
theorem its_pre {dd : Nat} {w : World} {va vb : Value} {ea eb : Ens} {i k : Nat} {e f : Int × List Tr} (h1 : ea[i]? = some e) (h2 : eb[i]? = some f) (hk : k ≤ e.2.length) :
    (itsE dd w va vb ea eb i).length + (itsT dd w (cellE w va i) (cellE w vb i) e.2 f.2 k).length ≤ (itsE dd w va vb ea eb ea.length).length := by
  have hi := (List.getElem?_eq_some_iff.1 h1).1
  have a1 := range_le (itE dd w va vb ea eb) (i + 1) (ea.length - (i + 1))
  have a2 := range_le (itT dd w (cellE w va i) (cellE w vb i) e.2 f.2) k (e.2.length - k)
  rw [show i + 1 + (ea.length - (i + 1)) = ea.length from by omega] at a1
  rw [show k + (e.2.length - k) = e.2.length from by omega] at a2
  have a3 := itsE_succ dd w va vb ea eb i
  rw [itE_of h1 h2] at a3
  have a4 := congrArg List.length a3
  rw [List.length_append] at a4
  unfold itsE itsT at *
  omega
def rowsOf (l : List It) : List Value := (l.map It.row).flatten
theorem rowsOf_append (l m : List It) : rowsOf (l ++ m) = rowsOf l ++ rowsOf m := by simp [rowsOf]
theorem own_ne {w : World} {B : Nat} {e : TypeId} {sz : Nat} {v : Value} {n : Nat} {xs : List Value} {k : Nat} {cs : Array Value} {t : TypeId} (h : w.ownsRow B e sz v n xs) (hb : Blk w k cs t) (ht : t ≠ e) : ¬ v.ownBlock = some k := by
  intro hk
  rcases h.2 with ⟨rfl, _⟩ | ⟨g, cap, cur, rfl, _, h3, _⟩
  · cases hk
  · obtain rfl : g = k := by simpa [Value.ownBlock] using hk
    unfold Blk at hb
    rw [h3] at hb
    simp at hb
    exact ht hb.2.symm
/-- What compare answers. -/
def CmpP (dd : Nat) (ea eb : Ens) (va vb : Value) (w : World) (e : Ending) (w' : World) : Prop := Below w.heap.size w w' ∧
  ((OkC ea eb ∧ ∃ v, e = .returned (.tuple #[v, .bool true]) ∧ RowG w' v 2 ((itsE dd w va vb ea eb ea.length).map It.row)) ∨ (¬ OkC ea eb ∧ e = .returned (.tuple #[.slice none 0 0, .bool false])))
set_option maxHeartbeats 8000000 in
theorem compareS_any (d dd : Nat) (ea eb : Ens) (va vb : Value) (w : World) (ha : EnsIn d w va ea) (hb : EnsIn d w vb eb) (hl : ea.length = eb.length) (hw : (itsE dd w va vb ea eb ea.length).length ≤ 1000) :
    Calls Try.prog 43 #[.agg #[va, vb]] w (CmpP dd ea eb va vb w) := by
  obtain ⟨pa, ca, rfl, u1, u2, -⟩ := RowP.open ha
  obtain ⟨pb, cb, rfl, v1, v2, -⟩ := RowP.open hb
  unfold maxLen at u2 v2
  rw [← hl] at hb v1 hw ⊢
  obtain ⟨N, hN⟩ : ∃ N, ea.length = N := ⟨_, rfl⟩
  have HL : Hid (ea.length = N ∧ eb.length = N) := ⟨hN, by rw [← hl]; exact hN⟩
  rw [hN] at u1 v1 ha hb hw ⊢
  have HA : Hid (EnsIn d w (.slice pa N ca) ea) := ha
  have HB : Hid (EnsIn d w (.slice pb N cb) eb) := hb
  have HW : Hid ((itsE dd w (.slice pa N ca) (.slice pb N cb) ea eb N).length ≤ 1000) := hw
  have HQ : Hid (∀ e w', Below w.heap.size w w' → ((OkC ea eb ∧ ∃ v, e = .returned (.tuple #[v, .bool true]) ∧ RowG w' v 2 ((itsE dd w (.slice pa N ca) (.slice pb N cb) ea eb N).map It.row)) ∨ (¬ OkC ea eb ∧ e = .returned (.tuple #[.slice none 0 0, .bool false]))) → CmpP dd ea eb (.slice pa N ca) (.slice pb N cb) w e w') := fun e w' h1 h2 => ⟨h1, by rw [HL.out.1]; exact h2⟩
  clear ha hb hl hN hw
  go_enter Try.func43, Try.ntmps43
  go_wp2_with fail
  have HS0 : Hid (Blk (w.alloc (Obj.cells #[.slice pa N ca, .slice pb N cb] 70)) w.heap.size #[.slice pa N ca, .slice pb N cb] 70) := Blk.new w _ _
  have hb0 : Below w.heap.size w (w.alloc (Obj.cells #[.slice pa N ca, .slice pb N cb] 70)) := (Below.refl _ _).alloc (Nat.le_refl _) _
  go_loopw [4, 13] (fun ov iv wr => ∃ (i k : Nat) (oa : Option Addr) (oc : Nat), iv = .int .i64 (i : Int) ∧ ov = .slice oa k oc ∧ i ≤ N ∧ Hid (∀ (j : Nat) (e f : Int × List Tr), j < i → ea[j]? = some e → eb[j]? = some f → EntA e f) ∧ Hid (wr.ownsRow (w.heap.size + 1) 70 2 (.slice oa k oc) k (rowsOf (itsE dd w (.slice pa N ca) (.slice pb N cb) ea eb i))) ∧ Hid (Blk wr w.heap.size #[.slice pa N ca, .slice pb N cb] 70) ∧ Below w.heap.size w wr) (fun _ iv _ => N - (intOf iv).toNat)
  case atStart => exact ⟨0, 0, none, 0, rfl, rfl, by omega, (fun j e f hj => absurd hj (by omega) : ∀ (j : Nat) (e f : Int × List Tr), j < 0 → ea[j]? = some e → eb[j]? = some f → EntA e f), World.ownsRow_nil _ _ _ _, HS0, hb0⟩
  case round =>
    clear HS0 hb0
    obtain ⟨i, k, oa, oc, rfl, rfl, hi, HJ, HO, HBS, hbel⟩ := hrel
    by_cases hlt : i < N
    · obtain ⟨e, he⟩ : ∃ r, ea[i]? = some r := ⟨_, List.getElem?_eq_getElem (by rw [HL.out.1]; exact hlt)⟩
      obtain ⟨f, hf⟩ : ∃ r, eb[i]? = some r := ⟨_, List.getElem?_eq_getElem (by rw [HL.out.2]; exact hlt)⟩
      obtain ⟨g, off, ta, tc, c', e1, e2, p0, p1, ht⟩ := cellE_of HA.out he
      simp at e1
      obtain ⟨rfl, -, rfl⟩ := e1
      obtain ⟨g2, off2, tb, tc2, c2', f1, f2, o0, o1, hu⟩ := cellE_of HB.out hf
      simp at f1
      obtain ⟨rfl, -, rfl⟩ := f1
      obtain ⟨ta', ca', q1, q2, q3, -⟩ := RowP.open ht
      simp at q1
      obtain ⟨rfl, rfl⟩ := q1
      obtain ⟨tb', cb', r1, r2, r3, -⟩ := RowP.open hu
      simp at r1
      obtain ⟨rfl, rfl⟩ := r1
      unfold maxLen at q3 r3
      replace p0 := (hbel.cell (World.block_lt_of_cell? _ _ p0)).trans p0
      replace p1 := (hbel.cell (World.block_lt_of_cell? _ _ p1)).trans p1
      replace o0 := (hbel.cell (World.block_lt_of_cell? _ _ o0)).trans o0
      replace o1 := (hbel.cell (World.block_lt_of_cell? _ _ o1)).trans o1
      obtain ⟨Ta, hTa⟩ : ∃ N, e.2.length = N := ⟨_, rfl⟩
      obtain ⟨Tb, hTb⟩ : ∃ N, f.2.length = N := ⟨_, rfl⟩
      obtain ⟨xe, hxe⟩ : ∃ x, e.1 = x := ⟨_, rfl⟩
      obtain ⟨xf, hxf⟩ : ∃ x, f.1 = x := ⟨_, rfl⟩
      rw [hTa] at p1 ht q2 e2
      rw [hTb] at o1 hu r2 f2
      rw [hxe] at p0
      rw [hxf] at o0
      have HT : Hid (TrsIn d w (.slice ta Ta tc) e.2) := ht
      have HU : Hid (TrsIn d w (.slice tb Tb tc2) f.2) := hu
      have HE : Hid (ea[i]? = some e) := he
      have HF : Hid (eb[i]? = some f) := hf
      have HCE : Hid (cellE w (.slice (some ⟨g, off, none⟩) N ca) i = .slice ta Ta tc ∧ cellE w (.slice (some ⟨g2, off2, none⟩) N cb) i = .slice tb Tb tc2) := ⟨e2, f2⟩
      have HTa : Hid (e.2.length = Ta ∧ f.2.length = Tb ∧ e.1 = xe ∧ f.1 = xf) := ⟨hTa, hTb, hxe, hxf⟩
      clear e2 f2 ht hu hTa hTb hxe hxf he hf
      have al1 : Below wr.heap.size wr (wr.alloc (Obj.cells #[.int .i64 xe, .slice ta Ta tc] 50)) := (Below.refl _ _).alloc (Nat.le_refl _) _
      have al2 : Below wr.heap.size wr ((wr.alloc (Obj.cells #[.int .i64 xe, .slice ta Ta tc] 50)).alloc (Obj.cells #[.int .i64 xf, .slice tb Tb tc2] 50)) := al1.alloc (by simp) _
      replace o0 := (al1.cell (World.block_lt_of_cell? _ _ o0)).trans o0
      replace o1 := (al1.cell (World.block_lt_of_cell? _ _ o1)).trans o1
      have qs := ((HBS.out.below al1).cell 1).trans rfl
      have hb2 : Below w.heap.size w ((wr.alloc (Obj.cells #[.int .i64 xe, .slice ta Ta tc] 50)).alloc (Obj.cells #[.int .i64 xf, .slice tb Tb tc2] 50)) := hbel.trans (al2.mono hbel.size)
      by_cases hx : xe = xf
      · subst hx
        have HC : Hid (Calls Try.prog 57 #[.slice ta Ta tc, .slice tb Tb tc2, .func (.func 41) #[] #[]] ((wr.alloc (Obj.cells #[.int .i64 xe, .slice ta Ta tc] 50)).alloc (Obj.cells #[.int .i64 xe, .slice tb Tb tc2] 50)) fun e' w' => Says (AllA e.2 f.2) e' ∧ Below ((wr.alloc (Obj.cells #[.int .i64 xe, .slice ta Ta tc] 50)).alloc (Obj.cells #[.int .i64 xe, .slice tb Tb tc2] 50)).heap.size ((wr.alloc (Obj.cells #[.int .i64 xe, .slice ta Ta tc] 50)).alloc (Obj.cells #[.int .i64 xe, .slice tb Tb tc2] 50)) w') := equalT_any d d _ _ _ _ _ (HT.out.belowT hb2) (HU.out.belowT hb2)
        have B6 : Blk ((wr.alloc (Obj.cells #[.int .i64 xe, .slice ta Ta tc] 50)).alloc (Obj.cells #[.int .i64 xe, .slice tb Tb tc2] 50)) wr.heap.size #[.int .i64 xe, .slice ta Ta tc] 50 := (Blk.new wr _ _).below ((Below.refl _ _).alloc (Nat.le_refl _) _)
        have B7 : Blk ((wr.alloc (Obj.cells #[.int .i64 xe, .slice ta Ta tc] 50)).alloc (Obj.cells #[.int .i64 xe, .slice tb Tb tc2] 50)) (wr.heap.size + 1) #[.int .i64 xe, .slice tb Tb tc2] 50 := by
          have := Blk.new (wr.alloc (Obj.cells #[.int .i64 xe, .slice ta Ta tc] 50)) #[.int .i64 xe, .slice tb Tb tc2] 50
          rwa [show (wr.alloc (Obj.cells #[.int .i64 xe, .slice ta Ta tc] 50)).heap.size = wr.heap.size + 1 from by simp] at this
        go_wp2_with fail
        refine HC.out.mono ?_
        rintro e' w1 ⟨⟨R, rfl, hR⟩, h1⟩
        have HR : Hid (R = true ↔ AllA e.2 f.2) := hR
        have hb1 : Below wr.heap.size wr w1 := al2.trans (h1.mono al2.size)
        have hbw : Below w.heap.size w w1 := hbel.trans (hb1.mono hbel.size)
        have HB6 : Hid (Blk w1 wr.heap.size #[.int .i64 xe, .slice ta Ta tc] 50) := B6.below h1
        have HB7 : Hid (Blk w1 (wr.heap.size + 1) #[.int .i64 xe, .slice tb Tb tc2] 50) := B7.below h1
        have HBS1 : Hid (Blk w1 w.heap.size #[.slice (some ⟨g, off, none⟩) N ca, .slice (some ⟨g2, off2, none⟩) N cb] 70) := HBS.out.below hb1
        have HO1 : Hid (w1.ownsRow (w.heap.size + 1) 70 2 (.slice oa k oc) k (rowsOf (itsE dd w (.slice (some ⟨g, off, none⟩) N ca) (.slice (some ⟨g2, off2, none⟩) N cb) ea eb i))) := own_below HO.out hb1
        clear hR HC B6 B7 h1 hb1 hb2 al1 al2 p0 p1 o0 o1 qs HBS HO hbel
        generalize wr.heap.size = b6 at *
        cases R with
        | true =>
          have q6 := (HB6.out.cell 1).trans rfl
          have HALL : Hid (AllA e.2 f.2) := HR.out.1 rfl
          have hTT : Ta = Tb := by rw [← HTa.out.1, ← HTa.out.2.1]; exact HALL.out.1
          subst hTT
          have HJ2 : Hid (∀ (j : Nat) (e f : Int × List Tr), j < i + 1 → ea[j]? = some e → eb[j]? = some f → EntA e f) := (fun j e' f' hj h1 h2 => by
            rcases Nat.lt_or_eq_of_le (Nat.le_of_lt_succ hj) with h | h
            · exact HJ.out j e' f' h h1 h2
            · subst h
              rw [HE.out] at h1
              rw [HF.out] at h2
              cases h1; cases h2
              exact ⟨HTa.out.2.2.1.trans HTa.out.2.2.2.symm, HALL.out⟩ : ∀ (j : Nat) (e f : Int × List Tr), j < i + 1 → ea[j]? = some e → eb[j]? = some f → EntA e f)
          have HO2 : Hid (w1.ownsRow (w.heap.size + 1) 70 2 (.slice oa k oc) k (rowsOf (itsE dd w (.slice (some ⟨g, off, none⟩) N ca) (.slice (some ⟨g2, off2, none⟩) N cb) ea eb i ++ itsT dd w (.slice ta Ta tc) (.slice tb Ta tc2) e.2 f.2 0))) := by
            show World.ownsRow _ _ _ _ _ _ _
            have := HO1.out
            simpa [itsT] using this
          clear HO1 HJ HR
          go_wp2_with fail
          clear q6
          go_loopw [4, 39] (fun ov jv wr => ∃ (j k : Nat) (oa : Option Addr) (oc : Nat), jv = .int .i64 (j : Int) ∧ ov = .slice oa k oc ∧ j ≤ Ta ∧ Hid (wr.ownsRow (w.heap.size + 1) 70 2 (.slice oa k oc) k (rowsOf (itsE dd w (.slice (some ⟨g, off, none⟩) N ca) (.slice (some ⟨g2, off2, none⟩) N cb) ea eb i ++ itsT dd w (.slice ta Ta tc) (.slice tb Ta tc2) e.2 f.2 j))) ∧ Hid (Blk wr w.heap.size #[.slice (some ⟨g, off, none⟩) N ca, .slice (some ⟨g2, off2, none⟩) N cb] 70) ∧ Hid (Blk wr (b6 + 1) #[.int .i64 xe, .slice tb Ta tc2] 50) ∧ Below w.heap.size w wr) (fun _ jv _ => Ta - (intOf jv).toNat)
          case atStart => exact ⟨0, k, oa, oc, rfl, rfl, by omega, HO2, HBS1, HB7, hbw⟩
          case round =>
            clear HO2 HBS1 HB6 HB7 hbw
            obtain ⟨j, k, oa, oc, rfl, rfl, hj, HO, HBS, HB7, hbel⟩ := hrel
            by_cases hlt2 : j < Ta
            · obtain ⟨t, ht⟩ : ∃ r, e.2[j]? = some r := ⟨_, List.getElem?_eq_getElem (by rw [HTa.out.1]; exact hlt2)⟩
              obtain ⟨u, hu⟩ : ∃ r, f.2[j]? = some r := ⟨_, List.getElem?_eq_getElem (by rw [HTa.out.2.1]; exact hlt2)⟩
              obtain ⟨gt, offt, rfl, k1⟩ := RowP.get HT.out ht
              obtain ⟨gu, offu, rfl, k2⟩ := RowP.get HU.out hu
              obtain ⟨a1, n1, b1, a2, n2, b2, p0, p1, p2, p3, p4, p5⟩ := trs_get k1
              obtain ⟨a3, n3, b3, a4, n4, b4, -, -, -, o3, -, -⟩ := trs_get k2
              have hn1 : n1 = t.es.length := by
                obtain ⟨_, _, _, _, hv, _, _, _, _, _, hes⟩ := p5.open
                simp at hv
                obtain ⟨x1, x2, hh, -⟩ := RowP.open hes
                rw [← hv.1] at hh
                simp at hh
                exact hh.2.1
              have HCT : Hid (cellT w (.slice (some ⟨gt, offt, none⟩) Ta tc) j = .slice a1 n1 b1 ∧ cellT w (.slice (some ⟨gu, offu, none⟩) Ta tc2) j = .slice a3 n3 b3) := ⟨by simp [cellT, p3], by simp [cellT, o3]⟩
              have HI : Hid (itT dd w (.slice (some ⟨gt, offt, none⟩) Ta tc) (.slice (some ⟨gu, offu, none⟩) Ta tc2) e.2 f.2 j = if n1 = 0 then [] else [⟨dd, .slice a1 n1 b1, .slice a3 n3 b3, t.es, u.es⟩]) := by
                show _ = _
                rw [itT_of ht hu, HCT.out.1, HCT.out.2, hn1]
              have HPRE : Hid ((itsE dd w (.slice (some ⟨g, off, none⟩) N ca) (.slice (some ⟨g2, off2, none⟩) N cb) ea eb i).length + (itsT dd w (.slice (some ⟨gt, offt, none⟩) Ta tc) (.slice (some ⟨gu, offu, none⟩) Ta tc2) e.2 f.2 (j + 1)).length ≤ 1000) := by
                show _ ≤ _
                have := its_pre (dd := dd) (w := w) (va := .slice (some ⟨g, off, none⟩) N ca) (vb := .slice (some ⟨g2, off2, none⟩) N cb) (k := j + 1) HE.out HF.out (by rw [HTa.out.1]; omega)
                rw [HCE.out.1, HCE.out.2, HL.out.1] at this
                exact Nat.le_trans this HW.out
              replace p0 := (hbel.cell (World.block_lt_of_cell? _ _ p0)).trans p0
              replace p1 := (hbel.cell (World.block_lt_of_cell? _ _ p1)).trans p1
              replace p2 := (hbel.cell (World.block_lt_of_cell? _ _ p2)).trans p2
              replace p3 := (hbel.cell (World.block_lt_of_cell? _ _ p3)).trans p3
              replace p4 := (hbel.cell (World.block_lt_of_cell? _ _ p4)).trans p4
              have HUW : Hid (∀ W, Below w.heap.size w W → W.cell? ⟨gu, offu + j * 5 + 3, none⟩ = some (.slice a3 n3 b3)) := fun W hW => (hW.cell (World.block_lt_of_cell? _ _ o3)).trans o3
              replace o3 := (hbel.cell (World.block_lt_of_cell? _ _ o3)).trans o3
              have HES : Hid (t.es.length = n1) := hn1.symm
              clear k1 k2 p5 hn1 ht hu HCT
              generalize t.kind = tk at *
              generalize t.n = tn at *
              generalize t.s = ts at *
              have al : Below wr.heap.size wr (wr.alloc (Obj.cells #[.int .i64 tk, .int .i64 tn, .string ts, .slice a1 n1 b1, .slice a2 n2 b2] 25)) := (Below.refl _ _).alloc (Nat.le_refl _) _
              have hbA : Below w.heap.size w (wr.alloc (Obj.cells #[.int .i64 tk, .int .i64 tn, .string ts, .slice a1 n1 b1, .slice a2 n2 b2] 25)) := hbel.trans (al.mono hbel.size)
              rcases Nat.eq_zero_or_pos n1 with h0 | h0
              · subst h0
                have HO3 : Hid ((wr.alloc (Obj.cells #[.int .i64 tk, .int .i64 tn, .string ts, .slice a1 0 b1, .slice a2 n2 b2] 25)).ownsRow (w.heap.size + 1) 70 2 (.slice oa k oc) k (rowsOf (itsE dd w (.slice (some ⟨g, off, none⟩) N ca) (.slice (some ⟨g2, off2, none⟩) N cb) ea eb i ++ itsT dd w (.slice (some ⟨gt, offt, none⟩) Ta tc) (.slice (some ⟨gu, offu, none⟩) Ta tc2) e.2 f.2 (j + 1)))) := by
                  show World.ownsRow _ _ _ _ _ _ _
                  rw [itsT_succ, HI.out, if_pos rfl, List.append_nil]
                  exact own_below HO.out al
                have HBSA : Hid (Blk _ _ _ _) := HBS.out.below al
                have HB7A : Hid (Blk _ _ _ _) := HB7.out.below al
                go_wp2_with fail
                clear p0 p1 p2 p3 p4 o3 al
                go_roundw
                case rel => exact ⟨j + 1, k, oa, oc, by go_num, rfl, by omega, HO3, HBSA, HB7A, hbA⟩
                case measure => simp [intOf]; omega
              · have B9 : Blk (wr.alloc (Obj.cells #[.int .i64 tk, .int .i64 tn, .string ts, .slice a1 n1 b1, .slice a2 n2 b2] 25)) wr.heap.size #[.int .i64 tk, .int .i64 tn, .string ts, .slice a1 n1 b1, .slice a2 n2 b2] 25 := Blk.new wr _ _
                go_wp2_with fail
                have B7A := HB7.out.below al
                have BSA := HBS.out.below al
                have HOA := own_below HO.out al
                replace o3 := (al.cell (World.block_lt_of_cell? _ _ o3)).trans o3
                clear p0 p1 p2 p3 p4 al HO HBS HB7 hbel
                generalize wr.alloc (Obj.cells #[.int .i64 tk, .int .i64 tn, .string ts, .slice a1 n1 b1, .slice a2 n2 b2] 25) = w9 at *
                generalize wr.heap.size = b9 at *
                have H9 : Hid (∀ W, Below w9.heap.size w9 W → W.cell? ⟨b9, 3, none⟩ = some (.slice a1 n1 b1)) := fun W hW => ((B9.below hW).cell 3).trans rfl
                have H7 : Hid (∀ W, Below w9.heap.size w9 W → W.cell? ⟨b6 + 1, 1, none⟩ = some (.slice (some ⟨gu, offu, none⟩) Ta tc2)) := fun W hW => ((B7A.below hW).cell 1).trans rfl
                have HU3 : Hid (∀ W, Below w9.heap.size w9 W → W.cell? ⟨gu, offu + j * 5 + 3, none⟩ = some (.slice a3 n3 b3)) := fun W hW => (hW.cell (World.block_lt_of_cell? _ _ o3)).trans o3
                have HB9 : Hid (Blk _ _ _ _) := B9
                have HH7 : Hid (Blk _ _ _ _) := B7A
                have HHS : Hid (Blk _ _ _ _) := BSA
                have HHO : Hid (w9.ownsRow _ _ _ _ _ _) := HOA
                clear B9 B7A BSA HOA o3
                have hS : w9.drew.cell? ⟨b9, 3, none⟩ = some (.slice a1 n1 b1) ∧ w9.drew.cell? ⟨b6 + 1, 1, none⟩ = some (.slice (some ⟨gu, offu, none⟩) Ta tc2) ∧ w9.drew.cell? ⟨gu, offu + j * 5 + 3, none⟩ = some (.slice a3 n3 b3) := ⟨H9.out _ (Below.refl _ _).drew, H7.out _ (Below.refl _ _).drew, HU3.out _ (Below.refl _ _).drew⟩
                refine wp_region_held_drew (S := fun w' => w'.cell? ⟨b9, 3, none⟩ = some (.slice a1 n1 b1) ∧ w'.cell? ⟨b6 + 1, 1, none⟩ = some (.slice (some ⟨gu, offu, none⟩) Ta tc2) ∧ w'.cell? ⟨gu, offu + j * 5 + 3, none⟩ = some (.slice a3 n3 b3)) (by kernel_rfl) hS (fun hS => ?_)
                refine rg_take 0 48 (.slice oa k oc) _ rfl rfl (by kernel_rfl) (by kernel_rfl) (by kernel_rfl) (fun _ _ _ h => h) (by rfl) (fun w' hw' => ?_) hS (listed' := #[true, false, false, false, false, false, false, false, false, false, false, false, false]) (by kernel_rfl) rfl ?_
                · go_simp
                simp only [List.setIfInBounds_toArray, List.set_cons_zero, List.set_cons_succ]
                refine rg_take 1 49 (.pointer (some ⟨b9, 3, none⟩)) _ rfl rfl (by kernel_rfl) (by kernel_rfl) (by kernel_rfl) (fun _ _ _ h => h) (by rfl) (fun w' hw' => ?_) hS (listed' := #[true, true, false, false, false, false, false, false, false, false, false, false, false]) (by kernel_rfl) rfl ?_
                · go_simp
                simp only [List.setIfInBounds_toArray, List.set_cons_zero, List.set_cons_succ]
                refine rg_take 2 50 (.slice a1 n1 b1) _ rfl rfl (by kernel_rfl) (by kernel_rfl) (by kernel_rfl) (fun _ _ _ h => h) (by rfl) (fun w' hw' => ?_) hS (listed' := #[true, true, true, false, false, false, false, false, false, false, false, false, false]) (by kernel_rfl) rfl ?_
                · obtain ⟨hcv, -, -⟩ := hw'; go_simp
                simp only [List.setIfInBounds_toArray, List.set_cons_zero, List.set_cons_succ]
                refine rg_take 3 51 (.pointer (some ⟨b6 + 1, 1, none⟩)) _ rfl rfl (by kernel_rfl) (by kernel_rfl) (by kernel_rfl) (fun _ _ _ h => h) (by rfl) (fun w' hw' => ?_) hS (listed' := #[true, true, true, true, false, false, false, false, false, false, false, false, false]) (by kernel_rfl) rfl ?_
                · go_simp
                simp only [List.setIfInBounds_toArray, List.set_cons_zero, List.set_cons_succ]
                refine rg_take 4 52 (.slice (some ⟨gu, offu, none⟩) Ta tc2) _ rfl rfl (by kernel_rfl) (by kernel_rfl) (by kernel_rfl) (fun _ _ _ h => h) (by rfl) (fun w' hw' => ?_) hS (listed' := #[true, true, true, true, true, false, false, false, false, false, false, false, false]) (by kernel_rfl) rfl ?_
                · obtain ⟨-, hcv, -⟩ := hw'; go_simp
                simp only [List.setIfInBounds_toArray, List.set_cons_zero, List.set_cons_succ]
                refine rg_take 5 53 (.int .i64 (j : Int)) _ rfl rfl (by kernel_rfl) (by kernel_rfl) (by kernel_rfl) (fun _ _ _ h => h) (by rfl) (fun w' hw' => ?_) hS (listed' := #[true, true, true, true, true, true, false, false, false, false, false, false, false]) (by kernel_rfl) rfl ?_
                · go_simp
                simp only [List.setIfInBounds_toArray, List.set_cons_zero, List.set_cons_succ]
                refine rg_take 6 54 (.pointer (some ⟨gu, offu + j * 5, none⟩)) _ rfl rfl (by kernel_rfl) (by kernel_rfl) (by kernel_rfl) (fun _ _ _ h => h) (by rfl) (fun w' hw' => ?_) hS (listed' := #[true, true, true, true, true, true, true, false, false, false, false, false, false]) (by kernel_rfl) rfl ?_
                · go_simp
                simp only [List.setIfInBounds_toArray, List.set_cons_zero, List.set_cons_succ]
                refine rg_take 7 55 (.pointer (some ⟨gu, offu + j * 5 + 3, none⟩)) _ rfl rfl (by kernel_rfl) (by kernel_rfl) (by kernel_rfl) (fun _ _ _ h => h) (by rfl) (fun w' hw' => ?_) hS (listed' := #[true, true, true, true, true, true, true, true, false, false, false, false, false]) (by kernel_rfl) rfl ?_
                · go_simp
                simp only [List.setIfInBounds_toArray, List.set_cons_zero, List.set_cons_succ]
                refine rg_take 8 56 (.slice a3 n3 b3) _ rfl rfl (by kernel_rfl) (by kernel_rfl) (by kernel_rfl) (fun _ _ _ h => h) (by rfl) (fun w' hw' => ?_) hS (listed' := #[true, true, true, true, true, true, true, true, true, false, false, false, false]) (by kernel_rfl) rfl ?_
                · obtain ⟨-, -, hcv⟩ := hw'; go_simp
                simp only [List.setIfInBounds_toArray, List.set_cons_zero, List.set_cons_succ]
                refine rg_take 9 57 (.agg #[.slice a1 n1 b1, .slice a3 n3 b3]) _ rfl rfl (by kernel_rfl) (by kernel_rfl) (by kernel_rfl) (fun _ _ _ h => h) (by rfl) (fun w' hw' => ?_) hS (listed' := #[true, true, true, true, true, true, true, true, true, true, false, false, false]) (by kernel_rfl) rfl ?_
                · go_simp
                simp only [List.setIfInBounds_toArray, List.set_cons_zero, List.set_cons_succ]
                have alB : Below w9.heap.size w9 (w9.drew.alloc (Obj.cells #[.slice a1 n1 b1, .slice a3 n3 b3] 70)) := ((Below.refl _ _).drew).alloc (Nat.le_refl _) _
                have BE : Blk (w9.drew.alloc (Obj.cells #[.slice a1 n1 b1, .slice a3 n3 b3] 70)) w9.drew.heap.size #[.slice a1 n1 b1, .slice a3 n3 b3] 70 := Blk.new _ _ _
                obtain ⟨i0, hi0, hz0, hz1, hz2⟩ := info_parts infoSd
                have hk : k ≤ 999 := by
                  have h1 := HPRE.out
                  have h2 := HHO.out.1
                  rw [itsT_succ, HI.out, if_neg (by omega), List.length_append, List.length_singleton] at h1
                  have h3 : ∀ l : List It, (rowsOf l).length = l.length * 2 := fun l => by unfold rowsOf; rw [flat_len (size := 2) _ (fun r hr => by obtain ⟨x, _, rfl⟩ := List.mem_map.1 hr; rfl), List.length_map]
                  rw [h3, List.length_append] at h2
                  omega
                obtain ⟨v', W7, s1, s2, s3, _, s5⟩ := run_append_own_at (w9.drew.alloc (Obj.cells #[.slice a1 n1 b1, .slice a3 n3 b3] 70)) (w.heap.size + 1) 71 71 70 i0 _ 2 48 Try.underlying71 hi0 hz0 hz1 hz2 rfl (by decide) (.slice oa k oc) k _ (own_below HHO.out alB) ⟨w9.drew.heap.size, 0, none⟩ 1 1 [.slice a1 n1 b1, .slice a3 n3 b3] rfl (fun j u hu => by
                  have := BE.cell j
                  rw [Addr.add_lit, Nat.zero_add, this]
                  simpa using hu) (fun u hu => by
                  simp only [List.mem_cons, List.not_mem_nil, or_false] at hu
                  rcases hu with rfl | rfl <;> rfl) (by unfold maxLen; omega) (by omega) (by
                  have h1 := (Array.getElem?_eq_some_iff.1 HHS.out).1
                  have h2 := alB.size
                  omega)
                have HRUN : Hid _ := s1
                have hbB : Below w.heap.size w (w9.drew.alloc (Obj.cells #[.slice a1 n1 b1, .slice a3 n3 b3] 70)) := hbA.trans (alB.mono hbA.size)
                have hb7 : Below w.heap.size w W7 := hbB.grown s3 hbB.size (fun q hq => by have := (own_lt HHO.out hq).1; omega)
                have kp7 : Kp (fun q => (Value.slice oa k oc).ownBlock = some q) (w9.drew.alloc (Obj.cells #[.slice a1 n1 b1, .slice a3 n3 b3] 70)) W7 := (Kp.refl _ _).grown s3 (fun q hq _ => hq)
                have HH77 : Hid (Blk W7 (b6 + 1) #[.int .i64 xe, .slice (some ⟨gu, offu, none⟩) Ta tc2] 50) := (HH7.out.below alB).kp kp7 (own_ne (own_below HHO.out alB) (HH7.out.below alB) (by decide))
                have HHS7 : Hid (Blk W7 w.heap.size #[.slice (some ⟨g, off, none⟩) N ca, .slice (some ⟨g2, off2, none⟩) N cb] 70) := (HHS.out.below alB).kp kp7 (fun hq => by have := (own_lt HHO.out hq).1; omega)
                have HB97 : Hid (Blk W7 b9 #[.int .i64 tk, .int .i64 tn, .string ts, .slice a1 n1 b1, .slice a2 n2 b2] 25) := (HB9.out.below alB).kp kp7 (own_ne (own_below HHO.out alB) (HB9.out.below alB) (by decide))
                have hS7 : W7.cell? ⟨b9, 3, none⟩ = some (.slice a1 n1 b1) ∧ W7.cell? ⟨b6 + 1, 1, none⟩ = some (.slice (some ⟨gu, offu, none⟩) Ta tc2) ∧ W7.cell? ⟨gu, offu + j * 5 + 3, none⟩ = some (.slice a3 n3 b3) := ⟨(HB97.out.cell 3).trans rfl, (HH77.out.cell 1).trans rfl, HUW.out W7 hb7⟩
                obtain ⟨na, nc, hv'⟩ := own_form s2
                subst hv'
                have HO7 : Hid (W7.ownsRow (w.heap.size + 1) 70 2 (.slice na (k + 1) nc) (k + 1) (rowsOf (itsE dd w (.slice (some ⟨g, off, none⟩) N ca) (.slice (some ⟨g2, off2, none⟩) N cb) ea eb i ++ itsT dd w (.slice (some ⟨gt, offt, none⟩) Ta tc) (.slice (some ⟨gu, offu, none⟩) Ta tc2) e.2 f.2 (j + 1)))) := by
                  show World.ownsRow _ _ _ _ _ _ _
                  rw [itsT_succ, HI.out, if_neg (by omega), ← List.append_assoc, rowsOf_append]
                  exact s2
                have hSB : (w9.drew.alloc (Obj.cells #[.slice a1 n1 b1, .slice a3 n3 b3] 70)).cell? ⟨b9, 3, none⟩ = some (.slice a1 n1 b1) ∧ (w9.drew.alloc (Obj.cells #[.slice a1 n1 b1, .slice a3 n3 b3] 70)).cell? ⟨b6 + 1, 1, none⟩ = some (.slice (some ⟨gu, offu, none⟩) Ta tc2) ∧ (w9.drew.alloc (Obj.cells #[.slice a1 n1 b1, .slice a3 n3 b3] 70)).cell? ⟨gu, offu + j * 5 + 3, none⟩ = some (.slice a3 n3 b3) := ⟨H9.out _ alB, H7.out _ alB, HU3.out _ alB⟩
                clear s1 s2 s3 s5 BE hi0 hz0 hz1 hz2 kp7 hbB hk
                refine rg_run 10 58 (.slice (some ⟨w9.drew.heap.size, 0, none⟩) 1 1) (w9.drew.alloc (Obj.cells #[.slice a1 n1 b1, .slice a3 n3 b3] 70)) rfl rfl (by kernel_rfl) (by rfl) (listed' := #[true, true, true, true, true, true, true, true, true, true, true, false, false]) (by kernel_rfl) (by go_simp) hSB ?_
                simp only [List.setIfInBounds_toArray, List.set_cons_zero, List.set_cons_succ]
                refine rg_run 11 59 (.slice na (k + 1) nc) (W7) rfl rfl (by kernel_rfl) (by rfl) (listed' := #[true, true, true, true, true, true, true, true, true, true, true, true, false]) (by kernel_rfl) (append_run rfl rfl rfl HRUN.out) hS7 ?_
                simp only [List.setIfInBounds_toArray, List.set_cons_zero, List.set_cons_succ]
                have hS := hS7
                refine rg_take 12 4 (.slice na (k + 1) nc) _ rfl rfl (by kernel_rfl) (by kernel_rfl) (by kernel_rfl) (fun _ _ _ h => h) (by rfl) (fun w' hw' => ?_) hS (listed' := #[true, true, true, true, true, true, true, true, true, true, true, true, true]) (by kernel_rfl) rfl ?_
                · go_simp
                simp only [List.setIfInBounds_toArray, List.set_cons_zero, List.set_cons_succ]
                refine wpAnyH_done (by kernel_rfl) ?_ _
                clear HRUN hSB hS7 hS H9 H7 HU3 HUW HB9 HB97 HH7 HHS HHO alB hbA
                go_wp2_with fail
                go_roundw
                case rel => exact ⟨j + 1, k + 1, na, nc, by go_num, rfl, by omega, HO7, HHS7, HH77, hb7⟩
                case measure => simp [intOf]; omega
            · have HO4 : Hid (wr.ownsRow (w.heap.size + 1) 70 2 (.slice oa k oc) k (rowsOf (itsE dd w (.slice (some ⟨g, off, none⟩) N ca) (.slice (some ⟨g2, off2, none⟩) N cb) ea eb (i + 1)))) := by
                show World.ownsRow _ _ _ _ _ _ _
                have h1 := HO.out
                rw [show j = Ta from by omega] at h1
                rw [itsE_succ, itE_of HE.out HF.out, HCE.out.1, HCE.out.2, HTa.out.1]
                exact h1
              clear HO
              go_wp2_with fail
              go_roundw
              case rel => exact ⟨i + 1, k, oa, oc, by go_num, rfl, by omega, HJ2, HO4, HBS, hbel⟩
              case measure => simp [intOf]; omega
        | false =>
          have hne : ¬ OkC ea eb := fun h => by
            have := HR.out.2 (h i e f HE.out HF.out).2
            cases this
          have hpost := HQ.out (.returned (.tuple #[.slice none 0 0, .bool false])) w1 hbw (.inr ⟨hne, rfl⟩)
          clear HO1
          go_wp2_with fail
          go_ret2
          exact hpost
      · have hne : ¬ OkC ea eb := fun h => hx (by
          have := (h i e f HE.out HF.out).1
          rwa [HTa.out.2.2.1, HTa.out.2.2.2] at this)
        have hd : (xe != xf) = true := by simpa using hx
        have hpost := HQ.out (.returned (.tuple #[.slice none 0 0, .bool false])) _ hb2 (.inr ⟨hne, rfl⟩)
        go_wp2_with fail
        go_ret2
        exact hpost
    · have hok : OkC ea eb := fun j e f h1 h2 => HJ.out j e f (by have := (List.getElem?_eq_some_iff.1 h1).1; have := HL.out.1; omega) h1 h2
      have hrow : RowG wr (.slice oa k oc) 2 ((itsE dd w (.slice pa N ca) (.slice pb N cb) ea eb N).map It.row) := by
        have h1 := HO.out
        rw [show i = N from by omega] at h1
        exact (RowG.own (fun r hr => by obtain ⟨x, _, rfl⟩ := List.mem_map.1 hr; rfl) (by decide) h1).1
      have hpost := HQ.out (.returned (.tuple #[.slice oa k oc, .bool true])) wr hbel (.inl ⟨hok, _, rfl, hrow⟩)
      clear hrow
      go_wp2_with fail
      go_ret2
      exact hpost
end Go.Proofs.Ytgedelgdjcnogaa
/- Pairs of places as a map's keys: a key that is new is told apart from those that are there, though it may take draws. -/
namespace Go.Proofs.Ytgedelgdjcnogaa
open Go.ChangeShapes Go.WideShapes Go.ChangeAt Go.RowKit
set_option linter.unusedVariables false
set_option linter.unusedSimpArgs false
set_option maxRecDepth 20000

theorem uPair : Try.prog.underlying 72 = some (.map 77 78) := by kernel_rfl
def prV (x y : Pl) : Value := .agg #[.pointer x.1, .int .i64 (x.2 : Int), .pointer y.1, .int .i64 (y.2 : Int)]
theorem check_pr (w : World) (b : Bool) (x y : Pl) : (Instr.checkKey b 10000 77 (prV x y)).run Try.prog w = .ok () w := by kernel_rfl
section
variable {T MT : TypeId} {w : World} {k : Value}
def Apart (T : TypeId) (w : World) (k : Value) (L : List Value) : Prop := ∀ q ∈ L, ∀ n, ∃ m, (Op.equal T k q).run Try.prog (w.drewN n) = .ok false (w.drewN m)
theorem find_askD : ∀ (l : List MapEntry) (i n : Nat), Apart T w k (l.map MapEntry.key) → ∃ m, (Instr.findAsking T k l i).run Try.prog (w.drewN n) = .ok none (w.drewN m)
  | [], i, n, _ => ⟨n, by simp [Instr.findAsking]⟩
  | e :: l, i, n, ht => by
    obtain ⟨m, hm⟩ := ht e.key (List.mem_cons_self ..) n
    obtain ⟨q, hq⟩ := find_askD l (i + 1) m (fun q hq => ht q (List.mem_cons_of_mem _ hq))
    refine ⟨q, ?_⟩
    unfold Instr.findAsking
    rw [Sem.run_bind, hm]
    simp only [Result.andThen_ok]
    exact hq
theorem find_keyD {fs : TypeDesc} (hu : Try.prog.underlying T = some fs) (hf : ∀ k q, Instr.sameNow fs (.agg k) q = none) {ks : Array Value} (hk : k = .agg ks) (l : List MapEntry) (ht : Apart T w k (l.map MapEntry.key)) : ∃ m, (Instr.findKey T k l).run Try.prog w = .ok none (w.drewN m) := by
  cases l with
  | nil => exact ⟨0, by simp [Instr.findKey, run_underlying hu, Instr.findNow, World.drewN_zero]⟩
  | cons e l =>
    obtain ⟨m, hm⟩ := find_askD (e :: l) 0 0 ht
    rw [World.drewN_zero] at hm
    have h1 : Instr.findNow fs k (e :: l) 0 = none := by rw [hk]; simp [Instr.findNow, hf]
    have h2 : (Instr.findKey T k (e :: l)).run Try.prog w = (Instr.findAsking T k (e :: l) 0).run Try.prog w := by
      simp [Instr.findKey, run_underlying hu, h1]
    exact ⟨m, h2.trans hm⟩
variable {E : TypeId} {L : List Value} {b : Nat}
theorem look_new (hm : Try.prog.underlying MT = some (.map T E)) (hz : ∀ w, (zeroValue E).run Try.prog w = .ok (.agg #[]) w) {fs : TypeDesc} (hu : Try.prog.underlying T = some fs) (hf : ∀ k q, Instr.sameNow fs (.agg k) q = none) {ks : Array Value} (hk : k = .agg ks)
    (hc : ∀ w e, (Instr.checkKey e 10000 T k).run Try.prog w = .ok () w) (hs : PlSet w b L) (ht : Apart T w k L) :
    ∃ m, (Instr.lookup MT (.map (some b)) k true).run Try.prog w = .ok (.tuple #[.agg #[], .bool false]) (w.drewN m) := by
  obtain ⟨es, c, h1, rfl, h3⟩ := hs
  obtain ⟨m, hj⟩ := find_keyD hu hf hk es.toList ht
  have hgo : (getObj b).run Try.prog w = .ok (.map es c) w := by simp [getObj, Sem.run, h1]
  exact ⟨m, by simp [Instr.lookup, run_underlying hm, hgo, hc, hj, hz]⟩
theorem update_new (hm : Try.prog.underlying MT = some (.map T E)) {fs : TypeDesc} (hu : Try.prog.underlying T = some fs) (hf : ∀ k q, Instr.sameNow fs (.agg k) q = none) {ks : Array Value} (hk : k = .agg ks)
    (hc : ∀ w e, (Instr.checkKey e 10000 T k).run Try.prog w = .ok () w) (hs : PlSet w b L) (ht : Apart T w k L) :
    ∃ w', (Instr.mapUpdate MT (.map (some b)) k (.agg #[])).run Try.prog w = .ok () w' ∧ PlSet w' b (L ++ [k]) ∧ Kp (fun q => q = b) w w' ∧ w'.heap.size = w.heap.size := by
  obtain ⟨es, c, h1, rfl, h3⟩ := hs
  obtain ⟨m, hj⟩ := find_keyD hu hf hk es.toList ht
  have hgo : ∀ m, (getObj b).run Try.prog (w.drewN m) = .ok (.map es c) (w.drewN m) := fun m => by simp [getObj, Sem.run, h1]
  have hgo0 : (getObj b).run Try.prog w = .ok (.map es c) w := hgo 0
  have hse : ∀ o, (setObj b o).run Try.prog (w.drewN m) = .ok () { w.drewN m with heap := w.heap.setIfInBounds b o } := fun o => by simp [setObj, Sem.run, h1]
  refine ⟨{ w.drewN m with heap := w.heap.setIfInBounds b (.map (es.push { key := k, val := .agg #[], born := c }) (c + 1)) }, ?_, ?_, ?_, by simp⟩
  · simp [Instr.mapUpdate, run_underlying hm, hgo0, hc, hj, hse]
  · refine ⟨es.push { key := k, val := .agg #[], born := c }, c + 1, ?_, by simp, ?_⟩
    · have := (Array.getElem?_eq_some_iff.1 h1).1
      simp [this]
    · intro e he
      simp only [Array.toList_push, List.mem_append, List.mem_singleton] at he
      rcases he with he | rfl
      · exact h3 e he
      · rfl
  · refine ⟨rfl, rfl, rfl, by simp, fun q hq hs => ?_⟩
    simp only
    rw [Array.getElem?_setIfInBounds_ne (Ne.symm hs)]
theorem wpList_lookup_drew {ops : Array Oper} {rest : List Oper} {o : Oper} {a : Act} {Q : Exit → Act → World → Prop} (hgd : o.guard = none) (m x : Operand) (hop : o.op = Op.lookup MT m x true) {v : Value} {w' : World}
    (hmm : a.eval m = .map (some b)) (hx : a.eval x = k) (hr : (Instr.lookup MT (.map (some b)) k true).run Try.prog w = .ok v w') (h : wpList Try.prog ops Q rest (a.put o.dst v) w') : wpList Try.prog ops Q (o :: rest) a w :=
  wpList_plain hgd fun K hK => by
    unfold Oper.wp
    simp [execOp, hop, hmm, hx, hr, Result.andThen]
    exact hK _ _ h
end
theorem uArr : Try.prog.underlying 77 = some (.array 2 75) := by kernel_rfl
theorem zPlace : ∃ j, Try.prog.info? 75 = some j ∧ j.size = 2 := by
  have hi : (Try.prog.info? 75).map (fun i => i.size) = some 2 := by kernel_rfl
  cases h : Try.prog.info? 75 with
  | none => rw [h] at hi; cases hi
  | some j => rw [h] at hi; exact ⟨j, rfl, by simpa using hi⟩
theorem part_pr (a b c d : Value) (w : World) : (part 75 #[a, b, c, d] 0).run Try.prog w = .ok (.agg #[a, b]) w ∧ (part 75 #[a, b, c, d] 2).run Try.prog w = .ok (.agg #[c, d]) w := ⟨by kernel_rfl, by kernel_rfl⟩
theorem eql_plF (w w1 : World) (d : Nat) (x y : Pl) (h : (Op.equalIn (d + 1) 73 (.pointer x.1) (.pointer y.1)).run Try.prog w = .ok false w1) : (Op.equalIn (d + 2) 75 (plV x) (plV y)).run Try.prog w = .ok false w1 := by
  obtain ⟨p, m⟩ := x
  obtain ⟨q, n⟩ := y
  simp only at h
  simp [plV, go_sem, h]
theorem eql_plT (w w1 : World) (d : Nat) (x y : Pl) (h : (Op.equalIn (d + 1) 73 (.pointer x.1) (.pointer y.1)).run Try.prog w = .ok true w1) : ∃ r, (Op.equalIn (d + 2) 75 (plV x) (plV y)).run Try.prog w = .ok r w1 := by
  obtain ⟨p, m⟩ := x
  obtain ⟨q, n⟩ := y
  simp only at h
  by_cases e : (m : Int) = (n : Int)
  · exact ⟨true, by simp [plV, go_sem, h, e]⟩
  · exact ⟨false, by simp [plV, go_sem, h, e]⟩
theorem eql_arrF (w w1 : World) (x y x' y' : Pl) (h : (Op.equalIn 9999 75 (plV x) (plV x')).run Try.prog w = .ok false w1) : (Op.equal 77 (prV x y) (prV x' y')).run Try.prog w = .ok false w1 := by
  obtain ⟨j, hj, hs⟩ := zPlace
  have hc : Try.prog.cellsOf 75 = 2 := by kernel_rfl
  unfold Op.equal Op.maxDepth prV
  rw [run_equalIn_array w 9999 _ _ uArr hj, hc, show List.range 2 = [0, 1] from rfl, Op.eqItems, Sem.run_bind, Nat.zero_mul, (part_pr _ _ _ _ w).1, Result.andThen_ok, Sem.run_bind, (part_pr _ _ _ _ w).1, Result.andThen_ok, Sem.run_bind]
  unfold plV at h
  rw [h, Result.andThen_ok]
  simp
theorem eql_arrT (w w1 w2 : World) (x y x' y' : Pl) (h : (Op.equalIn 9999 75 (plV x) (plV x')).run Try.prog w = .ok true w1) (k : (Op.equalIn 9999 75 (plV y) (plV y')).run Try.prog w1 = .ok false w2) : (Op.equal 77 (prV x y) (prV x' y')).run Try.prog w = .ok false w2 := by
  obtain ⟨j, hj, hs⟩ := zPlace
  have hc : Try.prog.cellsOf 75 = 2 := by kernel_rfl
  unfold Op.equal Op.maxDepth prV
  rw [run_equalIn_array w 9999 _ _ uArr hj, hc, show List.range 2 = [0, 1] from rfl, Op.eqItems, Sem.run_bind, Nat.zero_mul, (part_pr _ _ _ _ w).1, Result.andThen_ok, Sem.run_bind, (part_pr _ _ _ _ w).1, Result.andThen_ok, Sem.run_bind]
  unfold plV at h k
  rw [h, Result.andThen_ok]
  simp only [Bool.not_true, Bool.false_eq_true, if_false]
  rw [Op.eqItems, Sem.run_bind, Nat.one_mul, (part_pr _ _ _ _ w1).2, Result.andThen_ok, Sem.run_bind, (part_pr _ _ _ _ w1).2, Result.andThen_ok, Sem.run_bind, k, Result.andThen_ok]
  simp
/-- An address that came in: it may be asked for, and may take a draw. -/
def PlU (w : World) (x : Pl) : Prop := ∀ a, x.1 = some a → w.frozen? a = false ∧ ∃ cs ty fz, w.heap[a.block]? = some (.cells cs ty fz)
theorem eql_ptrU (w : World) (n d : Nat) (p q : Option Addr) (hp : ∀ a, p = some a → w.frozen? a = false ∧ ∃ cs ty fz, w.heap[a.block]? = some (.cells cs ty fz)) (hq : ∀ a, q = some a → w.frozen? a = false ∧ ∃ cs ty fz, w.heap[a.block]? = some (.cells cs ty fz)) :
    ∃ r m, (Op.equalIn (d + 1) 73 (.pointer p) (.pointer q)).run Try.prog (w.drewN n) = .ok r (w.drewN m) := by
  have hu : Try.prog.underlying 73 = some (.pointer 50) := by kernel_rfl
  have hi : (Try.prog.info? 50).map (fun i => i.size) = some 2 := by kernel_rfl
  obtain ⟨j, hj, hs⟩ : ∃ j, Try.prog.info? 50 = some j ∧ j.size = 2 := by
    cases h : Try.prog.info? 50 with
    | none => rw [h] at hi; cases hi
    | some j => rw [h] at hi; exact ⟨j, rfl, by simpa using hi⟩
  cases p with
  | none => exact ⟨q.isNone, n, by cases q <;> simp [Op.equalIn, run_underlying hu]⟩
  | some a =>
    cases q with
    | none => exact ⟨false, n, by simp [Op.equalIn, run_underlying hu]⟩
    | some b =>
      obtain ⟨fa, ca, ta, za, ha⟩ := hp a rfl
      obtain ⟨fb, cb, tb, zb, hb⟩ := hq b rfl
      have hx : ∀ r W, (sameAddr a b).run Try.prog (w.drewN n) = .ok r W → (Op.equalIn (d + 1) 73 (.pointer (some a)) (.pointer (some b))).run Try.prog (w.drewN n) = .ok r W := fun r W h => by
        simp [Op.equalIn, run_underlying hu, sizeOf, typeInfo, hj, hs, h]
      by_cases e : a.block = b.block
      · exact ⟨a == b, n, hx _ _ (by simp [sameAddr, e])⟩
      · obtain ⟨c, hc⟩ : ∃ c, (mayBeOne a b).run Try.prog (w.drewN n) = .ok c (w.drewN n) := by
          have sa : (stringish a).run Try.prog (w.drewN n) = .ok (w.frozen? ⟨a.block, ca.size, none⟩) (w.drewN n) := by simp [stringish, World.shape?, ha, fa]
          have sb : (stringish b).run Try.prog (w.drewN n) = .ok (w.frozen? ⟨b.block, cb.size, none⟩) (w.drewN n) := by simp [stringish, World.shape?, hb, fb]
          cases h1 : w.frozen? ⟨a.block, ca.size, none⟩ <;> cases h2 : w.frozen? ⟨b.block, cb.size, none⟩ <;> rw [h1] at sa <;> rw [h2] at sb <;> by_cases z1 : ca.size = 0 <;> by_cases z2 : cb.size = 0 <;>
            first
              | (refine ⟨false, ?_⟩; simp [mayBeOne, sa, sb, World.shape?, ha, hb, z1, z2]; done)
              | (refine ⟨true, ?_⟩; simp [mayBeOne, sa, sb, World.shape?, ha, hb, z1, z2]; done)
        cases c with
        | false => exact ⟨false, n, hx _ _ (by simp [sameAddr, e, fa, fb, noView, viewAt, World.shape?, ha, hb, hc])⟩
        | true =>
          have h9 := run_choose_drew Try.prog (w.drewN n) (.extern "sameAddr.stringBytes" 2)
          exact ⟨_, n + 1, hx _ _ (by simp [sameAddr, e, fa, fb, noView, viewAt, World.shape?, ha, hb, hc, Question.forced]; rfl)⟩
theorem ptr_ne (w : World) (d n : Nat) {g g' : Nat} {cs cs' : Array Value} {ty ty' : TypeId} (h : w.heap[g]? = some (.cells cs ty (0, 0))) (h' : w.heap[g']? = some (.cells cs' ty' (0, 0))) (hn : g ≠ g') :
    (Op.equalIn (d + 1) 73 (.pointer (some ⟨g, 0, none⟩)) (.pointer (some ⟨g', 0, none⟩))).run Try.prog (w.drewN n) = .ok false (w.drewN n) := by
  have := eql_ptr (w.drewN n) d (some ⟨g, 0, none⟩) (some ⟨g', 0, none⟩) (fun a ha => by cases ha; exact ⟨_, _, h⟩) (fun a ha => by cases ha; exact ⟨_, _, h'⟩)
  rw [this, decide_eq_false (by simp only [Option.some.injEq, Addr.mk.injEq, and_true]; exact hn)]
/-- A key whose one place is of one's own. -/
def ownP (b : Bool) (s : Pl × Pl) : Pl := if b then s.2 else s.1
def hdB (p : Pl) : Nat := match p.1 with
  | some a => a.block
  | none => 0
def KeyOk (b : Bool) (w : World) (s : Pl × Pl) : Prop := (∃ g n cs ty, ownP b s = (some ⟨g, 0, none⟩, n) ∧ w.heap[g]? = some (.cells cs ty (0, 0))) ∧ (b = true → PlU w s.1)
def prK (s : Pl × Pl) : Value := prV s.1 s.2
theorem KeyOk.below {b : Bool} {w w1 : World} {s : Pl × Pl} (h : KeyOk b w s) (hb : Below w.heap.size w w1) : KeyOk b w1 s := by
  obtain ⟨⟨g, n, cs, ty, h1, h2⟩, h3⟩ := h
  have blk : ∀ k o, w.heap[k]? = some o → w1.heap[k]? = some o := fun k o h => ((Kp.ofBelow (S := fun _ => False) hb).block k (Array.getElem?_eq_some_iff.1 h).1 (fun e => e)).trans h
  refine ⟨⟨g, n, cs, ty, h1, blk _ _ h2⟩, fun e a ha => ?_⟩
  obtain ⟨k1, cs', ty', fz', k2⟩ := h3 e a ha
  refine ⟨?_, cs', ty', fz', blk _ _ k2⟩
  have := blk _ _ k2
  simp only [World.frozen?, this, k2] at k1 ⊢
  exact k1
theorem apart_key {b : Bool} {w : World} {s : Pl × Pl} {S : List (Pl × Pl)} (h : KeyOk b w s) (hS : ∀ q ∈ S, KeyOk b w q ∧ hdB (ownP b s) ≠ hdB (ownP b q)) : Apart 77 w (prK s) (S.map prK) := by
  intro k hk n
  obtain ⟨q, hq, rfl⟩ := List.mem_map.1 hk
  obtain ⟨⟨⟨g', n', cs', ty', j1, j2⟩, j3⟩, hne⟩ := hS q hq
  obtain ⟨⟨g, n0, cs, ty, h1, h2⟩, h3⟩ := h
  rw [h1, j1] at hne
  replace hne : g ≠ g' := hne
  have hp := fun d n => ptr_ne w d n h2 j2 hne
  cases b with
  | false =>
    simp only [ownP, Bool.false_eq_true, if_false] at h1 j1
    refine ⟨n, eql_arrF _ _ _ _ _ _ (eql_plF _ _ 9997 _ _ ?_)⟩
    rw [h1, j1]
    exact hp _ _
  | true =>
    simp only [ownP, if_true] at h1 j1
    obtain ⟨r, m, hr⟩ := eql_ptrU w n 9997 s.1.1 q.1.1 (h3 rfl) (j3 rfl)
    cases r with
    | false => exact ⟨m, eql_arrF _ _ _ _ _ _ (eql_plF _ _ 9997 _ _ hr)⟩
    | true =>
      obtain ⟨r2, hr2⟩ := eql_plT _ _ 9997 _ _ hr
      cases r2 with
      | false => exact ⟨m, eql_arrF _ _ _ _ _ _ hr2⟩
      | true =>
        refine ⟨m, eql_arrT _ _ _ _ _ _ _ hr2 (eql_plF _ _ 9997 _ _ ?_)⟩
        rw [h1, j1]
        exact hp _ _
end Go.Proofs.Ytgedelgdjcnogaa
/- What value.Same has still to hold against each other, and what it has seen. -/
namespace Go.Proofs.Ytgedelgdjcnogaa
open Go.ChangeShapes Go.WideShapes Go.ChangeAt Go.RowKit
set_option linter.unusedVariables false
set_option linter.unusedSimpArgs false
set_option maxRecDepth 20000

def It.ov (b : Bool) (x : It) : Value := if b then x.vb else x.va
def It.oe (b : Bool) (x : It) : Ens := if b then x.eb else x.ea
def It.key (x : It) : Pl × Pl := (plOf x.va, plOf x.vb)
def lenV (v : Value) : Nat := match v with
  | .slice _ n _ => n
  | _ => 0
/-- A list's first address may be asked for. -/
def HeadF (w : World) (v : Value) : Prop := ∀ g off n c, v = .slice (some ⟨g, off, none⟩) n c → n ≠ 0 → w.frozen? ⟨g, off, none⟩ = false
def EnsF : Nat → World → Value → Prop
  | 0, w, v => HeadF w v
  | d + 1, w, v => HeadF w v ∧ ∀ i k, i < lenV v → k < lenV (cellE w v i) → EnsF d w (cellT w (cellE w v i) k)
theorem EnsF.head : ∀ {d : Nat} {w : World} {v : Value}, EnsF d w v → HeadF w v
  | 0, _, _, h => h
  | _ + 1, _, _, h => h.1
theorem cellT_below {d : Nat} {w W : World} {v : Value} {ts : List Tr} (h : TrsIn d w v ts) (hb : Below w.heap.size w W) {k : Nat} {t : Tr} (hk : ts[k]? = some t) : cellT W v k = cellT w v k := by
  obtain ⟨a, cap, rfl, _⟩ := RowP.open h
  obtain ⟨g, off, rfl, r, hr, hc⟩ := RowP.get h hk
  cases d with
  | zero => exact hr.elim
  | succ d =>
    obtain ⟨ve, vr, rfl, _⟩ := hr
    have c3 := hc 3 _ rfl
    have c4 := (hb.cell (World.block_lt_of_cell? _ _ c3)).trans c3
    simp only [cellT, c3, c4]
theorem cellE_below {d : Nat} {w W : World} {v : Value} {es : Ens} (h : EnsIn d w v es) (hb : Below w.heap.size w W) {i : Nat} {e : Int × List Tr} (hi : es[i]? = some e) : cellE W v i = cellE w v i := by
  obtain ⟨g, off, a, n, c, rfl, h1, h2, h3, h4⟩ := cellE_of h hi
  have h5 := (hb.cell (World.block_lt_of_cell? _ _ h3)).trans h3
  simp only [cellE, h3, h5]
theorem itsE_below {d dd : Nat} {w W : World} {va vb : Value} {ea eb : Ens} (ha : EnsIn d w va ea) (hv : EnsIn d w vb eb) (hb : Below w.heap.size w W) (K : Nat) : itsE dd W va vb ea eb K = itsE dd w va vb ea eb K := by
  unfold itsE
  congr 1
  funext i
  unfold itE
  split
  · rename_i e f h1 h2
    obtain ⟨g, off, a, n, c, rfl, q1, q2, q3, q4⟩ := cellE_of ha h1
    obtain ⟨g', off', a', n', c', rfl, r1, r2, r3, r4⟩ := cellE_of hv h2
    rw [cellE_below ha hb h1, cellE_below hv hb h2, q1, r1]
    unfold itsT
    congr 1
    funext k
    unfold itT
    split
    · rename_i t u g1 g2
      rw [cellT_below q4 hb g1, cellT_below r4 hb g2]
    · rfl
  · rfl
/-- An item's key. -/
theorem key_ok {b : Bool} {B : Nat} {w : World} {x : It} {bs : List Nat} (h : EnsO x.d B w (x.ov b) (x.oe b) bs) (hn : (x.oe b).length ≠ 0) (ho : ItOk w x) (hf : b = true → EnsF x.d w x.va) : KeyOk b w x.key ∧ ∃ l, bs = hdB (ownP b x.key) :: l := by
  obtain ⟨g, cap, cs, ty, l, e1, e2, e3⟩ := h.head hn
  have hk : ownP b x.key = (some ⟨g, 0, none⟩, (x.oe b).length) := by
    cases b with
    | false =>
      simp only [ownP, It.key, Bool.false_eq_true, if_false, It.ov] at e1 ⊢
      rw [e1]
      simp [plOf, hn]
    | true =>
      simp only [ownP, It.key, if_true, It.ov] at e1 ⊢
      rw [e1]
      simp [plOf, hn]
  refine ⟨⟨⟨g, _, cs, ty, hk, e2⟩, fun hb a ha => ?_⟩, l, by rw [hk]; exact e3⟩
  subst hb
  simp only [It.oe, if_true] at hn
  obtain ⟨e, he⟩ : ∃ e, x.ea[0]? = some e := ⟨_, List.getElem?_eq_getElem (by rw [ho.2.2]; omega)⟩
  obtain ⟨g', off', a', n', c', h1, h2, h3, h4, h5⟩ := cellE_of ho.1 he
  have hfz := (hf rfl).head g' off' _ _ h1 (by rw [ho.2.2]; exact hn)
  simp only [It.key, h1, plOf, if_neg (show ¬ x.ea.length = 0 by rw [ho.2.2]; exact hn), Option.some.injEq] at ha
  subst ha
  refine ⟨hfz, ?_⟩
  have hc := h3
  unfold World.cell? at hc
  simp only at hc
  split at hc
  · rename_i cs2 t2 z2 hq
    exact ⟨_, _, _, hq⟩
  all_goals cases hc
/-- What is left, with its blocks; what was seen. -/
structure Good (b : Bool) (B : Nat) (w : World) (P : List (It × List Nat)) (S : List (Pl × Pl)) : Prop where
  each : ∀ p ∈ P, EnsO p.1.d B w (p.1.ov b) (p.1.oe b) p.2 ∧ ItOk w p.1 ∧ (b = true → EnsF p.1.d w p.1.va)
  keys : P = [] ∨ ((∀ s ∈ S, KeyOk b w s) ∧ (S.map (fun s => hdB (ownP b s)) ++ P.flatMap Prod.snd).Nodup ∧ ((∀ p ∈ P, (p.1.oe b).length ≠ 0) ∨ (S = [] ∧ P.length = 1)))
theorem Good.apart {b : Bool} {B : Nat} {w : World} {P : List (It × List Nat)} {S : List (Pl × Pl)} {x : It} {bs : List Nat} (h : Good b B w (P ++ [(x, bs)]) S) {W : World} (hb : Below w.heap.size w W) : Apart 77 W (prK x.key) (S.map prK) := by
  obtain ⟨q1, q2, q3⟩ := h.each (x, bs) (by simp)
  rcases h.keys with hk | ⟨k1, k2, k3⟩
  · exact absurd hk (by simp)
  · rcases k3 with k3 | ⟨rfl, _⟩
    · obtain ⟨g1, l, g2⟩ := key_ok q1 (k3 (x, bs) (by simp)) q2 q3
      simp only at g2
      refine apart_key (g1.below hb) fun q hq => ⟨(k1 q hq).below hb, fun e => ?_⟩
      rw [List.nodup_append] at k2
      refine k2.2.2 (hdB (ownP b q)) (List.mem_map.2 ⟨q, hq, rfl⟩) (hdB (ownP b x.key)) ?_ e.symm
      rw [List.flatMap_append]
      refine List.mem_append.2 (.inr ?_)
      simp [g2]
    · intro q hq
      simp at hq
theorem its_zero {w : World} {va vb : Value} {ea eb : Ens} (h : EnsIn 0 w va ea) (dd K : Nat) : itsE dd w va vb ea eb K = [] := by
  rcases hs : itsE dd w va vb ea eb K with _ | ⟨x, l⟩
  · rfl
  · obtain ⟨i, e, f, k, t, u, hi, h1, h2, h3, h4, h5, -⟩ := mem_itsE (show x ∈ itsE dd w va vb ea eb K by rw [hs]; simp)
    have hz := ens_zero h
    have : t ∈ subs ea := mem_subs.2 ⟨e, List.mem_of_getElem? h1, List.mem_of_getElem? h3⟩
    rw [hz] at this
    cases this
theorem its_f {d : Nat} {w : World} {va vb : Value} {ea eb : Ens} (ha : EnsIn (d + 1) w va ea) (hf : EnsF (d + 1) w va) {K : Nat} {x : It} (hx : x ∈ itsE d w va vb ea eb K) : EnsF x.d w x.va := by
  obtain ⟨i, e, f, k, t, u, hi, h1, h2, h3, h4, h5, rfl⟩ := mem_itsE hx
  obtain ⟨g, off, a, n, c, e1, e2, _, _, q⟩ := cellE_of ha h1
  refine hf.2 i k ?_ ?_
  · rw [e1]; exact (List.getElem?_eq_some_iff.1 h1).1
  · rw [e2]; exact (List.getElem?_eq_some_iff.1 h3).1
theorem nodup_step {A F L F' : List Nat} {g : Nat} (h : (A ++ (F ++ (g :: L))).Nodup) (hs : F'.Sublist L) : ((A ++ [g]) ++ (F ++ F')).Nodup := by
  have h1 : (A ++ (F ++ (g :: F'))).Nodup := h.sublist ((List.Sublist.refl A).append ((List.Sublist.refl F).append (hs.cons_cons g)))
  refine (List.Perm.nodup_iff ?_).1 h1
  rw [List.append_assoc]
  refine List.Perm.append_left A ?_
  exact (List.perm_middle (l₁ := F) (a := g) (l₂ := F'))
/-- One is held against the other: what is deeper comes in its place. -/
theorem Good.step {b : Bool} {B : Nat} {w : World} {P : List (It × List Nat)} {S : List (Pl × Pl)} {x : It} {bs : List Nat} (h : Good b B w (P ++ [(x, bs)]) S) (hok : OkC x.ea x.eb) :
    ∃ P', P'.map Prod.fst = itsE (x.d - 1) w x.va x.vb x.ea x.eb x.ea.length ∧ Good b B w (P ++ P') (S ++ [x.key]) := by
  obtain ⟨q1, q2, q3⟩ := h.each (x, bs) (by simp)
  simp only at q1 q2 q3
  obtain ⟨d, va, vb, ea, eb⟩ := x
  simp only at hok q1 q2 q3 ⊢
  have foot : ∃ P' : List (It × List Nat), P'.map Prod.fst = itsE (d - 1) w va vb ea eb ea.length ∧ (∀ p ∈ P', EnsO p.1.d B w (p.1.ov b) (p.1.oe b) p.2 ∧ ItOk w p.1 ∧ p.1.ea.length ≠ 0 ∧ (b = true → EnsF p.1.d w p.1.va)) ∧ ∃ l, bs = blkOf ((It.mk d va vb ea eb).ov b) ++ l ∧ (P'.flatMap Prod.snd).Sublist l := by
    cases d with
    | zero =>
      obtain ⟨rows, bss, _, rfl⟩ := q1
      exact ⟨[], by simp [its_zero q2.1], by simp, bss.flatten, rfl, by simp⟩
    | succ d =>
      have more : ∀ P' : List (It × List Nat), P'.map Prod.fst = itsE d w va vb ea eb ea.length → ∀ p ∈ P', ItOk w p.1 ∧ p.1.ea.length ≠ 0 ∧ (b = true → EnsF p.1.d w p.1.va) := fun P' hP p hp => by
        have hm : p.1 ∈ itsE d w va vb ea eb ea.length := by rw [← hP]; exact List.mem_map.2 ⟨p, hp, rfl⟩
        obtain ⟨g1, g2⟩ := its_ok q2.1 q2.2.1 hok hm
        exact ⟨g1, g2, fun hb => its_f q2.1 (q3 hb) hm⟩
      cases b with
      | false =>
        obtain ⟨P', g1, g2, l, g3, g4⟩ := footA (vb := vb) (eb := eb) q1 ea.length
        exact ⟨P', g1, fun p hp => ⟨g2 p hp, more P' g1 p hp⟩, l, g3, g4⟩
      | true =>
        obtain ⟨P', g1, g2, l, g3, g4⟩ := footB (va := va) (ea := ea) q1 ea.length
        exact ⟨P', g1, fun p hp => ⟨g2 p hp, more P' g1 p hp⟩, l, g3, g4⟩
  obtain ⟨P', g1, g2, l, g3, g4⟩ := foot
  refine ⟨P', g1, ⟨fun p hp => ?_, ?_⟩⟩
  · rcases List.mem_append.1 hp with hp | hp
    · exact h.each p (List.mem_append.2 (.inl hp))
    · obtain ⟨u1, u2, u3, u4⟩ := g2 p hp
      exact ⟨u1, u2, u4⟩
  · have ne' : ∀ p ∈ P', (p.1.oe b).length ≠ 0 := fun p hp => by
      obtain ⟨u1, u2, u3, u4⟩ := g2 p hp
      cases b with
      | false => exact u3
      | true => simp only [It.oe, if_true]; rw [← u2.2.2]; exact u3
    rcases h.keys with hk | ⟨k1, k2, k3⟩
    · exact absurd hk (by simp)
    · by_cases hn : ((It.mk d va vb ea eb).oe b).length = 0
      · rcases k3 with k3 | ⟨rfl, k4⟩
        · exact absurd hn (k3 (_, bs) (by simp))
        · have hP : P = [] := by
            simp only [List.length_append, List.length_cons, List.length_nil] at k4
            exact List.eq_nil_of_length_eq_zero (by omega)
          have he : ea.length = 0 := by
            cases b with
            | false => exact hn
            | true => simp only [It.oe, if_true] at hn; exact q2.2.2.trans hn
          refine .inl ?_
          rw [he] at g1
          simp only [itsE, List.range_zero, List.flatMap_nil, List.map_eq_nil_iff] at g1
          rw [hP, g1]
          rfl
      · obtain ⟨c1, l', c2⟩ := key_ok q1 hn q2 q3
        have hd : hdB (ownP b (It.mk d va vb ea eb).key) :: l' = blkOf ((It.mk d va vb ea eb).ov b) ++ l := c2.symm.trans g3
        have hl : (P'.flatMap Prod.snd).Sublist l' := by
          obtain ⟨g, cap, cs, ty, l2, e1, e2, e3⟩ := q1.head hn
          have hb2 : blkOf ((It.mk d va vb ea eb).ov b) = [g] := by rw [e1]; simp [blkOf, Value.ownBlock]
          rw [hb2] at hd
          have := (List.cons.inj hd).2
          rw [this]
          exact g4
        refine .inr ⟨fun s hs => ?_, ?_, .inl fun p hp => ?_⟩
        · rcases List.mem_append.1 hs with hs | hs
          · exact k1 s hs
          · obtain rfl : s = _ := by simpa using hs
            exact c1
        · rw [List.map_append, List.flatMap_append]
          rw [List.flatMap_append] at k2
          simp only [List.map_cons, List.map_nil, List.flatMap_cons, List.flatMap_nil, List.append_nil] at k2 ⊢
          rw [c2] at k2
          exact nodup_step k2 hl
        · rcases List.mem_append.1 hp with hp | hp
          · rcases k3 with k3 | ⟨_, k4⟩
            · exact k3 p (List.mem_append.2 (.inl hp))
            · have : P = [] := by
                simp only [List.length_append, List.length_cons, List.length_nil] at k4
                exact List.eq_nil_of_length_eq_zero (by omega)
              rw [this] at hp
              cases hp
          · exact ne' p hp
theorem its_wt {w : World} {x : It} (q2 : ItOk w x) : wts (itsE (x.d - 1) w x.va x.vb x.ea x.eb x.ea.length) + 1 ≤ x.wt := by
  obtain ⟨d, va, vb, ea, eb⟩ := x
  cases d with
  | zero =>
    rw [its_zero q2.1]
    simp [wts, It.wt, wtE]
  | succ d => exact wts_more d w va vb ea eb (Nat.le_refl _)
/-- Good, or there is one alone that is not alike. -/
def GoodD (b : Bool) (B : Nat) (w : World) (P : List (It × List Nat)) (S : List (Pl × Pl)) : Prop := Good b B w P S ∨ ∃ x bs, P = [(x, bs)] ∧ S = [] ∧ ItOk w x ∧ ¬ OkC x.ea x.eb
theorem GoodD.last {b : Bool} {B : Nat} {w : World} {P : List (It × List Nat)} {S : List (Pl × Pl)} {x : It} {bs : List Nat} (h : GoodD b B w (P ++ [(x, bs)]) S) : Good b B w (P ++ [(x, bs)]) S ∨ (S = [] ∧ ItOk w x ∧ ¬ OkC x.ea x.eb) := by
  rcases h with h | ⟨y, cs, h1, h2, h3, h4⟩
  · exact .inl h
  · have h5 := congrArg List.getLast? h1
    simp only [List.getLast?_append, List.getLast?_singleton, Option.some_or, Option.some.injEq, Prod.mk.injEq] at h5
    obtain ⟨rfl, rfl⟩ := h5
    exact .inr ⟨h2, h3, h4⟩
theorem GoodD.it {b : Bool} {B : Nat} {w : World} {P : List (It × List Nat)} {S : List (Pl × Pl)} {x : It} {bs : List Nat} (h : GoodD b B w (P ++ [(x, bs)]) S) : ItOk w x := by
  rcases h.last with h | ⟨_, h, _⟩
  · exact (h.each (x, bs) (by simp)).2.1
  · exact h
theorem GoodD.apart {b : Bool} {B : Nat} {w : World} {P : List (It × List Nat)} {S : List (Pl × Pl)} {x : It} {bs : List Nat} (h : GoodD b B w (P ++ [(x, bs)]) S) {W : World} (hb : Below w.heap.size w W) : Apart 77 W (prK x.key) (S.map prK) := by
  rcases h.last with h | ⟨h, _⟩
  · exact h.apart hb
  · subst h
    intro q hq
    simp at hq
theorem GoodD.good {b : Bool} {B : Nat} {w : World} {P : List (It × List Nat)} {S : List (Pl × Pl)} {x : It} {bs : List Nat} (h : GoodD b B w (P ++ [(x, bs)]) S) (hok : OkC x.ea x.eb) : Good b B w (P ++ [(x, bs)]) S := by
  rcases h.last with h | ⟨_, _, h⟩
  · exact h
  · exact absurd hok h
theorem least_ofV {P : Nat → Prop} (h : ∃ k, P k) : ∃ k, P k ∧ ∀ j, P j → k ≤ j := by
  obtain ⟨k, hk⟩ := h
  induction k using Nat.strongRecOn with
  | _ k ih =>
    by_cases hm : ∃ j, j < k ∧ P j
    · obtain ⟨j, h1, h2⟩ := hm
      exact ih j h1 h2
    · refine ⟨k, hk, fun j hj => ?_⟩
      by_cases hjk : k ≤ j
      · exact hjk
      · exact absurd ⟨j, by omega, hj⟩ hm
theorem own_shortV {w : World} {base e s n cap : Nat} {a : Option Addr} {xs ys : List Value} (h : w.ownsRow base e s (.slice a (n + 1) cap) (n + 1) (xs ++ ys)) (hx : xs.length = n * s) : w.ownsRow base e s (.slice a n cap) n xs := by
  rcases h.2 with ⟨e1, _⟩ | ⟨g, c, cur, e1, h1, h2, h3, h4, h5, h6⟩
  · simp at e1
  · simp only [Value.slice.injEq, true_and] at e1
    obtain ⟨rfl, rfl⟩ := e1
    refine ⟨hx, .inr ⟨g, cap, cur, rfl, h1, h2, by omega, h4, h5, ?_⟩⟩
    have h7 := congrArg (List.take (n * s)) h6
    rw [List.take_take, Nat.min_eq_left (Nat.mul_le_mul_right _ (by omega)), List.take_left' hx] at h7
    exact h7
/-- The loop's state: k is what is left. -/
def SameS (b : Bool) (B : Nat) (w : World) (mb : Nat) (ea eb : Ens) (lv : Value) (W : World) (k : Nat) : Prop :=
  ∃ (P : List (It × List Nat)) (S : List (Pl × Pl)), GoodD b B w P S ∧ (ea = eb ↔ ∀ p ∈ P, p.1.ea = p.1.eb) ∧ PlSet W mb (S.map prK) ∧
    W.ownsRow w.heap.size 70 2 lv P.length (rowsOf (P.map Prod.fst)) ∧ Below w.heap.size w W ∧ wts (P.map Prod.fst) = k ∧ k ≤ 500
theorem rowsOf_len (l : List It) : (rowsOf l).length = l.length * 2 := by
  unfold rowsOf
  rw [flat_len (size := 2) _ (fun r hr => by obtain ⟨x, _, rfl⟩ := List.mem_map.1 hr; rfl), List.length_map]
theorem own_neMap {w : World} {B e s n : Nat} {v : Value} {xs : List Value} (h : w.ownsRow B e s v n xs) {b : Nat} {L : List Value} (hp : PlSet w b L) : ¬ v.ownBlock = some b := by
  intro hk
  rcases h.2 with ⟨rfl, _⟩ | ⟨g, cap, cur, rfl, _, h3, _⟩
  · cases hk
  · obtain rfl : g = b := by simpa [Value.ownBlock] using hk
    exact hp.neB h3 rfl
/-- The row that stands behind what compare answered. -/
theorem SameS.next {b : Bool} {B : Nat} {w W : World} {mb : Nat} {ea eb : Ens} {P : List (It × List Nat)} {S : List (Pl × Pl)} {x : It} {bs : List Nat} {k0 : Nat} {lv : Value} (hG0 : GoodD b B w (P ++ [(x, bs)]) S) (hif : ea = eb ↔ ∀ p ∈ P ++ [(x, bs)], p.1.ea = p.1.eb) (hw : wts ((P ++ [(x, bs)]).map Prod.fst) = k0 ∧ k0 ≤ 500) (hok : OkC x.ea x.eb)
    (hset : PlSet W mb ((S ++ [x.key]).map prK)) (hown : W.ownsRow w.heap.size 70 2 lv (P.length + (itsE (x.d - 1) w x.va x.vb x.ea x.eb x.ea.length).length) (rowsOf (P.map Prod.fst) ++ rowsOf (itsE (x.d - 1) w x.va x.vb x.ea x.eb x.ea.length))) (hb : Below w.heap.size w W) :
    ∃ j, SameS b B w mb ea eb lv W j ∧ j < k0 := by
  have hG := hG0.good hok
  obtain ⟨P', g1, g2⟩ := hG.step hok
  have hwt := its_wt hG0.it
  obtain ⟨q1, q2, q3⟩ := hG.each (x, bs) (by simp)
  rw [List.map_append, wts_append] at hw
  simp only [List.map_cons, List.map_nil] at hw
  have hx1 : wts [x] = x.wt := by simp [wts]
  rw [hx1] at hw
  have hlt : wts ((P ++ P').map Prod.fst) < k0 := by
    rw [List.map_append, wts_append, g1]
    omega
  refine ⟨wts ((P ++ P').map Prod.fst), ⟨P ++ P', S ++ [x.key], .inl g2, ?_, hset, ?_, hb, rfl, by omega⟩, hlt⟩
  · rw [hif]
    have he := es_iff (d := x.d - 1) (w := w) (va := x.va) (vb := x.vb) q2.2.2
    constructor
    · intro h p hp
      rcases List.mem_append.1 hp with hp | hp
      · exact h p (List.mem_append.2 (.inl hp))
      · exact (he.1 (h (x, bs) (by simp))).2 p.1 (by rw [← g1]; exact List.mem_map.2 ⟨p, hp, rfl⟩)
    · intro h p hp
      rcases List.mem_append.1 hp with hp | hp
      · exact h p (List.mem_append.2 (.inl hp))
      · obtain rfl := List.mem_singleton.1 hp
        refine he.2 ⟨hok, fun y hy => ?_⟩
        rw [← g1] at hy
        obtain ⟨p, hp, rfl⟩ := List.mem_map.1 hy
        exact h p (List.mem_append.2 (.inr hp))
  · rw [← g1, ← rowsOf_append, ← List.map_append, List.length_map, ← List.length_append] at hown
    exact hown
end Go.Proofs.Ytgedelgdjcnogaa
