/- Part 14 of what the proof stands on. -/
import Derived.Test.YtcjfeandnmochaaGreatDoorPkAM
namespace Go.Proofs.YtcjfeandnmochaaGreatDoor
open Go.ChangeShapes Go.WideShapes Go.ChangeAt Go.RowKit
set_option linter.unusedVariables false
set_option linter.unusedSimpArgs false
set_option maxRecDepth 20000
structure MsP (w : World) (B : Nat) (v : Value) (ms : List MsS) (rows0 : List (List Value)) (k : Nat) (rows : List (List Value)) (ps : List (Value × Value)) : Prop where
 len : ps.length = k
 le : k ≤ ms.length
 rl : rows.length = ms.length
 wide : ∀ r ∈ rows, r.length = 3
 own : w.ownsRow B 40 3 v ms.length rows.flatten
 done : ∀ (i : Nat) (m : MsS) (p : Value × Value), ms[i]? = some m → ps[i]? = some p → rows[i]? = some [.string m.name, p.1, p.2]
 rest : ∀ i, k ≤ i → rows[i]? = rows0[i]?
 each : ∀ (i : Nat) (m : MsS) (p : Value × Value), ms[i]? = some m → ps[i]? = some p → w.ownsRow B 90 5 p.1 m.fields.length (flRows m.fields).flatten ∧ w.ownsRow B 3 1 p.2 m.reserved.length (inRows m.reserved).flatten
 apart : ∀ (i j : Nat) (p q : Value × Value) (k : Nat), ps[i]? = some p → ps[j]? = some q → p.1.ownBlock = some k → q.1.ownBlock = some k → i = j
theorem MsP.start {w : World} {B : Nat} {v : Value} {ms : List MsS} {rows : List (List Value)} (h : w.ownsRow B 40 3 v ms.length rows.flatten) (hl : rows.length = ms.length) (hw : ∀ r ∈ rows, r.length = 3) : MsP w B v ms rows 0 rows [] :=
 ⟨rfl, Nat.zero_le _, hl, hw, h, fun i m p _ hp => by simp at hp, fun _ _ => rfl, fun i m p _ hp => by simp at hp, fun i j p q k hp => by simp at hp⟩
theorem MsP.below {w w1 : World} {B : Nat} {v : Value} {ms : List MsS} {rows0 : List (List Value)} {k : Nat} {rows : List (List Value)} {ps : List (Value × Value)} (h : MsP w B v ms rows0 k rows ps) (hb : Below w.heap.size w w1) : MsP w1 B v ms rows0 k rows ps :=
 ⟨h.len, h.le, h.rl, h.wide, own_below h.own hb, h.done, h.rest, fun i m p hm hp => ⟨own_below (h.each i m p hm hp).1 hb, own_below (h.each i m p hm hp).2 hb⟩, h.apart⟩
theorem MsP.kp {S : Nat → Prop} {w w1 : World} {B : Nat} {v : Value} {ms : List MsS} {rows0 : List (List Value)} {k : Nat} {rows : List (List Value)} {ps : List (Value × Value)} (h : MsP w B v ms rows0 k rows ps) (hk : Kp S w w1) (hs : ∀ b, B ≤ b → ¬ S b) : MsP w1 B v ms rows0 k rows ps :=
 ⟨h.len, h.le, h.rl, h.wide, own_kp h.own hk hs, h.done, h.rest, fun i m p hm hp => ⟨own_kp (h.each i m p hm hp).1 hk hs, own_kp (h.each i m p hm hp).2 hk hs⟩, h.apart⟩
theorem MsP.high {w : World} {B : Nat} {v : Value} {ms : List MsS} {rows0 : List (List Value)} {k : Nat} {rows : List (List Value)} {ps : List (Value × Value)} (h : MsP w B v ms rows0 k rows ps) : ∀ (i : Nat) (p : Value × Value) (b : Nat), ps[i]? = some p → p.1.ownBlock = some b → b < w.heap.size := by
 intro i p b hp hb
 have hi : i < k := by rw [← h.len]; exact (List.getElem?_eq_some_iff.1 hp).1
 exact ((h.each i _ p (List.getElem?_eq_getElem (by have := h.le; omega)) hp).1.lt b hb).2
theorem MsP.step {W : World} {B q M c : Nat} {ms : List MsS} {rows0 : List (List Value)} {k : Nat} {rows : List (List Value)} {ps : List (Value × Value)} {m : MsS} {uf ur : Value} {H : Nat} (h : MsP W B (.slice (some ⟨q, 0, none⟩) M c) ms rows0 k rows ps) (hM : ms.length = M) (hm : ms[k]? = some m)
  (hH : ∀ (i : Nat) (p : Value × Value) (b : Nat), ps[i]? = some p → p.1.ownBlock = some b → b < H) (hB : B ≤ H) (h1 : W.ownsRow H 90 5 uf m.fields.length (flRows m.fields).flatten) (h2 : W.ownsRow H 3 1 ur m.reserved.length (inRows m.reserved).flatten) :
  MsP (((W.setCell ⟨q, k * 3, none⟩ (.string m.name)).setCell ⟨q, k * 3 + 1, none⟩ uf).setCell ⟨q, k * 3 + 2, none⟩ ur) B (.slice (some ⟨q, 0, none⟩) M c) ms rows0 (k + 1) (rows.set k [.string m.name, uf, ur]) (ps ++ [(uf, ur)])
  ∧ Kp (fun b => b = q) W (((W.setCell ⟨q, k * 3, none⟩ (.string m.name)).setCell ⟨q, k * 3 + 1, none⟩ uf).setCell ⟨q, k * 3 + 2, none⟩ ur) := by
 have hk : k < ms.length := (List.getElem?_eq_some_iff.1 hm).1
 have KS : Kp (fun b => b = q) W (((W.setCell ⟨q, k * 3, none⟩ (.string m.name)).setCell ⟨q, k * 3 + 1, none⟩ uf).setCell ⟨q, k * 3 + 2, none⟩ ur) := by
  refine Kp.setCell ?_ (fun _ => by simp) _
  refine Kp.setCell ?_ (fun _ => by simp) _
  refine Kp.setCell ?_ (fun _ => by simp) _
  exact Kp.refl _ _
 have ho := h.own
 have kf : ∀ {B' : Nat} {u : Value} {n : Nat} {xs : List Value}, W.ownsRow B' 90 5 u n xs → (((W.setCell ⟨q, k * 3, none⟩ (.string m.name)).setCell ⟨q, k * 3 + 1, none⟩ uf).setCell ⟨q, k * 3 + 2, none⟩ ur).ownsRow B' 90 5 u n xs := fun hu => own_kpV hu KS (fun b hb e => by subst e; exact own_apart ho hu (by decide) b rfl hb)
 have kr : ∀ {B' : Nat} {u : Value} {n : Nat} {xs : List Value}, W.ownsRow B' 3 1 u n xs → (((W.setCell ⟨q, k * 3, none⟩ (.string m.name)).setCell ⟨q, k * 3 + 1, none⟩ uf).setCell ⟨q, k * 3 + 2, none⟩ ur).ownsRow B' 3 1 u n xs := fun hu => own_kpV hu KS (fun b hb e => by subst e; exact own_apart ho hu (by decide) b rfl hb)
 refine ⟨⟨by simp [h.len], by omega, by simp [h.rl], ?_, ?_, ?_, ?_, ?_, ?_⟩, KS⟩
 ·intro r hr
  rcases List.mem_or_eq_of_mem_set hr with hr | rfl
  ·exact h.wide r hr
  ·rfl
 ·rw [hM] at ho ⊢
  have a1 := own_set (own_set (own_set ho (j := k * 3) (.string m.name)) (j := k * 3 + 1) uf) (j := k * 3 + 2) ur
  rw [set3 h.wide (by rw [h.rl]; exact hk)] at a1
  exact a1
 ·intro i m' p hm' hp
  rcases get_snoc hp with ⟨hi, hp⟩ | ⟨hi, rfl⟩
  ·rw [h.len] at hi
   rw [List.getElem?_set_ne (by omega)]
   exact h.done i m' p hm' hp
  ·rw [h.len] at hi
   subst hi
   rw [hm] at hm'
   cases hm'
   rw [List.getElem?_set_self (by rw [h.rl]; exact hk)]
 ·intro i hi
  rw [List.getElem?_set_ne (by omega)]
  exact h.rest i (by omega)
 ·intro i m' p hm' hp
  rcases get_snoc hp with ⟨hi, hp⟩ | ⟨hi, rfl⟩
  ·exact ⟨kf (h.each i m' p hm' hp).1, kr (h.each i m' p hm' hp).2⟩
  ·rw [h.len] at hi
   subst hi
   rw [hm] at hm'
   cases hm'
   exact ⟨own_base (kf h1) hB, own_base (kr h2) hB⟩
 ·intro i j p q' b hp hq hpb hqb
  rcases get_snoc hp with ⟨hi, hp⟩ | ⟨hi, rfl⟩
  ·rcases get_snoc hq with ⟨hj, hq⟩ | ⟨hj, rfl⟩
   ·exact h.apart i j p q' b hp hq hpb hqb
   ·have a1 := hH i p b hp hpb
    have a2 := (h1.lt b hqb).1
    omega
  ·rcases get_snoc hq with ⟨hj, hq⟩ | ⟨hj, rfl⟩
   ·have a1 := hH j q' b hq hqb
    have a2 := (h1.lt b hpb).1
    omega
   ·omega
theorem MsP.all {w : World} {B : Nat} {v : Value} {ms : List MsS} {rows0 : List (List Value)} {rows : List (List Value)} {ps : List (Value × Value)} (h : MsP w B v ms rows0 ms.length rows ps) : MsO w B v ms ps := by
 have e : rows = msRows ms ps := by
  apply List.ext_getElem?
  intro i
  rcases Nat.lt_or_ge i ms.length with hi | hi
  ·obtain ⟨m, hm⟩ : ∃ m, ms[i]? = some m := ⟨_, List.getElem?_eq_getElem hi⟩
   obtain ⟨p, hp⟩ : ∃ p, ps[i]? = some p := ⟨_, List.getElem?_eq_getElem (by rw [h.len]; exact hi)⟩
   rw [h.done i m p hm hp, ms_get hm hp]
  ·rw [List.getElem?_eq_none (by rw [h.rl]; exact hi), List.getElem?_eq_none]
   unfold msRows
   rw [List.length_zipWith, h.len]
   omega
 exact ⟨h.len, by rw [← e]; exact h.own, h.each, h.apart⟩
structure EnP (w : World) (B : Nat) (v : Value) (ms : List EnS) (rows0 : List (List Value)) (k : Nat) (rows : List (List Value)) (ps : List Value) : Prop where
 len : ps.length = k
 le : k ≤ ms.length
 rl : rows.length = ms.length
 wide : ∀ r ∈ rows, r.length = 2
 own : w.ownsRow B 44 2 v ms.length rows.flatten
 done : ∀ (i : Nat) (m : EnS) (p : Value), ms[i]? = some m → ps[i]? = some p → rows[i]? = some [.string m.name, p]
 rest : ∀ i, k ≤ i → rows[i]? = rows0[i]?
 each : ∀ (i : Nat) (m : EnS) (p : Value), ms[i]? = some m → ps[i]? = some p → w.ownsRow B 96 2 p m.values.length (nmRows m.values).flatten
theorem EnP.start {w : World} {B : Nat} {v : Value} {ms : List EnS} {rows : List (List Value)} (h : w.ownsRow B 44 2 v ms.length rows.flatten) (hl : rows.length = ms.length) (hw : ∀ r ∈ rows, r.length = 2) : EnP w B v ms rows 0 rows [] :=
 ⟨rfl, Nat.zero_le _, hl, hw, h, fun i m p _ hp => by simp at hp, fun _ _ => rfl, fun i m p _ hp => by simp at hp⟩
theorem EnP.below {w w1 : World} {B : Nat} {v : Value} {ms : List EnS} {rows0 : List (List Value)} {k : Nat} {rows : List (List Value)} {ps : List Value} (h : EnP w B v ms rows0 k rows ps) (hb : Below w.heap.size w w1) : EnP w1 B v ms rows0 k rows ps :=
 ⟨h.len, h.le, h.rl, h.wide, own_below h.own hb, h.done, h.rest, fun i m p hm hp => own_below (h.each i m p hm hp) hb⟩
theorem EnP.kp {S : Nat → Prop} {w w1 : World} {B : Nat} {v : Value} {ms : List EnS} {rows0 : List (List Value)} {k : Nat} {rows : List (List Value)} {ps : List Value} (h : EnP w B v ms rows0 k rows ps) (hk : Kp S w w1) (hs : ∀ b, B ≤ b → ¬ S b) : EnP w1 B v ms rows0 k rows ps :=
 ⟨h.len, h.le, h.rl, h.wide, own_kp h.own hk hs, h.done, h.rest, fun i m p hm hp => own_kp (h.each i m p hm hp) hk hs⟩
theorem EnP.step {W : World} {B q M c : Nat} {ms : List EnS} {rows0 : List (List Value)} {k : Nat} {rows : List (List Value)} {ps : List Value} {m : EnS} {uf : Value} {H : Nat} (h : EnP W B (.slice (some ⟨q, 0, none⟩) M c) ms rows0 k rows ps) (hM : ms.length = M) (hm : ms[k]? = some m)
  (hB : B ≤ H) (h1 : W.ownsRow H 96 2 uf m.values.length (nmRows m.values).flatten) :
  EnP ((W.setCell ⟨q, k * 2, none⟩ (.string m.name)).setCell ⟨q, k * 2 + 1, none⟩ uf) B (.slice (some ⟨q, 0, none⟩) M c) ms rows0 (k + 1) (rows.set k [.string m.name, uf]) (ps ++ [uf])
  ∧ Kp (fun b => b = q) W ((W.setCell ⟨q, k * 2, none⟩ (.string m.name)).setCell ⟨q, k * 2 + 1, none⟩ uf) := by
 have hk : k < ms.length := (List.getElem?_eq_some_iff.1 hm).1
 have KS : Kp (fun b => b = q) W ((W.setCell ⟨q, k * 2, none⟩ (.string m.name)).setCell ⟨q, k * 2 + 1, none⟩ uf) := by
  refine Kp.setCell ?_ (fun _ => by simp) _
  refine Kp.setCell ?_ (fun _ => by simp) _
  exact Kp.refl _ _
 have ho := h.own
 have kf : ∀ {B' : Nat} {u : Value} {n : Nat} {xs : List Value}, W.ownsRow B' 96 2 u n xs → ((W.setCell ⟨q, k * 2, none⟩ (.string m.name)).setCell ⟨q, k * 2 + 1, none⟩ uf).ownsRow B' 96 2 u n xs := fun hu => own_kpV hu KS (fun b hb e => by subst e; exact own_apart ho hu (by decide) b rfl hb)
 refine ⟨⟨by simp [h.len], by omega, by simp [h.rl], ?_, ?_, ?_, ?_, ?_⟩, KS⟩
 ·intro r hr
  rcases List.mem_or_eq_of_mem_set hr with hr | rfl
  ·exact h.wide r hr
  ·rfl
 ·rw [hM] at ho ⊢
  have a1 := own_set (own_set ho (j := k * 2) (.string m.name)) (j := k * 2 + 1) uf
  rw [set2 h.wide (by rw [h.rl]; exact hk)] at a1
  exact a1
 ·intro i m' p hm' hp
  rcases get_snoc hp with ⟨hi, hp⟩ | ⟨hi, rfl⟩
  ·rw [h.len] at hi
   rw [List.getElem?_set_ne (by omega)]
   exact h.done i m' p hm' hp
  ·rw [h.len] at hi
   subst hi
   rw [hm] at hm'
   cases hm'
   rw [List.getElem?_set_self (by rw [h.rl]; exact hk)]
 ·intro i hi
  rw [List.getElem?_set_ne (by omega)]
  exact h.rest i (by omega)
 ·intro i m' p hm' hp
  rcases get_snoc hp with ⟨hi, hp⟩ | ⟨hi, rfl⟩
  ·exact kf (h.each i m' p hm' hp)
  ·rw [h.len] at hi
   subst hi
   rw [hm] at hm'
   cases hm'
   exact own_base (kf h1) hB
theorem EnP.all {w : World} {B : Nat} {v : Value} {ms : List EnS} {rows0 : List (List Value)} {rows : List (List Value)} {ps : List Value} (h : EnP w B v ms rows0 ms.length rows ps) : EnO w B v ms ps := by
 have e : rows = enRows ms ps := by
  apply List.ext_getElem?
  intro i
  rcases Nat.lt_or_ge i ms.length with hi | hi
  ·obtain ⟨m, hm⟩ : ∃ m, ms[i]? = some m := ⟨_, List.getElem?_eq_getElem hi⟩
   obtain ⟨p, hp⟩ : ∃ p, ps[i]? = some p := ⟨_, List.getElem?_eq_getElem (by rw [h.len]; exact hi)⟩
   rw [h.done i m p hm hp, en_get hm hp]
  ·rw [List.getElem?_eq_none (by rw [h.rl]; exact hi), List.getElem?_eq_none]
   unfold enRows
   rw [List.length_zipWith, h.len]
   omega
 exact ⟨h.len, by rw [← e]; exact h.own, h.each⟩
theorem MsIn.rows {w : World} {v : Value} {ms : List MsS} (h : MsIn w v ms) : ∃ rows, RowG w v 3 rows ∧ rows.length = ms.length ∧ (∀ r ∈ rows, r.length = 3) ∧ (∀ u ∈ rows.flatten, u.oneCell' = true) ∧ ∀ (i : Nat) (m : MsS), ms[i]? = some m → ∃ vf vr, rows[i]? = some [.string m.name, vf, vr] ∧ RowG w vf 5 (flRows m.fields) ∧ RowG w vr 1 (inRows m.reserved) := by
 obtain ⟨rows, h1, h2, h3⟩ := h
 have hr : ∀ r ∈ rows, ∃ nm vf vr, r = [.string nm, vf, vr] ∧ vf.oneCell' = true ∧ vr.oneCell' = true := by
  intro r hr
  obtain ⟨i, hi⟩ := List.mem_iff_getElem?.1 hr
  have hlt : i < ms.length := by rw [← h2]; exact (List.getElem?_eq_some_iff.1 hi).1
  obtain ⟨vf, vr, g1, g2, g3⟩ := h3 i _ (List.getElem?_eq_getElem hlt)
  rw [hi] at g1
  cases g1
  obtain ⟨a, c, rfl, _⟩ := g2.form2
  obtain ⟨a', c', rfl, _⟩ := g3.form2
  exact ⟨_, _, _, rfl, rfl, rfl⟩
 refine ⟨rows, h1, h2, fun r h => ?_, fun u hu => ?_, h3⟩
 ·obtain ⟨_, _, _, rfl, _⟩ := hr r h; rfl
 ·obtain ⟨r, h, hu⟩ := List.mem_flatten.1 hu
  obtain ⟨_, _, _, rfl, a1, a2⟩ := hr r h
  simp only [List.mem_cons, List.not_mem_nil, or_false] at hu
  rcases hu with rfl | rfl | rfl
  ·rfl
  ·exact a1
  ·exact a2
theorem EnIn.rows {w : World} {v : Value} {ms : List EnS} (h : EnIn w v ms) : ∃ rows, RowG w v 2 rows ∧ rows.length = ms.length ∧ (∀ r ∈ rows, r.length = 2) ∧ (∀ u ∈ rows.flatten, u.oneCell' = true) ∧ ∀ (i : Nat) (m : EnS), ms[i]? = some m → ∃ vf, rows[i]? = some [.string m.name, vf] ∧ RowG w vf 2 (nmRows m.values) := by
 obtain ⟨rows, h1, h2, h3⟩ := h
 have hr : ∀ r ∈ rows, ∃ nm vf, r = [.string nm, vf] ∧ vf.oneCell' = true := by
  intro r hr
  obtain ⟨i, hi⟩ := List.mem_iff_getElem?.1 hr
  have hlt : i < ms.length := by rw [← h2]; exact (List.getElem?_eq_some_iff.1 hi).1
  obtain ⟨vf, g1, g2⟩ := h3 i _ (List.getElem?_eq_getElem hlt)
  rw [hi] at g1
  cases g1
  obtain ⟨a, c, rfl, _⟩ := g2.form2
  exact ⟨_, _, rfl, rfl⟩
 refine ⟨rows, h1, h2, fun r h => ?_, fun u hu => ?_, h3⟩
 ·obtain ⟨_, _, rfl, _⟩ := hr r h; rfl
 ·obtain ⟨r, h, hu⟩ := List.mem_flatten.1 hu
  obtain ⟨_, _, rfl, a1⟩ := hr r h
  simp only [List.mem_cons, List.not_mem_nil, or_false] at hu
  rcases hu with rfl | rfl
  ·rfl
  ·exact a1
set_option maxHeartbeats 8000000 in
theorem canon_any {w : World} {v : Value} {s : ScS} (hr : ScIn w v s) (hf : FewL s) (hv : ∀ e ∈ s.enums, e.values.length ≤ capN) :
  Calls Tryz.prog 12 #[v] w fun e w' => ∃ vm ve vt pm pe, e = .returned (.agg #[.string s.name, vm, ve, vt]) ∧ MsO w' w.heap.size vm (canonS s).msgs pm ∧ EnO w' w.heap.size ve (canonS s).enums pe ∧ w'.ownsRow w.heap.size 46 3 vt s.methods.length (mtRows s.methods).flatten ∧ Below w.heap.size w w' := by
 obtain ⟨vm0, ve0, vt0, rfl, hm, he, ht⟩ := hr
 obtain ⟨am, cm, rfl, qm1, qm2⟩ := hm.form2
 obtain ⟨ae, ce, rfl, qe1, qe2⟩ := he.form2
 obtain ⟨at', ct, rfl, qt1, qt2⟩ := ht.form2
 have hT : (mtRows s.methods).length = s.methods.length := by simp [mtRows]
 rw [hT] at ht qt1 ⊢
 clear hT
 obtain ⟨nm, ms, es, ts⟩ := s
 simp only [canonS] at *
 obtain ⟨mrows, hm1, hm2, hm3, hm4, hm5⟩ := hm.rows
 obtain ⟨erows, he1, he2, he3, he4, he5⟩ := he.rows
 have HF : Hid (FewL ⟨nm, ms, es, ts⟩) := hf
 have HV : Hid (∀ e ∈ es, e.values.length ≤ capN) := hv
 have h1 : ms.length ≤ 14 := hf.msgs
 have h2 : es.length ≤ 10 := hf.enums
 have h3 : ts.length ≤ 10 := hf.meths
 obtain ⟨M, hM⟩ : ∃ N, ms.length = N := ⟨_, rfl⟩
 obtain ⟨E, hE⟩ : ∃ N, es.length = N := ⟨_, rfl⟩
 obtain ⟨T, hT⟩ : ∃ N, ts.length = N := ⟨_, rfl⟩
 rw [hM] at hm1 hm2 qm1 h1 ⊢
 rw [hE] at he1 he2 qe1 h2 ⊢
 rw [hT] at ht qt1 h3 ⊢
 have HM1 : Hid (RowG w (.slice am M cm) 3 mrows) := hm1
 have HM2 : Hid (mrows.length = M) := hm2
 have HM3 : Hid (∀ r ∈ mrows, r.length = 3) := hm3
 have HM4 : Hid (∀ u ∈ mrows.flatten, u.oneCell' = true) := hm4
 have HM5 : Hid (∀ (i : Nat) (m : MsS), ms[i]? = some m → ∃ vf vr, mrows[i]? = some [.string m.name, vf, vr] ∧ RowG w vf 5 (flRows m.fields) ∧ RowG w vr 1 (inRows m.reserved)) := hm5
 have HE1 : Hid (RowG w (.slice ae E ce) 2 erows) := he1
 have HE2 : Hid (erows.length = E) := he2
 have HE3 : Hid (∀ r ∈ erows, r.length = 2) := he3
 have HE4 : Hid (∀ u ∈ erows.flatten, u.oneCell' = true) := he4
 have HE5 : Hid (∀ (i : Nat) (m : EnS), es[i]? = some m → ∃ vf, erows[i]? = some [.string m.name, vf] ∧ RowG w vf 2 (nmRows m.values)) := he5
 have HT : Hid (RowG w (.slice at' T ct) 3 (mtRows ts)) := ht
 have HNM : Hid (ms.length = M) := hM
 have HNE : Hid (es.length = E) := hE
 have HNT : Hid (ts.length = T) := hT
 have HNR : Hid ((mtRows ts).length = T) := by show _ = _; simp [mtRows, hT]
 have HCM : Hid ((ms.map canonM).length = M) := by show _ = _; simp [hM]
 have HCE : Hid ((es.map canonE).length = E) := by show _ = _; simp [hE]
 clear hM hE hT hf hm he ht hm1 hm2 hm3 hm4 hm5 he1 he2 he3 he4 he5 hv
 go_enter Tryz.func12, Tryz.ntmps12
 go_wp2_with fail
 refine M_region (T := fun W => W.cell? ⟨w.heap.size, 1, none⟩ = some (.slice am M cm) ∧ W.cell? ⟨w.heap.size, 2, none⟩ = some (.slice ae E ce) ∧ W.cell? ⟨w.heap.size, 3, none⟩ = some (.slice at' T ct)) (m := 10) (by kernel_rfl) ?_
 have HB0 : Hid (Below w.heap.size w ((w.alloc (.cells #[.string nm, .slice am M cm, .slice ae E ce, .slice at' T ct] 27)).alloc (.cells #[.string ⟨#[]⟩, .slice none 0 0, .slice none 0 0, .slice none 0 0] 27)).drew) := below_drewN 1 (((Below.refl _ _).alloc (Nat.le_refl _) _).alloc (by simp) _)
 have HX0 : Hid (Blk ((w.alloc (.cells #[.string nm, .slice am M cm, .slice ae E ce, .slice at' T ct] 27)).alloc (.cells #[.string ⟨#[]⟩, .slice none 0 0, .slice none 0 0, .slice none 0 0] 27)).drew w.heap.size #[.string nm, .slice am M cm, .slice ae E ce, .slice at' T ct] 27) := (Blk.new w _ _).below (below_drewN 1 ((Below.refl _ _).alloc (Nat.le_refl _) _))
 have HR0 : Hid (Blk ((w.alloc (.cells #[.string nm, .slice am M cm, .slice ae E ce, .slice at' T ct] 27)).alloc (.cells #[.string ⟨#[]⟩, .slice none 0 0, .slice none 0 0, .slice none 0 0] 27)).drew (w.heap.size + 1) #[.string ⟨#[]⟩, .slice none 0 0, .slice none 0 0, .slice none 0 0] 27) := by
  have := Blk.new (w.alloc (.cells #[.string nm, .slice am M cm, .slice ae E ce, .slice at' T ct] 27)) #[.string ⟨#[]⟩, .slice none 0 0, .slice none 0 0, .slice none 0 0] 27
  rw [show (w.alloc (.cells #[.string nm, .slice am M cm, .slice ae E ce, .slice at' T ct] 27)).heap.size = w.heap.size + 1 by simp] at this
  exact this
 have HS0 : Hid (((w.alloc (.cells #[.string nm, .slice am M cm, .slice ae E ce, .slice at' T ct] 27)).alloc (.cells #[.string ⟨#[]⟩, .slice none 0 0, .slice none 0 0, .slice none 0 0] 27)).drew.heap.size = w.heap.size + 2) := by show _ = _; simp [World.drew]
 generalize ((w.alloc (.cells #[.string nm, .slice am M cm, .slice ae E ce, .slice at' T ct] 27)).alloc (.cells #[.string ⟨#[]⟩, .slice none 0 0, .slice none 0 0, .slice none 0 0] 27)).drew = W0 at *
 obtain ⟨b0, hb0⟩ : ∃ n, w.heap.size = n := ⟨_, rfl⟩
 rw [hb0] at HX0 HR0 HS0 ⊢
 have HBZ : Hid (w.heap.size = b0) := hb0
 clear hb0
 have hTW : ∀ W, Below W0.heap.size W0 W → W.cell? ⟨b0, 1, none⟩ = some (.slice am M cm) ∧ W.cell? ⟨b0, 2, none⟩ = some (.slice ae E ce) ∧ W.cell? ⟨b0, 3, none⟩ = some (.slice at' T ct) := fun W hW => ⟨(HX0.out.below hW).cell 1, (HX0.out.below hW).cell 2, (HX0.out.below hW).cell 3⟩
 have hT := hTW W0 (Below.refl _ _)
 refine M_take 0 7 (.pointer (some ⟨b0, 1, none⟩)) _ rfl rfl (by kernel_rfl) (by kernel_rfl) (by kernel_rfl) (by kernel_rfl) (by kernel_rfl) (fun _ _ _ h => h) (by rfl) (fun w' hw' => ?_) hT (listed' := #[true, false, false, false, false, false, false, false, false, false, false, false, false, false, false]) (by kernel_rfl) rfl ?_
 ·obtain ⟨g1, g2, g3⟩ := hw'; go_simp
 simp only [List.setIfInBounds_toArray, List.set_cons_zero, List.set_cons_succ]
 refine M_take 3 10 (.pointer (some ⟨b0, 2, none⟩)) _ rfl rfl (by kernel_rfl) (by kernel_rfl) (by kernel_rfl) (by kernel_rfl) (by kernel_rfl) (fun _ _ _ h => h) (by rfl) (fun w' hw' => ?_) hT (listed' := #[true, false, false, true, false, false, false, false, false, false, false, false, false, false, false]) (by kernel_rfl) rfl ?_
 ·obtain ⟨g1, g2, g3⟩ := hw'; go_simp
 simp only [List.setIfInBounds_toArray, List.set_cons_zero, List.set_cons_succ]
 refine M_take 6 13 (.pointer (some ⟨b0, 3, none⟩)) _ rfl rfl (by kernel_rfl) (by kernel_rfl) (by kernel_rfl) (by kernel_rfl) (by kernel_rfl) (fun _ _ _ h => h) (by rfl) (fun w' hw' => ?_) hT (listed' := #[true, false, false, true, false, false, true, false, false, false, false, false, false, false, false]) (by kernel_rfl) rfl ?_
 ·obtain ⟨g1, g2, g3⟩ := hw'; go_simp
 simp only [List.setIfInBounds_toArray, List.set_cons_zero, List.set_cons_succ]
 refine M_take 1 8 (.slice am M cm) _ rfl rfl (by kernel_rfl) (by kernel_rfl) (by kernel_rfl) (by kernel_rfl) (by kernel_rfl) (fun _ _ _ h => h) (by rfl) (fun w' hw' => ?_) hT (listed' := #[true, true, false, true, false, false, true, false, false, false, false, false, false, false, false]) (by kernel_rfl) rfl ?_
 ·obtain ⟨g1, g2, g3⟩ := hw'; go_simp
 simp only [List.setIfInBounds_toArray, List.set_cons_zero, List.set_cons_succ]
 refine M_take 4 11 (.slice ae E ce) _ rfl rfl (by kernel_rfl) (by kernel_rfl) (by kernel_rfl) (by kernel_rfl) (by kernel_rfl) (fun _ _ _ h => h) (by rfl) (fun w' hw' => ?_) hT (listed' := #[true, true, false, true, true, false, true, false, false, false, false, false, false, false, false]) (by kernel_rfl) rfl ?_
 ·obtain ⟨g1, g2, g3⟩ := hw'; go_simp
 simp only [List.setIfInBounds_toArray, List.set_cons_zero, List.set_cons_succ]
 refine M_take 7 14 (.slice at' T ct) _ rfl rfl (by kernel_rfl) (by kernel_rfl) (by kernel_rfl) (by kernel_rfl) (by kernel_rfl) (fun _ _ _ h => h) (by rfl) (fun w' hw' => ?_) hT (listed' := #[true, true, false, true, true, false, true, true, false, false, false, false, false, false, false]) (by kernel_rfl) rfl ?_
 ·obtain ⟨g1, g2, g3⟩ := hw'; go_simp
 simp only [List.setIfInBounds_toArray, List.set_cons_zero, List.set_cons_succ]
 refine M_call 2 9 31 #[.slice am M cm] rfl rfl (by kernel_rfl) (by rfl) (listed' := #[true, true, true, true, true, false, true, true, false, false, false, false, false, false, false]) (by kernel_rfl) (fun W => by go_simp) ?_
 refine (pfreshM_any (HM1.out.below HB0.out) HM3.out HM4.out (by have := HM2.out; omega)).mono ?_
 rintro e W1 ⟨u, rfl, ho, hq⟩
 have hb1 : Below W0.heap.size W0 W1 := hq
 have hT := hTW W1 hb1
 rw [HM2.out] at ho
 obtain ⟨ma, mc, hu⟩ := own_form ho
 subst hu
 refine ⟨_, rfl, hT, ?_⟩
 simp only [List.setIfInBounds_toArray, List.set_cons_zero, List.set_cons_succ]
 have HO1 : Hid (W1.ownsRow W0.heap.size 40 3 (.slice ma M mc) M mrows.flatten) := ho
 clear ho hq
 refine M_take 9 16 (.pointer (some ⟨b0, 1, none⟩)) _ rfl rfl (by kernel_rfl) (by kernel_rfl) (by kernel_rfl) (by kernel_rfl) (by kernel_rfl) (fun _ _ _ h => h) (by rfl) (fun w' hw' => ?_) hT (listed' := #[true, true, true, true, true, false, true, true, false, true, false, false, false, false, false]) (by kernel_rfl) rfl ?_
 ·obtain ⟨g1, g2, g3⟩ := hw'; go_simp
 simp only [List.setIfInBounds_toArray, List.set_cons_zero, List.set_cons_succ]
 refine M_call 5 12 32 #[.slice ae E ce] rfl rfl (by kernel_rfl) (by rfl) (listed' := #[true, true, true, true, true, true, true, true, false, true, false, false, false, false, false]) (by kernel_rfl) (fun W => by go_simp) ?_
 refine (pfreshE_any ((HE1.out.below HB0.out).below hb1) HE3.out HE4.out (by have := HE2.out; omega)).mono ?_
 rintro e W2 ⟨u, rfl, ho, hq⟩
 have hb2 : Below W0.heap.size W0 W2 := hb1.trans (hq.mono hb1.size)
 have hT := hTW W2 hb2
 rw [HE2.out] at ho
 obtain ⟨ea, ec, hu⟩ := own_form ho
 subst hu
 refine ⟨_, rfl, hT, ?_⟩
 simp only [List.setIfInBounds_toArray, List.set_cons_zero, List.set_cons_succ]
 have HO2 : Hid (W2.ownsRow W0.heap.size 44 2 (.slice ea E ec) E erows.flatten) := own_base ho hb1.size
 have HO1 : Hid (W2.ownsRow W0.heap.size 40 3 (.slice ma M mc) M mrows.flatten) := own_below HO1.out hq
 clear ho hq
 refine M_call 8 15 33 #[.slice at' T ct] rfl rfl (by kernel_rfl) (by rfl) (listed' := #[true, true, true, true, true, true, true, true, true, true, false, false, false, false, false]) (by kernel_rfl) (fun W => by go_simp) ?_
 refine (pfreshT_any ((HT.out.below HB0.out).below hb2) (mtr_len _) (mtr_one _) (by have := HNR.out; omega)).mono ?_
 rintro e W3 ⟨u, rfl, ho, hq⟩
 have hb3 : Below W0.heap.size W0 W3 := hb2.trans (hq.mono hb2.size)
 have hT := hTW W3 hb3
 rw [HNR.out] at ho
 obtain ⟨ta, tc, hu⟩ := own_form ho
 subst hu
 refine ⟨_, rfl, hT, ?_⟩
 simp only [List.setIfInBounds_toArray, List.set_cons_zero, List.set_cons_succ]
 have HO3 : Hid (W3.ownsRow W0.heap.size 46 3 (.slice ta T tc) T (mtRows ts).flatten) := own_base ho hb2.size
 have HO1 : Hid (W3.ownsRow W0.heap.size 40 3 (.slice ma M mc) M mrows.flatten) := own_below HO1.out hq
 have HO2 : Hid (W3.ownsRow W0.heap.size 44 2 (.slice ea E ec) E erows.flatten) := own_below HO2.out hq
 clear ho hq hb1 hb2
 have BX3 := HX0.out.below hb3
 have BR3 := HR0.out.below hb3
 have hbw : Below w.heap.size w W3 := HB0.out.trans (hb3.mono HB0.out.size)
 have HSZ : Hid (b0 + 2 = W0.heap.size) := HS0.out.symm
 have x1 := (BX3.cell 1).trans rfl
 have x2 := (BX3.cell 2).trans rfl
 have x3 := (BX3.cell 3).trans rfl
 have z1 := BX3.froz 1
 have z2 := BX3.froz 2
 have z3 := BX3.froz 3
 refine M_store 10 (W3.setCell ⟨b0, 1, none⟩ (.slice ma M mc)) rfl rfl (by kernel_rfl) (by rfl) (listed' := #[true, true, true, true, true, true, true, true, true, true, true, false, false, false, false]) (by kernel_rfl) (by go_simp) (by kernel_rfl) ?_
 have BA : Blk (W3.setCell ⟨b0, 1, none⟩ (.slice ma M mc)) b0 #[.string nm, .slice ma M mc, .slice ae E ce, .slice at' T ct] 27 := BX3.set 1 _ rfl
 have y2 := (BA.cell 2).trans rfl
 have y3 := BA.froz 2
 refine M_runA 11 17 (.pointer (some ⟨b0, 2, none⟩)) (W3.setCell ⟨b0, 1, none⟩ (.slice ma M mc)) rfl rfl (by kernel_rfl) (by rfl) (listed' := #[true, true, true, true, true, true, true, true, true, true, true, true, false, false, false]) (by kernel_rfl) (by go_simp) (by kernel_rfl) ?_
 simp only [List.setIfInBounds_toArray, List.set_cons_zero, List.set_cons_succ]
 refine M_store 12 ((W3.setCell ⟨b0, 1, none⟩ (.slice ma M mc)).setCell ⟨b0, 2, none⟩ (.slice ea E ec)) rfl rfl (by kernel_rfl) (by rfl) (listed' := #[true, true, true, true, true, true, true, true, true, true, true, true, true, false, false]) (by kernel_rfl) (by go_simp) (by kernel_rfl) ?_
 have BB : Blk ((W3.setCell ⟨b0, 1, none⟩ (.slice ma M mc)).setCell ⟨b0, 2, none⟩ (.slice ea E ec)) b0 #[.string nm, .slice ma M mc, .slice ea E ec, .slice at' T ct] 27 := BA.set 2 _ rfl
 have y4 := (BB.cell 3).trans rfl
 have y5 := BB.froz 3
 refine M_runA 13 18 (.pointer (some ⟨b0, 3, none⟩)) ((W3.setCell ⟨b0, 1, none⟩ (.slice ma M mc)).setCell ⟨b0, 2, none⟩ (.slice ea E ec)) rfl rfl (by kernel_rfl) (by rfl) (listed' := #[true, true, true, true, true, true, true, true, true, true, true, true, true, true, false]) (by kernel_rfl) (by go_simp) (by kernel_rfl) ?_
 simp only [List.setIfInBounds_toArray, List.set_cons_zero, List.set_cons_succ]
 refine M_store 14 (((W3.setCell ⟨b0, 1, none⟩ (.slice ma M mc)).setCell ⟨b0, 2, none⟩ (.slice ea E ec)).setCell ⟨b0, 3, none⟩ (.slice ta T tc)) rfl rfl (by kernel_rfl) (by rfl) (listed' := #[true, true, true, true, true, true, true, true, true, true, true, true, true, true, true]) (by kernel_rfl) (by go_simp) (by kernel_rfl) ?_
 refine M_done (by kernel_rfl) ?_ _
 have KS : Kp (fun k => k = b0) W3 (((W3.setCell ⟨b0, 1, none⟩ (.slice ma M mc)).setCell ⟨b0, 2, none⟩ (.slice ea E ec)).setCell ⟨b0, 3, none⟩ (.slice ta T tc)) := by
  refine Kp.setCell ?_ (fun _ => by simp) _
  refine Kp.setCell ?_ (fun _ => by simp) _
  refine Kp.setCell ?_ (fun _ => by simp) _
  exact Kp.refl _ _
 have BX4 : Blk (((W3.setCell ⟨b0, 1, none⟩ (.slice ma M mc)).setCell ⟨b0, 2, none⟩ (.slice ea E ec)).setCell ⟨b0, 3, none⟩ (.slice ta T tc)) b0 #[.string nm, .slice ma M mc, .slice ea E ec, .slice ta T tc] 27 := BB.set 3 _ rfl
 have BR4 := BR3.kp KS (by omega)
 have hq : ∀ k, W0.heap.size ≤ k → ¬ k = b0 := fun k hk => by have := HSZ.out; omega
 have HMP : Hid (MsP (((W3.setCell ⟨b0, 1, none⟩ (.slice ma M mc)).setCell ⟨b0, 2, none⟩ (.slice ea E ec)).setCell ⟨b0, 3, none⟩ (.slice ta T tc)) W0.heap.size (.slice ma M mc) (ms.map canonM) mrows 0 mrows []) := MsP.start (by rw [HCM.out]; exact own_kp HO1.out KS hq) (by rw [HCM.out]; exact HM2.out) HM3.out
 have HEP : Hid (EnP (((W3.setCell ⟨b0, 1, none⟩ (.slice ma M mc)).setCell ⟨b0, 2, none⟩ (.slice ea E ec)).setCell ⟨b0, 3, none⟩ (.slice ta T tc)) W0.heap.size (.slice ea E ec) (es.map canonE) erows 0 erows []) := EnP.start (by rw [HCE.out]; exact own_kp HO2.out KS hq) (by rw [HCE.out]; exact HE2.out) HE3.out
 have HTO : Hid ((((W3.setCell ⟨b0, 1, none⟩ (.slice ma M mc)).setCell ⟨b0, 2, none⟩ (.slice ea E ec)).setCell ⟨b0, 3, none⟩ (.slice ta T tc)).ownsRow W0.heap.size 46 3 (.slice ta T tc) T (mtRows ts).flatten) := own_kp HO3.out KS hq
 have hb4 : Below w.heap.size w (((W3.setCell ⟨b0, 1, none⟩ (.slice ma M mc)).setCell ⟨b0, 2, none⟩ (.slice ea E ec)).setCell ⟨b0, 3, none⟩ (.slice ta T tc)) := hbw.trans (KS.toBelow hbw.size (fun k e => by have := HBZ.out; omega))
 generalize (((W3.setCell ⟨b0, 1, none⟩ (.slice ma M mc)).setCell ⟨b0, 2, none⟩ (.slice ea E ec)).setCell ⟨b0, 3, none⟩ (.slice ta T tc)) = W4 at *
 clear x1 x2 x3 z1 z2 z3 y2 y3 y4 y5 BA BB KS HO1 HO2 HO3 BX3 BR3 hbw hT hTW HX0 HR0 HB0 hb3 hq HM1 HE1 HT HM2 HM3 HM4 HE2 HE3 HE4
 obtain ⟨B, hB⟩ : ∃ B, W0.heap.size = B := ⟨_, rfl⟩
 rw [hB] at HMP HEP HTO HSZ
 clear hB HS0
 have x1 := (BX4.cell 1).trans rfl
 go_wp2_with fail
 clear x1
 go_loopw [22] (fun iv wr => ∃ (k : Nat) (rows : List (List Value)) (ps : List (Value × Value)), iv = .int .i64 (k : Int) ∧ k ≤ M ∧ Hid (MsP wr B (.slice ma M mc) (ms.map canonM) mrows k rows ps) ∧ Hid (EnP wr B (.slice ea E ec) (es.map canonE) erows 0 erows []) ∧ Hid (wr.ownsRow B 46 3 (.slice ta T tc) T (mtRows ts).flatten) ∧ Blk wr b0 #[.string nm, .slice ma M mc, .slice ea E ec, .slice ta T tc] 27 ∧ Blk wr (b0 + 1) #[.string ⟨#[]⟩, .slice none 0 0, .slice none 0 0, .slice none 0 0] 27 ∧ Below w.heap.size w wr) (fun iv _ => M - (intOf iv).toNat)
 case atStart => exact ⟨0, _, _, rfl, by omega, HMP, HEP, HTO, BX4, BR4, hb4⟩
 case round =>
  obtain ⟨k, rows, ps, rfl, hk, HMK, HEK, HTK, BX, BR, hbel⟩ := hrel
  clear HMP HEP HTO BX4 BR4 hb4
  by_cases hlt : k < M
  ·obtain ⟨m, hm⟩ : ∃ n, ms[k]? = some n := ⟨_, List.getElem?_eq_getElem (by rw [HNM.out]; exact hlt)⟩
   obtain ⟨vf, vr, hrow, hrf, hrr⟩ := HM5.out k m hm
   have hown := HMK.out.own
   rw [HCM.out] at hown
   obtain ⟨q, qc, hq0, hq1, hq2, hq3, hq4⟩ := own_addr hown (by omega)
   simp only [Value.slice.injEq] at hq0
   obtain ⟨rfl, _, rfl⟩ := hq0
   have hrk : rows[k]? = some [.string m.name, vf, vr] := (HMK.out.rest k (Nat.le_refl _)).trans hrow
   have c0 := own_at HMK.out.wide hown hrk (j := 0) rfl
   have c1 := own_at HMK.out.wide hown hrk (j := 1) rfl
   have c2 := own_at HMK.out.wide hown hrk (j := 2) rfl
   rw [Nat.add_zero] at c0
   have HFl : Hid (m.fields.length ≤ 20 ∧ m.reserved.length ≤ 40) := HF.out.flds m (List.mem_of_getElem? hm)
   have HCK : Hid ((ms.map canonM)[k]? = some (canonM m)) := by show _ = _; simp [hm]
   have HFf : Hid (RowG wr vf 5 (flRows m.fields)) := hrf.below hbel
   have HRr : Hid (RowG wr vr 1 (inRows m.reserved)) := hrr.below hbel
   obtain ⟨a3, c3, hv3, _, _⟩ := hrf.form2
   subst hv3
   obtain ⟨a4, c4, hv4, _, _⟩ := hrr.form2
   subst hv4
   obtain ⟨m0, mf, mr⟩ := m
   simp only at c0 c1 c2 HFl HCK HFf HRr
   have HFf : Hid (RowG wr (.slice a3 (flRows mf).length c3) 5 (flRows mf)) := HFf
   have HRr : Hid (RowG wr (.slice a4 (inRows mr).length c4) 1 (inRows mr)) := HRr
   generalize (flRows mf).length = nF at *
   generalize (inRows mr).length = nR at *
   clear hrf hrr hm hrow hrk
   have HQ : Hid (B ≤ q ∧ q < wr.heap.size) := ⟨hq3, hq4⟩
   have HOW : Hid (wr.ownsRow B 40 3 (.slice (some ⟨q, 0, none⟩) M mc) M rows.flatten) := hown
   clear hown hq3 hq4
   have hkM : (k : Int) < (M : Int) := by omega
   go_wp2_with fail
   clear c0 c1 c2
   refine M_region (T := fun W => W.cell? ⟨b0, 1, none⟩ = some (.slice (some ⟨q, 0, none⟩) M mc) ∧ W.cell? ⟨wr.heap.size, 0, none⟩ = some (.string m0) ∧ W.cell? ⟨wr.heap.size, 1, none⟩ = some (.slice a3 nF c3) ∧ W.cell? ⟨wr.heap.size, 2, none⟩ = some (.slice a4 nR c4)) (m := 6) (by kernel_rfl) ?_
   have hb0 : Below wr.heap.size wr (wr.alloc (.cells #[.string m0, .slice a3 nF c3, .slice a4 nR c4] 40)).drew := below_drewN 1 ((Below.refl _ _).alloc (Nat.le_refl _) _)
   have BM0 : Blk (wr.alloc (.cells #[.string m0, .slice a3 nF c3, .slice a4 nR c4] 40)).drew wr.heap.size #[.string m0, .slice a3 nF c3, .slice a4 nR c4] 40 := Blk.new wr #[.string m0, .slice a3 nF c3, .slice a4 nR c4] 40
   generalize (wr.alloc (.cells #[.string m0, .slice a3 nF c3, .slice a4 nR c4] 40)).drew = W5 at *
   have BX5 := BX.below hb0
   have BR5 := BR.below hb0
   have HM5' : Hid (MsP W5 B (.slice (some ⟨q, 0, none⟩) M mc) (ms.map canonM) mrows k rows ps) := HMK.out.below hb0
   have HE5' : Hid (EnP W5 B (.slice ea E ec) (es.map canonE) erows 0 erows []) := HEK.out.below hb0
   have HT5' : Hid (W5.ownsRow B 46 3 (.slice ta T tc) T (mtRows ts).flatten) := own_below HTK.out hb0
   have HF5 : Hid (RowG W5 (.slice a3 nF c3) 5 (flRows mf)) := HFf.out.below hb0
   have HR5 : Hid (RowG W5 (.slice a4 nR c4) 1 (inRows mr)) := HRr.out.below hb0
   have hbel5 : Below w.heap.size w W5 := hbel.trans (hb0.mono hbel.size)
   have HBW : Hid (B ≤ W5.heap.size) := by have := HQ.out; have := hb0.size; show _ ≤ _; omega
   obtain ⟨bm, hbm⟩ : ∃ n, wr.heap.size = n := ⟨_, rfl⟩
   rw [hbm] at BM0 ⊢
   clear hbm BX BR HMK HEK HTK HFf HRr hb0 hbel
   have hTW : ∀ W, Below W5.heap.size W5 W → W.cell? ⟨b0, 1, none⟩ = some (.slice (some ⟨q, 0, none⟩) M mc) ∧ W.cell? ⟨bm, 0, none⟩ = some (.string m0) ∧ W.cell? ⟨bm, 1, none⟩ = some (.slice a3 nF c3) ∧ W.cell? ⟨bm, 2, none⟩ = some (.slice a4 nR c4) := fun W hW => ⟨(BX5.below hW).cell 1, (BM0.below hW).cell 0, (BM0.below hW).cell 1, (BM0.below hW).cell 2⟩
   have hT := hTW W5 (Below.refl _ _)
   refine M_take 0 27 (.pointer (some ⟨b0, 1, none⟩)) _ rfl rfl (by kernel_rfl) (by kernel_rfl) (by kernel_rfl) (by kernel_rfl) (by kernel_rfl) (fun _ _ _ h => h) (by rfl) (fun w' hw' => ?_) hT (listed' := #[true, false, false, false, false, false, false]) (by kernel_rfl) rfl ?_
   ·obtain ⟨g1, g2, g3, g4⟩ := hw'; go_simp
   simp only [List.setIfInBounds_toArray, List.set_cons_zero, List.set_cons_succ]
   refine M_take 2 29 (.int .i64 (k : Int)) _ rfl rfl (by kernel_rfl) (by kernel_rfl) (by kernel_rfl) (by kernel_rfl) (by kernel_rfl) (fun _ _ _ h => h) (by rfl) (fun w' hw' => ?_) hT (listed' := #[true, false, true, false, false, false, false]) (by kernel_rfl) rfl ?_
   ·obtain ⟨g1, g2, g3, g4⟩ := hw'; go_simp
   simp only [List.setIfInBounds_toArray, List.set_cons_zero, List.set_cons_succ]
   refine M_take 1 28 (.slice (some ⟨q, 0, none⟩) M mc) _ rfl rfl (by kernel_rfl) (by kernel_rfl) (by kernel_rfl) (by kernel_rfl) (by kernel_rfl) (fun _ _ _ h => h) (by rfl) (fun w' hw' => ?_) hT (listed' := #[true, true, true, false, false, false, false]) (by kernel_rfl) rfl ?_
   ·obtain ⟨g1, g2, g3, g4⟩ := hw'; go_simp
   simp only [List.setIfInBounds_toArray, List.set_cons_zero, List.set_cons_succ]
   refine M_take 3 30 (.agg #[.string m0, .slice a3 nF c3, .slice a4 nR c4]) _ rfl rfl (by kernel_rfl) (by kernel_rfl) (by kernel_rfl) (by kernel_rfl) (by kernel_rfl) (fun _ _ _ h => h) (by rfl) (fun w' hw' => ?_) hT (listed' := #[true, true, true, true, false, false, false]) (by kernel_rfl) rfl ?_
   ·obtain ⟨g1, g2, g3, g4⟩ := hw'; go_simp
   simp only [List.setIfInBounds_toArray, List.set_cons_zero, List.set_cons_succ]
   refine M_call 4 31 34 #[.agg #[.string m0, .slice a3 nF c3, .slice a4 nR c4]] rfl rfl (by kernel_rfl) (by rfl) (listed' := #[true, true, true, true, true, false, false]) (by kernel_rfl) (fun W => by go_simp) ?_
   refine (canonM_any (m := ⟨m0, mf, mr⟩) HF5.out HR5.out HFl.out.1 (by have := HFl.out; show mr.length ≤ 1000; omega)).mono ?_
   rintro e W6 ⟨uf, ur, rfl, ho1, ho2, hb6⟩
   have hT := hTW W6 hb6
   obtain ⟨fa, fc, hu⟩ := own_form ho1
   subst hu
   obtain ⟨ra, rc, hu⟩ := own_form ho2
   subst hu
   refine ⟨_, rfl, hT, ?_⟩
   simp only [List.setIfInBounds_toArray, List.set_cons_zero, List.set_cons_succ]
   simp only at ho1 ho2 ⊢
   have HCL : Hid ((canonM ⟨m0, mf, mr⟩).fields.length = mf.length ∧ (canonM ⟨m0, mf, mr⟩).reserved.length = mr.length) := ⟨srtF_len _ _, srtF_len _ _⟩
   have HO1 : Hid (W6.ownsRow W5.heap.size 90 5 (.slice fa mf.length fc) (canonM ⟨m0, mf, mr⟩).fields.length (flRows (canonM ⟨m0, mf, mr⟩).fields).flatten) := by show World.ownsRow _ _ _ _ _ _ _; rw [HCL.out.1]; exact ho1
   have HO2 : Hid (W6.ownsRow W5.heap.size 3 1 (.slice ra mr.length rc) (canonM ⟨m0, mf, mr⟩).reserved.length (inRows (canonM ⟨m0, mf, mr⟩).reserved).flatten) := by show World.ownsRow _ _ _ _ _ _ _; rw [HCL.out.2]; exact ho2
   have HM6 : Hid (MsP W6 B (.slice (some ⟨q, 0, none⟩) M mc) (ms.map canonM) mrows k rows ps) := HM5'.out.below hb6
   have BX6 := BX5.below hb6
   have BR6 := BR5.below hb6
   have HE6 : Hid (EnP W6 B (.slice ea E ec) (es.map canonE) erows 0 erows []) := HE5'.out.below hb6
   have HT6 : Hid (W6.ownsRow B 46 3 (.slice ta T tc) T (mtRows ts).flatten) := own_below HT5'.out hb6
   have hbel6 : Below w.heap.size w W6 := hbel5.trans (hb6.mono hbel5.size)
   have hstep := HM6.out.step HCM.out HCK.out HM5'.out.high HBW.out HO1.out HO2.out
   have hown := HM6.out.own
   rw [HCM.out] at hown
   obtain ⟨rk, hrk⟩ : ∃ r, rows[k]? = some r := ⟨_, List.getElem?_eq_getElem (by rw [HM6.out.rl, HCM.out]; exact hlt)⟩
   have hw3 := HM6.out.wide rk (List.mem_of_getElem? hrk)
   obtain ⟨r0, r1, r2, hr3⟩ : ∃ a b c, rk = [a, b, c] := by
    match rk, hw3 with
    | [a, b, c], _ => exact ⟨a, b, c, rfl⟩
   subst hr3
   have c0 := own_at HM6.out.wide hown hrk (j := 0) rfl
   have c1 := own_at HM6.out.wide hown hrk (j := 1) rfl
   have c2 := own_at HM6.out.wide hown hrk (j := 2) rfl
   rw [Nat.add_zero] at c0
   have f0 := own_froz hown (k * 3)
   have f1 := own_froz hown (k * 3 + 1)
   have f2 := own_froz hown (k * 3 + 2)
   have HST : Hid _ := hstep
   clear hstep hown hrk hw3 ho1 ho2
   refine M_run 5 32 (.pointer (some ⟨q, k * 3, none⟩)) (W6) rfl rfl (by kernel_rfl) (by rfl) (listed' := #[true, true, true, true, true, true, false]) (by kernel_rfl) (by go_simp) hT ?_
   simp only [List.setIfInBounds_toArray, List.set_cons_zero, List.set_cons_succ]
   refine M_store 6 (((W6.setCell ⟨q, k * 3, none⟩ (.string m0)).setCell ⟨q, k * 3 + 1, none⟩ (.slice fa mf.length fc)).setCell ⟨q, k * 3 + 2, none⟩ (.slice ra mr.length rc)) rfl rfl (by kernel_rfl) (by rfl) (listed' := #[true, true, true, true, true, true, true]) (by kernel_rfl) (by go_simp) (by kernel_rfl) ?_
   refine M_done (by kernel_rfl) ?_ _
   obtain ⟨hst, KS⟩ := HST.out
   have HM7 : Hid (MsP (((W6.setCell ⟨q, k * 3, none⟩ (.string m0)).setCell ⟨q, k * 3 + 1, none⟩ (.slice fa mf.length fc)).setCell ⟨q, k * 3 + 2, none⟩ (.slice ra mr.length rc)) B (.slice (some ⟨q, 0, none⟩) M mc) (ms.map canonM) mrows (k + 1) (rows.set k [.string m0, .slice fa mf.length fc, .slice ra mr.length rc]) (ps ++ [(.slice fa mf.length fc, .slice ra mr.length rc)])) := hst
   have KS : Kp (fun b => b = q) W6 (((W6.setCell ⟨q, k * 3, none⟩ (.string m0)).setCell ⟨q, k * 3 + 1, none⟩ (.slice fa mf.length fc)).setCell ⟨q, k * 3 + 2, none⟩ (.slice ra mr.length rc)) := KS
   have hne : ∀ b, b < B → ¬ b = q := fun b hb => by have := HQ.out; omega
   have BX7 := BX6.kp KS (hne _ (by have := HSZ.out; omega))
   have BR7 := BR6.kp KS (hne _ (by have := HSZ.out; omega))
   have howm := HM6.out.own
   have HE7 : Hid (EnP (((W6.setCell ⟨q, k * 3, none⟩ (.string m0)).setCell ⟨q, k * 3 + 1, none⟩ (.slice fa mf.length fc)).setCell ⟨q, k * 3 + 2, none⟩ (.slice ra mr.length rc)) B (.slice ea E ec) (es.map canonE) erows 0 erows []) := ⟨HE6.out.len, HE6.out.le, HE6.out.rl, HE6.out.wide, own_kpV HE6.out.own KS (fun b hb e => by subst e; exact own_apart howm HE6.out.own (by decide) b rfl hb), HE6.out.done, HE6.out.rest, fun i m p _ hp => by simp at hp⟩
   have HT7 : Hid ((((W6.setCell ⟨q, k * 3, none⟩ (.string m0)).setCell ⟨q, k * 3 + 1, none⟩ (.slice fa mf.length fc)).setCell ⟨q, k * 3 + 2, none⟩ (.slice ra mr.length rc)).ownsRow B 46 3 (.slice ta T tc) T (mtRows ts).flatten) := own_kpV HT6.out KS (fun b hb e => by subst e; exact own_apart howm HT6.out (by decide) b rfl hb)
   have hbel7 : Below w.heap.size w (((W6.setCell ⟨q, k * 3, none⟩ (.string m0)).setCell ⟨q, k * 3 + 1, none⟩ (.slice fa mf.length fc)).setCell ⟨q, k * 3 + 2, none⟩ (.slice ra mr.length rc)) := hbel6.trans (KS.toBelow hbel6.size (fun b e => by have := HQ.out; have := HSZ.out; have := HBZ.out; omega))
   generalize (((W6.setCell ⟨q, k * 3, none⟩ (.string m0)).setCell ⟨q, k * 3 + 1, none⟩ (.slice fa mf.length fc)).setCell ⟨q, k * 3 + 2, none⟩ (.slice ra mr.length rc)) = W7 at *
   clear hst KS HST BX6 BR6 HE6 HT6 HM6 hbel6 c0 c1 c2 f0 f1 f2 howm HO1 HO2 HM5' HE5' HT5' BX5 BR5 hT hTW BM0 hbel5
   go_wp2_with fail
   go_roundw
   case rel => exact ⟨k + 1, _, _, by go_num, by omega, HM7, HE7, HT7, BX7, BR7, hbel7⟩
   case measure => simp [intOf]; omega
  ·obtain rfl : k = M := by omega
   have HMS : Hid (MsO wr B (.slice ma k mc) (ms.map canonM) ps) := by
    have := HMK.out
    rw [← HCM.out] at this
    have := this.all
    rw [HCM.out] at this
    exact this
   clear HMK
   have x2 := (BX.cell 2).trans rfl
   have hkM : ¬ (k : Int) < (k : Int) := by omega
   go_wp2_with fail
   clear x2
   go_loopw [37] (fun iv wr => ∃ (i : Nat) (rows : List (List Value)) (pe : List Value), iv = .int .i64 (i : Int) ∧ i ≤ E ∧ Hid (EnP wr B (.slice ea E ec) (es.map canonE) erows i rows pe) ∧ Hid (MsO wr B (.slice ma k mc) (ms.map canonM) ps) ∧ Hid (wr.ownsRow B 46 3 (.slice ta T tc) T (mtRows ts).flatten) ∧ Blk wr b0 #[.string nm, .slice ma k mc, .slice ea E ec, .slice ta T tc] 27 ∧ Blk wr (b0 + 1) #[.string ⟨#[]⟩, .slice none 0 0, .slice none 0 0, .slice none 0 0] 27 ∧ Below w.heap.size w wr) (fun iv _ => E - (intOf iv).toNat)
   case atStart => exact ⟨0, _, _, rfl, by omega, HEK, HMS, HTK, BX, BR, hbel⟩
   case round =>
    obtain ⟨i, rows, pe, rfl, hi, HEK, HMS, HTK, BX, BR, hbel⟩ := hrel
    by_cases hlt : i < E
    ·obtain ⟨m, hm⟩ : ∃ n, es[i]? = some n := ⟨_, List.getElem?_eq_getElem (by rw [HNE.out]; exact hlt)⟩
     obtain ⟨vf, hrow, hrf⟩ := HE5.out i m hm
     have hown := HEK.out.own
     rw [HCE.out] at hown
     obtain ⟨q, qc, hq0, hq1, hq2, hq3, hq4⟩ := own_addr hown (by omega)
     simp only [Value.slice.injEq] at hq0
     obtain ⟨rfl, _, rfl⟩ := hq0
     have hrk : rows[i]? = some [.string m.name, vf] := (HEK.out.rest i (Nat.le_refl _)).trans hrow
     have c0 := own_at HEK.out.wide hown hrk (j := 0) rfl
     have c1 := own_at HEK.out.wide hown hrk (j := 1) rfl
     rw [Nat.add_zero] at c0
     have HFl : Hid (m.values.length ≤ capN) := HV.out m (List.mem_of_getElem? hm)
     have HCK : Hid ((es.map canonE)[i]? = some (canonE m)) := by show _ = _; simp [hm]
     have HFf : Hid (RowG wr vf 2 (nmRows m.values)) := hrf.below hbel
     obtain ⟨a3, c3, hv3, _, _⟩ := hrf.form2
     subst hv3
     obtain ⟨m0, mf⟩ := m
     simp only at c0 c1 HFl HCK HFf
     have HFf : Hid (RowG wr (.slice a3 (nmRows mf).length c3) 2 (nmRows mf)) := HFf
     generalize (nmRows mf).length = nF at *
     clear hrf hm hrow hrk
     have HQ : Hid (B ≤ q ∧ q < wr.heap.size) := ⟨hq3, hq4⟩
     clear hown hq3 hq4
     have hkM : (i : Int) < (E : Int) := by omega
     go_wp2_with fail
     clear c0 c1
     refine M_region (T := fun W => W.cell? ⟨b0, 2, none⟩ = some (.slice (some ⟨q, 0, none⟩) E ec) ∧ W.cell? ⟨wr.heap.size, 0, none⟩ = some (.string m0) ∧ W.cell? ⟨wr.heap.size, 1, none⟩ = some (.slice a3 nF c3)) (m := 6) (by kernel_rfl) ?_
     have hb0 : Below wr.heap.size wr (wr.alloc (.cells #[.string m0, .slice a3 nF c3] 44)).drew := below_drewN 1 ((Below.refl _ _).alloc (Nat.le_refl _) _)
     have BM0 : Blk (wr.alloc (.cells #[.string m0, .slice a3 nF c3] 44)).drew wr.heap.size #[.string m0, .slice a3 nF c3] 44 := Blk.new wr #[.string m0, .slice a3 nF c3] 44
     generalize (wr.alloc (.cells #[.string m0, .slice a3 nF c3] 44)).drew = W5 at *
     have BX5 := BX.below hb0
     have BR5 := BR.below hb0
     have HM5' : Hid (MsO W5 B (.slice ma k mc) (ms.map canonM) ps) := HMS.out.below hb0
     have HE5' : Hid (EnP W5 B (.slice (some ⟨q, 0, none⟩) E ec) (es.map canonE) erows i rows pe) := HEK.out.below hb0
     have HT5' : Hid (W5.ownsRow B 46 3 (.slice ta T tc) T (mtRows ts).flatten) := own_below HTK.out hb0
     have HF5 : Hid (RowG W5 (.slice a3 nF c3) 2 (nmRows mf)) := HFf.out.below hb0
     have hbel5 : Below w.heap.size w W5 := hbel.trans (hb0.mono hbel.size)
     have HBW : Hid (B ≤ W5.heap.size) := by have := HQ.out; have := hb0.size; show _ ≤ _; omega
     obtain ⟨bm, hbm⟩ : ∃ n, wr.heap.size = n := ⟨_, rfl⟩
     rw [hbm] at BM0 ⊢
     clear hbm BX BR HMS HEK HTK HFf hb0 hbel
     have hTW : ∀ W, Below W5.heap.size W5 W → W.cell? ⟨b0, 2, none⟩ = some (.slice (some ⟨q, 0, none⟩) E ec) ∧ W.cell? ⟨bm, 0, none⟩ = some (.string m0) ∧ W.cell? ⟨bm, 1, none⟩ = some (.slice a3 nF c3) := fun W hW => ⟨(BX5.below hW).cell 2, (BM0.below hW).cell 0, (BM0.below hW).cell 1⟩
     have hT := hTW W5 (Below.refl _ _)
     refine M_take 0 42 (.pointer (some ⟨b0, 2, none⟩)) _ rfl rfl (by kernel_rfl) (by kernel_rfl) (by kernel_rfl) (by kernel_rfl) (by kernel_rfl) (fun _ _ _ h => h) (by rfl) (fun w' hw' => ?_) hT (listed' := #[true, false, false, false, false, false, false]) (by kernel_rfl) rfl ?_
     ·obtain ⟨g1, g2, g3⟩ := hw'; go_simp
     simp only [List.setIfInBounds_toArray, List.set_cons_zero, List.set_cons_succ]
     refine M_take 2 44 (.int .i64 (i : Int)) _ rfl rfl (by kernel_rfl) (by kernel_rfl) (by kernel_rfl) (by kernel_rfl) (by kernel_rfl) (fun _ _ _ h => h) (by rfl) (fun w' hw' => ?_) hT (listed' := #[true, false, true, false, false, false, false]) (by kernel_rfl) rfl ?_
     ·obtain ⟨g1, g2, g3⟩ := hw'; go_simp
     simp only [List.setIfInBounds_toArray, List.set_cons_zero, List.set_cons_succ]
     refine M_take 1 43 (.slice (some ⟨q, 0, none⟩) E ec) _ rfl rfl (by kernel_rfl) (by kernel_rfl) (by kernel_rfl) (by kernel_rfl) (by kernel_rfl) (fun _ _ _ h => h) (by rfl) (fun w' hw' => ?_) hT (listed' := #[true, true, true, false, false, false, false]) (by kernel_rfl) rfl ?_
     ·obtain ⟨g1, g2, g3⟩ := hw'; go_simp
     simp only [List.setIfInBounds_toArray, List.set_cons_zero, List.set_cons_succ]
     refine M_take 3 45 (.agg #[.string m0, .slice a3 nF c3]) _ rfl rfl (by kernel_rfl) (by kernel_rfl) (by kernel_rfl) (by kernel_rfl) (by kernel_rfl) (fun _ _ _ h => h) (by rfl) (fun w' hw' => ?_) hT (listed' := #[true, true, true, true, false, false, false]) (by kernel_rfl) rfl ?_
     ·obtain ⟨g1, g2, g3⟩ := hw'; go_simp
     simp only [List.setIfInBounds_toArray, List.set_cons_zero, List.set_cons_succ]
     refine M_call 4 46 35 #[.agg #[.string m0, .slice a3 nF c3]] rfl rfl (by kernel_rfl) (by rfl) (listed' := #[true, true, true, true, true, false, false]) (by kernel_rfl) (fun W => by go_simp) ?_
     refine (canonE_any (m := ⟨m0, mf⟩) HF5.out HFl.out).mono ?_
     rintro e W6 ⟨uf, rfl, ho1, hb6⟩
     have hT := hTW W6 hb6
     obtain ⟨fa, fc, hu⟩ := own_form ho1
     subst hu
     refine ⟨_, rfl, hT, ?_⟩
     simp only [List.setIfInBounds_toArray, List.set_cons_zero, List.set_cons_succ]
     simp only at ho1 ⊢
     have HCL : Hid ((canonE ⟨m0, mf⟩).values.length = mf.length) := srtF_len _ _
     have HO1 : Hid (W6.ownsRow W5.heap.size 96 2 (.slice fa mf.length fc) (canonE ⟨m0, mf⟩).values.length (nmRows (canonE ⟨m0, mf⟩).values).flatten) := by show World.ownsRow _ _ _ _ _ _ _; rw [HCL.out]; exact ho1
     have HE6 : Hid (EnP W6 B (.slice (some ⟨q, 0, none⟩) E ec) (es.map canonE) erows i rows pe) := HE5'.out.below hb6
     have BX6 := BX5.below hb6
     have BR6 := BR5.below hb6
     have HM6 : Hid (MsO W6 B (.slice ma k mc) (ms.map canonM) ps) := HM5'.out.below hb6
     have HT6 : Hid (W6.ownsRow B 46 3 (.slice ta T tc) T (mtRows ts).flatten) := own_below HT5'.out hb6
     have hbel6 : Below w.heap.size w W6 := hbel5.trans (hb6.mono hbel5.size)
     have hstep := HE6.out.step HCE.out HCK.out HBW.out HO1.out
     have hown := HE6.out.own
     rw [HCE.out] at hown
     obtain ⟨rk, hrk⟩ : ∃ r, rows[i]? = some r := ⟨_, List.getElem?_eq_getElem (by rw [HE6.out.rl, HCE.out]; exact hlt)⟩
     have hw3 := HE6.out.wide rk (List.mem_of_getElem? hrk)
     obtain ⟨r0, r1, hr3⟩ : ∃ a b, rk = [a, b] := by
      match rk, hw3 with
      | [a, b], _ => exact ⟨a, b, rfl⟩
     subst hr3
     have c0 := own_at HE6.out.wide hown hrk (j := 0) rfl
     have c1 := own_at HE6.out.wide hown hrk (j := 1) rfl
     rw [Nat.add_zero] at c0
     have f0 := own_froz hown (i * 2)
     have f1 := own_froz hown (i * 2 + 1)
     have HST : Hid _ := hstep
     clear hstep hown hrk hw3 ho1
     refine M_run 5 47 (.pointer (some ⟨q, i * 2, none⟩)) (W6) rfl rfl (by kernel_rfl) (by rfl) (listed' := #[true, true, true, true, true, true, false]) (by kernel_rfl) (by go_simp) hT ?_
     simp only [List.setIfInBounds_toArray, List.set_cons_zero, List.set_cons_succ]
     refine M_store 6 ((W6.setCell ⟨q, i * 2, none⟩ (.string m0)).setCell ⟨q, i * 2 + 1, none⟩ (.slice fa mf.length fc)) rfl rfl (by kernel_rfl) (by rfl) (listed' := #[true, true, true, true, true, true, true]) (by kernel_rfl) (by go_simp) (by kernel_rfl) ?_
     refine M_done (by kernel_rfl) ?_ _
     obtain ⟨hst, KS⟩ := HST.out
     have HE7 : Hid (EnP ((W6.setCell ⟨q, i * 2, none⟩ (.string m0)).setCell ⟨q, i * 2 + 1, none⟩ (.slice fa mf.length fc)) B (.slice (some ⟨q, 0, none⟩) E ec) (es.map canonE) erows (i + 1) (rows.set i [.string m0, .slice fa mf.length fc]) (pe ++ [.slice fa mf.length fc])) := hst
     have KS : Kp (fun b => b = q) W6 ((W6.setCell ⟨q, i * 2, none⟩ (.string m0)).setCell ⟨q, i * 2 + 1, none⟩ (.slice fa mf.length fc)) := KS
     have hne : ∀ b, b < B → ¬ b = q := fun b hb => by have := HQ.out; omega
     have BX7 := BX6.kp KS (hne _ (by have := HSZ.out; omega))
     have BR7 := BR6.kp KS (hne _ (by have := HSZ.out; omega))
     have howm := HE6.out.own
     have HM7 : Hid (MsO ((W6.setCell ⟨q, i * 2, none⟩ (.string m0)).setCell ⟨q, i * 2 + 1, none⟩ (.slice fa mf.length fc)) B (.slice ma k mc) (ms.map canonM) ps) := ⟨HM6.out.len, own_kpV HM6.out.own KS (fun b hb e => by subst e; exact own_apart howm HM6.out.own (by decide) b rfl hb), fun j m p hm hp => ⟨own_kpV (HM6.out.each j m p hm hp).1 KS (fun b hb e => by subst e; exact own_apart howm (HM6.out.each j m p hm hp).1 (by decide) b rfl hb), own_kpV (HM6.out.each j m p hm hp).2 KS (fun b hb e => by subst e; exact own_apart howm (HM6.out.each j m p hm hp).2 (by decide) b rfl hb)⟩, HM6.out.apart⟩
     have HT7 : Hid (((W6.setCell ⟨q, i * 2, none⟩ (.string m0)).setCell ⟨q, i * 2 + 1, none⟩ (.slice fa mf.length fc)).ownsRow B 46 3 (.slice ta T tc) T (mtRows ts).flatten) := own_kpV HT6.out KS (fun b hb e => by subst e; exact own_apart howm HT6.out (by decide) b rfl hb)
     have hbel7 : Below w.heap.size w ((W6.setCell ⟨q, i * 2, none⟩ (.string m0)).setCell ⟨q, i * 2 + 1, none⟩ (.slice fa mf.length fc)) := hbel6.trans (KS.toBelow hbel6.size (fun b e => by have := HQ.out; have := HSZ.out; have := HBZ.out; omega))
     generalize ((W6.setCell ⟨q, i * 2, none⟩ (.string m0)).setCell ⟨q, i * 2 + 1, none⟩ (.slice fa mf.length fc)) = W7 at *
     clear hst KS HST BX6 BR6 HE6 HT6 HM6 hbel6 c0 c1 f0 f1 howm HO1 HM5' HE5' HT5' BX5 BR5 hT hTW BM0 hbel5
     go_wp2_with fail
     go_roundw
     case rel => exact ⟨i + 1, _, _, by go_num, by omega, HE7, HM7, HT7, BX7, BR7, hbel7⟩
     case measure => simp [intOf]; omega
    ·obtain rfl : i = E := by omega
     have HES : Hid (EnO wr B (.slice ea i ec) (es.map canonE) pe) := by
      have := HEK.out
      rw [← HCE.out] at this
      have := this.all
      rw [HCE.out] at this
      exact this
     clear HEK
     have x0 := (BX.cell 0).trans rfl
     have x1 := (BX.cell 1).trans rfl
     have x2 := (BX.cell 2).trans rfl
     have x3 := (BX.cell 3).trans rfl
     have r0 := (BR.cell 0).trans rfl
     have r1 := (BR.cell 1).trans rfl
     have r2 := (BR.cell 2).trans rfl
     have r3 := (BR.cell 3).trans rfl
     have s0 := BR.froz 0
     have s1 := BR.froz 1
     have s2 := BR.froz 2
     have s3 := BR.froz 3
     have hkM : ¬ (i : Int) < (i : Int) := by omega
     go_wp2_with fail
     refine bodyPost_ret (results_cell rfl _ _ _ ⟨b0 + 1, 0, none⟩ (.agg #[.string nm, .slice ma k mc, .slice ea i ec, .slice ta T tc]) (by go_simp) (by go_simp)) rfl ?_
     have KS : Kp (fun b => b = b0 + 1) wr ((((wr.setCell ⟨b0 + 1, 0, none⟩ (.string nm)).setCell ⟨b0 + 1, 1, none⟩ (.slice ma k mc)).setCell ⟨b0 + 1, 2, none⟩ (.slice ea i ec)).setCell ⟨b0 + 1, 3, none⟩ (.slice ta T tc)) := by
      refine Kp.setCell ?_ (fun _ => by simp) _
      refine Kp.setCell ?_ (fun _ => by simp) _
      refine Kp.setCell ?_ (fun _ => by simp) _
      refine Kp.setCell ?_ (fun _ => by simp) _
      exact Kp.refl _ _
     have hle : w.heap.size ≤ B := by have := HSZ.out; have := HBZ.out; omega
     have hq : ∀ b, B ≤ b → ¬ b = b0 + 1 := fun b hb => by have := HSZ.out; omega
     refine ⟨_, _, _, rfl, ⟨ps, ?_⟩, ⟨pe, ?_⟩, ?_, hbel.trans (KS.toBelow hbel.size (fun b e => by have := HBZ.out; omega))⟩
     ·exact (HMS.out.kp KS hq).base hle
     ·exact (HES.out.kp KS hq).base hle
     ·exact own_base (own_kp HTK.out KS hq) hle
theorem canon_w {s : ScS} (h : ScW s) : ScW (canonS s) := by
 refine ⟨h.name, fun m hm => ?_, fun e he => ?_, h.meths⟩
 ·obtain ⟨m', hm', rfl⟩ := List.mem_map.1 hm
  have := h.msgs m' hm'
  exact ⟨this.1, fun f hf => this.2.1 f ((srtF_mem _ _ _).1 hf), fun n hn => this.2.2 n ((srtF_mem _ _ _).1 hn)⟩
 ·obtain ⟨m', hm', rfl⟩ := List.mem_map.1 he
  have := h.enums m' hm'
  exact ⟨this.1, fun f hf => this.2 f ((srtF_mem _ _ _).1 hf)⟩
theorem canon_few {s : ScS} (h : FewL s) : FewL (canonS s) := by
 refine ⟨by simpa [canonS] using h.msgs, by simpa [canonS] using h.enums, h.meths, fun m hm => ?_, fun e he => ?_⟩
 ·obtain ⟨m', hm', rfl⟩ := List.mem_map.1 hm
  have := h.flds m' hm'
  exact ⟨by rw [show (canonM m').fields.length = m'.fields.length from srtF_len _ _]; exact this.1, by rw [show (canonM m').reserved.length = m'.reserved.length from srtF_len _ _]; exact this.2⟩
 ·obtain ⟨m', hm', rfl⟩ := List.mem_map.1 he
  rw [show (canonE m').values.length = m'.values.length from srtF_len _ _]
  exact h.vals m' hm'
def sHead (n : ByteArray) : List UInt8 := [115, 99, 104, 101, 109, 97, 32] ++ n.data.toList ++ [59, 10]
theorem shead_pieces (n : ByteArray) : piecesL [⟨#[115, 99, 104, 101, 109, 97, 32]⟩, n, ⟨#[59]⟩] ++ [10] = sHead n := by simp [piecesL, sHead]
theorem meth_pieces (m : MtS) : piecesL [⟨#[99, 97, 108, 108, 32]⟩, m.name, ⟨#[40]⟩, m.inn, ⟨#[41, 32, 114, 101, 116, 117, 114, 110, 115, 32, 40]⟩, m.out, ⟨#[41, 59]⟩] ++ [10] = methL m := by simp [piecesL, methL]
theorem textL_eq (n : ByteArray) (ms : List MsS) (es : List EnS) (ts : List MtS) : textL ⟨n, ms, es, ts⟩ = sHead n ++ (ms.map msgL).flatten ++ (es.map enumL).flatten ++ (ts.map methL).flatten := by simp [textL, sHead]
set_option maxHeartbeats 4000000 in
theorem print_any {w : World} {v : Value} {s : ScS} (hr : ScIn w v s) (hf : FewL s) (hv : ∀ e ∈ s.enums, e.values.length ≤ capN) (hw : ScW s) (ht : PTab w) (hlen : (printL s).length ≤ 1000000000) :
  Calls Tryz.prog 8 #[v] w fun e w' => e = .returned (.string (printB s)) ∧ Below w.heap.size w w' := by
 have HR : Hid (ScIn w v s) := hr
 obtain ⟨vm0, ve0, vt0, rfl, hm, he, hmt⟩ := hr
 obtain ⟨am, cm, rfl, qm1, qm2⟩ := hm.form2
 obtain ⟨ae, ce, rfl, qe1, qe2⟩ := he.form2
 obtain ⟨at', ct, rfl, qt1, qt2⟩ := hmt.form2
 have HF : Hid (FewL s) := hf
 have HV : Hid (∀ e ∈ s.enums, e.values.length ≤ capN) := hv
 have HW : Hid (ScW (canonS s)) := canon_w hw
 have HFC : Hid (FewL (canonS s)) := canon_few hf
 have HT : Hid (PTab w) := ht
 have HL : Hid ((textL (canonS s)).length ≤ 1000000000) := hlen
 have HPR : Hid (printB s = ⟨(textL (canonS s)).toArray⟩) := rfl
 clear hm he hmt hf hv hw ht hlen qm1 qm2 qe1 qe2 qt1 qt2
 generalize hN0 : s.name = nm at *
 generalize s.msgs.length = M0 at *
 generalize s.enums.length = E0 at *
 generalize (mtRows s.methods).length = T0 at *
 have HAL : Hid (Below w.heap.size w (w.alloc (.cells #[.string nm, .slice am M0 cm, .slice ae E0 ce, .slice at' T0 ct] 27))) := (Below.refl _ _).alloc (Nat.le_refl _) _
 have BX0 : Blk (w.alloc (.cells #[.string nm, .slice am M0 cm, .slice ae E0 ce, .slice at' T0 ct] 27)) w.heap.size #[.string nm, .slice am M0 cm, .slice ae E0 ce, .slice at' T0 ct] 27 := Blk.new w _ _
 go_enter Tryz.func8, Tryz.ntmps8
 go_wp2_with fail
 refine (canon_any (HR.out.below HAL.out) HF.out HV.out).mono ?_
 rintro e w1 ⟨vm, ve, vt, pm, pe, rfl, hMO, hEO, hTO, hb1⟩
 rw [hN0]
 obtain ⟨ma, mc, rfl⟩ := own_form hMO.own
 obtain ⟨ea, ec, rfl⟩ := own_form hEO.own
 obtain ⟨ta, tc, rfl⟩ := own_form hTO
 have HNM : Hid ((canonS s).name = nm) := hN0
 have HMO : Hid (MsO w1 (w.heap.size + 1) (.slice ma (canonS s).msgs.length mc) (canonS s).msgs pm) := by
  have := hMO
  rw [show (w.alloc (.cells #[.string nm, .slice am M0 cm, .slice ae E0 ce, .slice at' T0 ct] 27)).heap.size = w.heap.size + 1 by simp] at this
  exact this
 have HEO : Hid (EnO w1 (w.heap.size + 1) (.slice ea (canonS s).enums.length ec) (canonS s).enums pe) := by
  have := hEO
  rw [show (w.alloc (.cells #[.string nm, .slice am M0 cm, .slice ae E0 ce, .slice at' T0 ct] 27)).heap.size = w.heap.size + 1 by simp] at this
  exact this
 have HTO : Hid (w1.ownsRow (w.heap.size + 1) 46 3 (.slice ta (canonS s).methods.length tc) (canonS s).methods.length (mtRows (canonS s).methods).flatten) := by
  have := hTO
  rw [show (w.alloc (.cells #[.string nm, .slice am M0 cm, .slice ae E0 ce, .slice at' T0 ct] 27)).heap.size = w.heap.size + 1 by simp] at this
  exact this
 have hTS : s.methods.length = (canonS s).methods.length := rfl
 rw [hTS]
 clear hMO hEO hTO hN0 HR HF HV hTS
 generalize canonS s = s' at *
 obtain ⟨nm', ms, es, ts⟩ := s'
 have HW : Hid (ScW ⟨nm', ms, es, ts⟩) := HW
 have HFC : Hid (FewL ⟨nm', ms, es, ts⟩) := HFC
 have HL : Hid ((sHead nm' ++ (ms.map msgL).flatten ++ (es.map enumL).flatten ++ (ts.map methL).flatten).length ≤ 1000000000) := by show _ ≤ _; rw [← textL_eq]; exact HL.out
 have HPR : Hid (printB s = ⟨(sHead nm' ++ (ms.map msgL).flatten ++ (es.map enumL).flatten ++ (ts.map methL).flatten).toArray⟩) := by show _ = _; rw [← textL_eq]; exact HPR.out
 have hnm : nm' = nm := HNM.out
 subst hnm
 clear HNM
 simp only
 have HMO : Hid (MsO w1 (w.heap.size + 1) (.slice ma ms.length mc) ms pm) := HMO
 have HEO : Hid (EnO w1 (w.heap.size + 1) (.slice ea es.length ec) es pe) := HEO
 have HTO : Hid (w1.ownsRow (w.heap.size + 1) 46 3 (.slice ta ts.length tc) ts.length (mtRows ts).flatten) := HTO
 generalize hM : ms.length = M at *
 have HNMs : Hid (ms.length = M) := hM
 clear hM
 generalize hE : es.length = E at *
 have HNE : Hid (es.length = E) := hE
 clear hE
 generalize hTT : ts.length = T at *
 have HNT : Hid (ts.length = T) := hTT
 clear hTT
 have hbw : Below w.heap.size w w1 := HAL.out.trans (hb1.mono HAL.out.size)
 have BX1 := BX0.below hb1
 obtain ⟨b0, hb0⟩ : ∃ n, w.heap.size = n := ⟨_, rfl⟩
 have HBZ : Hid (w.heap.size = b0) := hb0
 rw [hb0] at BX1 ⊢
 rw [hb0] at HMO HEO HTO
 clear hb0 hb1 BX0 HAL
 have x0 := (BX1.cell 0).trans rfl
 have x1 := (BX1.cell 1).trans rfl
 have x2 := (BX1.cell 2).trans rfl
 have x3 := (BX1.cell 3).trans rfl
 have z0 := BX1.froz 0
 have z1 := BX1.froz 1
 have z2 := BX1.froz 2
 have z3 := BX1.froz 3
 have KS : Kp (fun k => k = b0) w1 ((((w1.setCell ⟨b0, 0, none⟩ (.string nm')).setCell ⟨b0, 1, none⟩ (.slice ma M mc)).setCell ⟨b0, 2, none⟩ (.slice ea E ec)).setCell ⟨b0, 3, none⟩ (.slice ta T tc)) := by
  refine Kp.setCell ?_ (fun _ => by simp) _
  refine Kp.setCell ?_ (fun _ => by simp) _
  refine Kp.setCell ?_ (fun _ => by simp) _
  refine Kp.setCell ?_ (fun _ => by simp) _
  exact Kp.refl _ _
 have BA : Blk (w1.setCell ⟨b0, 0, none⟩ (.string nm')) b0 _ 27 := BX1.set 0 (.string nm') rfl
 have BB : Blk ((w1.setCell ⟨b0, 0, none⟩ (.string nm')).setCell ⟨b0, 1, none⟩ (.slice ma M mc)) b0 _ 27 := BA.set 1 (.slice ma M mc) rfl
 have BC : Blk (((w1.setCell ⟨b0, 0, none⟩ (.string nm')).setCell ⟨b0, 1, none⟩ (.slice ma M mc)).setCell ⟨b0, 2, none⟩ (.slice ea E ec)) b0 _ 27 := BB.set 2 (.slice ea E ec) rfl
 have BX2 : Blk ((((w1.setCell ⟨b0, 0, none⟩ (.string nm')).setCell ⟨b0, 1, none⟩ (.slice ma M mc)).setCell ⟨b0, 2, none⟩ (.slice ea E ec)).setCell ⟨b0, 3, none⟩ (.slice ta T tc)) b0 #[.string nm', .slice ma M mc, .slice ea E ec, .slice ta T tc] 27 := BC.set 3 (.slice ta T tc) rfl
 clear BA BB BC
 have hq : ∀ k, b0 + 1 ≤ k → ¬ k = b0 := fun k hk => by omega
 have HMI : Hid (MsIn ((((w1.setCell ⟨b0, 0, none⟩ (.string nm')).setCell ⟨b0, 1, none⟩ (.slice ma M mc)).setCell ⟨b0, 2, none⟩ (.slice ea E ec)).setCell ⟨b0, 3, none⟩ (.slice ta T tc)) (.slice ma M mc) ms) := (HMO.out.kp KS hq).to_in
 have HEI : Hid (EnIn ((((w1.setCell ⟨b0, 0, none⟩ (.string nm')).setCell ⟨b0, 1, none⟩ (.slice ma M mc)).setCell ⟨b0, 2, none⟩ (.slice ea E ec)).setCell ⟨b0, 3, none⟩ (.slice ta T tc)) (.slice ea E ec) es) := (HEO.out.kp KS hq).to_in
 have HTI : Hid (RowG ((((w1.setCell ⟨b0, 0, none⟩ (.string nm')).setCell ⟨b0, 1, none⟩ (.slice ma M mc)).setCell ⟨b0, 2, none⟩ (.slice ea E ec)).setCell ⟨b0, 3, none⟩ (.slice ta T tc)) (.slice ta T tc) 3 (mtRows ts)) := (RowG.own (mtr_len ts) (by decide) (own_kp HTO.out KS hq)).1
 have hbw2 : Below w.heap.size w ((((w1.setCell ⟨b0, 0, none⟩ (.string nm')).setCell ⟨b0, 1, none⟩ (.slice ma M mc)).setCell ⟨b0, 2, none⟩ (.slice ea E ec)).setCell ⟨b0, 3, none⟩ (.slice ta T tc)) := hbw.trans (KS.toBelow hbw.size (fun k e => by have := HBZ.out; omega))
 have HTW : Hid (PTab ((((w1.setCell ⟨b0, 0, none⟩ (.string nm')).setCell ⟨b0, 1, none⟩ (.slice ma M mc)).setCell ⟨b0, 2, none⟩ (.slice ea E ec)).setCell ⟨b0, 3, none⟩ (.slice ta T tc))) := HT.out.below hbw2
 clear KS hq HMO HEO HTO hbw HT BX1
 go_upto_region 2 with fail
 clear x0 x1 x2 x3 z0 z1 z2 z3
 generalize ((((w1.setCell ⟨b0, 0, none⟩ (.string nm')).setCell ⟨b0, 1, none⟩ (.slice ma M mc)).setCell ⟨b0, 2, none⟩ (.slice ea E ec)).setCell ⟨b0, 3, none⟩ (.slice ta T tc)) = w2 at *
 have x0 : ∀ o, (w2.alloc o).cell? ⟨b0, 0, none⟩ = some (.string nm') := fun o => ((BX2.below ((Below.refl _ _).alloc (Nat.le_refl _) o)).cell 0).trans rfl
 have hlt0 := BX2.lt
 have hM14 : M ≤ 14 := by have := HFC.out.msgs; have h2 := HNMs.out; simp only at this; omega
 have hE10 : E ≤ 10 := by have := HFC.out.enums; have h2 := HNE.out; simp only at this; omega
 have hT10 : T ≤ 10 := by have := HFC.out.meths; have h2 := HNT.out; simp only at this; omega
 go_wp2_with fail
 clear x0
 have hal : ∀ (W : World) (cs : Array Value), Below W.heap.size W (W.alloc (.cells cs 9)) := fun W cs => (Below.refl _ _).alloc (Nat.le_refl _) _
 have HPN : Hid (Pg w2 w2.heap.size [] (w2.alloc (.cells #[.pointer none, .slice none 0 0] 52))) := Pg.new (Below.refl _ _)
 refine (line_any (n := 3) (ps := [⟨#[115, 99, 104, 101, 109, 97, 32]⟩, nm', ⟨#[59]⟩]) (HPN.out.below (hal _ _)) (Blk.newAt (b := w2.heap.size + 1) (by simp)) rfl (by decide) (by
  have h1 := HL.out
  have h2 : (piecesL [⟨#[115, 99, 104, 101, 109, 97, 32]⟩, nm', ⟨#[59]⟩] ++ [10]).length = (sHead nm').length := by rw [shead_pieces nm']
  simp only [List.length_append, List.length_cons, List.length_nil] at h1 h2 ⊢
  omega)).mono ?_
 rintro e w3 ⟨rfl, hp3, _⟩
 have HP3 : Hid (Pg w2 w2.heap.size (sHead nm' ++ ((ms.take 0).map msgL).flatten) w3) := by
  show Pg _ _ _ _
  rw [List.take_zero, List.map_nil, List.flatten_nil, List.append_nil, ← shead_pieces nm']
  exact hp3
 clear hp3 HPN
 obtain ⟨b, hbe⟩ : ∃ n, w2.heap.size = n := ⟨_, rfl⟩
 rw [hbe] at HP3 ⊢
 clear hbe
 have HBX : Hid (∀ W, Below w2.heap.size w2 W → Blk W b0 #[.string nm', .slice ma M mc, .slice ea E ec, .slice ta T tc] 27) := fun W hW => BX2.below hW
 clear BX2
 have x1 := ((HBX.out w3 HP3.out.bel).cell 1).trans rfl
 go_wp2_with fail
 clear x1
 go_loopw [19] (fun iv wr => ∃ k : Nat, iv = .int .i64 (k : Int) ∧ k ≤ M ∧ Hid (Pg w2 b (sHead nm' ++ ((ms.take k).map msgL).flatten) wr)) (fun iv _ => M - (intOf iv).toNat)
 case atStart => exact ⟨0, rfl, by omega, HP3⟩
 case round =>
  obtain ⟨k, rfl, hk, HPk⟩ := hrel
  clear HP3
  by_cases hlt : k < M
  ·obtain ⟨m, hm⟩ : ∃ n, ms[k]? = some n := ⟨_, List.getElem?_eq_getElem (by rw [HNMs.out]; exact hlt)⟩
   obtain ⟨g, off, vf, vr, rfl, c0, c1, c2, hrf, hrr⟩ := HMI.out.get hm
   have c0 := (HPk.out.bel.cell (World.block_lt_of_cell? _ _ c0)).trans c0
   have c1 := (HPk.out.bel.cell (World.block_lt_of_cell? _ _ c1)).trans c1
   have c2 := (HPk.out.bel.cell (World.block_lt_of_cell? _ _ c2)).trans c2
   have HMW : Hid (MsW m) := HW.out.msgs m (List.mem_of_getElem? hm)
   have HRN : Hid (m.reserved.length ≤ 1000) := by have := HFC.out.flds m (List.mem_of_getElem? hm); show _ ≤ _; omega
   have HTK : Hid (((ms.take (k + 1)).map msgL).flatten = ((ms.take k).map msgL).flatten ++ msgL m) := map_take msgL hm
   have HLE : Hid ((sHead nm' ++ ((ms.take k).map msgL).flatten).length + (msgL m).length ≤ 1000000000) := by
    have h1 := HL.out
    have h2 := map_take_le msgL ms (k + 1)
    rw [HTK.out, List.length_append] at h2
    simp only [List.length_append] at h1 h2
    show _ ≤ _
    simp only [List.length_append]
    omega
   have HRF : Hid (RowG w2 vf 5 (flRows m.fields)) := hrf
   have HRR : Hid (RowG w2 vr 1 (inRows m.reserved)) := hrr
   obtain ⟨a3, c3, hv3, _, _⟩ := hrf.form2
   subst hv3
   obtain ⟨a4, c4, hv4, _, _⟩ := hrr.form2
   subst hv4
   generalize hm0 : m.name = m0 at *
   have HM0 : Hid (m.name = m0) := hm0
   generalize (flRows m.fields).length = nF at *
   generalize (inRows m.reserved).length = nR at *
   clear hrf hrr hm hm0
   have hkn : (k : Int) < (M : Int) := by omega
   go_wp2_with fail
   clear c0 c1 c2
   have hbx : Below wr.heap.size wr (wr.alloc (.cells #[.string m0, .slice a3 nF c3, .slice a4 nR c4] 40)) := (Below.refl _ _).alloc (Nat.le_refl _) _
   have HMA := message_any (m := m) (HPk.out.below hbx) HRF.out HRR.out HTW.out HMW.out HRN.out HLE.out
   rw [HM0.out] at HMA
   refine HMA.mono ?_
   rintro e w5 ⟨rfl, hp5, _⟩
   have HP5 : Hid (Pg w2 b (sHead nm' ++ ((ms.take (k + 1)).map msgL).flatten) w5) := by
    show Pg _ _ _ _
    rw [HTK.out, ← List.append_assoc]
    exact hp5
   clear hp5 HMA hbx HPk
   go_wp2_with fail
   go_roundw
   case rel => exact ⟨k + 1, by go_num, by omega, HP5⟩
   case measure => simp [intOf]; omega
  ·obtain rfl : k = M := by omega
   have hkn : ¬ (k : Int) < (k : Int) := by omega
   have HP3 : Hid (Pg w2 b (sHead nm' ++ (ms.map msgL).flatten ++ ((es.take 0).map enumL).flatten) wr) := by
    have := HPk.out
    rw [List.take_of_length_le (by rw [HNMs.out]; omega)] at this
    show Pg _ _ _ _
    rw [List.take_zero, List.map_nil, List.flatten_nil, List.append_nil]
    exact this
   clear HPk
   have x2 := ((HBX.out wr HP3.out.bel).cell 2).trans rfl
   go_wp2_with fail
   clear x2
   go_loopw [29] (fun iv wr => ∃ i : Nat, iv = .int .i64 (i : Int) ∧ i ≤ E ∧ Hid (Pg w2 b (sHead nm' ++ (ms.map msgL).flatten ++ ((es.take i).map enumL).flatten) wr)) (fun iv _ => E - (intOf iv).toNat)
   case atStart => exact ⟨0, rfl, by omega, HP3⟩
   case round =>
    obtain ⟨i, rfl, hi, HPk⟩ := hrel
    clear HP3
    by_cases hlt : i < E
    ·obtain ⟨m, hm⟩ : ∃ n, es[i]? = some n := ⟨_, List.getElem?_eq_getElem (by rw [HNE.out]; exact hlt)⟩
     obtain ⟨g, off, vf, rfl, c0, c1, hrf⟩ := HEI.out.get hm
     have c0 := (HPk.out.bel.cell (World.block_lt_of_cell? _ _ c0)).trans c0
     have c1 := (HPk.out.bel.cell (World.block_lt_of_cell? _ _ c1)).trans c1
     have HMW : Hid (EnW m) := HW.out.enums m (List.mem_of_getElem? hm)
     have HTK : Hid (((es.take (i + 1)).map enumL).flatten = ((es.take i).map enumL).flatten ++ enumL m) := map_take enumL hm
     have HLE : Hid ((sHead nm' ++ (ms.map msgL).flatten ++ ((es.take i).map enumL).flatten).length + (enumL m).length ≤ 1000000000) := by
      have h1 := HL.out
      have h2 := map_take_le enumL es (i + 1)
      rw [HTK.out, List.length_append] at h2
      simp only [List.length_append] at h1 h2
      show _ ≤ _
      simp only [List.length_append]
      omega
     have HRF : Hid (RowG w2 vf 2 (nmRows m.values)) := hrf
     obtain ⟨a3, c3, hv3, _, _⟩ := hrf.form2
     subst hv3
     generalize hm0 : m.name = m0 at *
     have HM0 : Hid (m.name = m0) := hm0
     generalize (nmRows m.values).length = nF at *
     clear hrf hm hm0
     have hkn : (i : Int) < (E : Int) := by omega
     go_wp2_with fail
     clear c0 c1
     have hbx : Below wr.heap.size wr (wr.alloc (.cells #[.string m0, .slice a3 nF c3] 44)) := (Below.refl _ _).alloc (Nat.le_refl _) _
     have HMA := enum_any (m := m) (HPk.out.below hbx) HRF.out HTW.out HMW.out HLE.out
     rw [HM0.out] at HMA
     refine HMA.mono ?_
     rintro e w5 ⟨rfl, hp5, _⟩
     have HP5 : Hid (Pg w2 b (sHead nm' ++ (ms.map msgL).flatten ++ ((es.take (i + 1)).map enumL).flatten) w5) := by
      show Pg _ _ _ _
      rw [HTK.out, ← List.append_assoc]
      exact hp5
     clear hp5 HMA hbx HPk
     go_wp2_with fail
     go_roundw
     case rel => exact ⟨i + 1, by go_num, by omega, HP5⟩
     case measure => simp [intOf]; omega
    ·obtain rfl : i = E := by omega
     have hkn : ¬ (i : Int) < (i : Int) := by omega
     have HP3 : Hid (Pg w2 b (sHead nm' ++ (ms.map msgL).flatten ++ (es.map enumL).flatten ++ ((ts.take 0).map methL).flatten) wr) := by
      have := HPk.out
      rw [List.take_of_length_le (by rw [HNE.out]; omega)] at this
      show Pg _ _ _ _
      rw [List.take_zero, List.map_nil, List.flatten_nil, List.append_nil]
      exact this
     clear HPk
     have x3 := ((HBX.out wr HP3.out.bel).cell 3).trans rfl
     go_wp2_with fail
     clear x3
     go_loopw [39] (fun iv wr => ∃ j : Nat, iv = .int .i64 (j : Int) ∧ j ≤ T ∧ Hid (Pg w2 b (sHead nm' ++ (ms.map msgL).flatten ++ (es.map enumL).flatten ++ ((ts.take j).map methL).flatten) wr)) (fun iv _ => T - (intOf iv).toNat)
     case atStart => exact ⟨0, rfl, by omega, HP3⟩
     case round =>
      obtain ⟨j, rfl, hj, HPk⟩ := hrel
      clear HP3
      by_cases hlt : j < T
      ·obtain ⟨m, hm⟩ : ∃ n, ts[j]? = some n := ⟨_, List.getElem?_eq_getElem (by rw [HNT.out]; exact hlt)⟩
       have hrr : (mtRows ts)[j]? = some m.cells := by simp [mtRows, hm]
       obtain ⟨g, off, rfl, cc⟩ := (HTI.out.below HPk.out.bel).get hrr
       have HTK : Hid (((ts.take (j + 1)).map methL).flatten = ((ts.take j).map methL).flatten ++ methL m) := map_take methL hm
       have HLE : Hid ((sHead nm' ++ (ms.map msgL).flatten ++ (es.map enumL).flatten ++ ((ts.take j).map methL).flatten).length + (methL m).length ≤ 1000000000) := by
        have h1 := HL.out
        have h2 := map_take_le methL ts (j + 1)
        rw [HTK.out, List.length_append] at h2
        simp only [List.length_append] at h1 h2
        show _ ≤ _
        simp only [List.length_append]
        omega
       have HPL : Hid _ := meth_pieces m
       obtain ⟨f0, f1, f2⟩ := m
       have c0 := cc 0 _ rfl
       have c1 := cc 1 _ rfl
       have c2 := cc 2 _ rfl
       rw [Nat.add_zero] at c0
       clear hm hrr cc
       have hkn : (j : Int) < (T : Int) := by omega
       have hbx : Below wr.heap.size wr (wr.alloc (.cells #[.string f0, .string f1, .string f2] 46)) := (Below.refl _ _).alloc (Nat.le_refl _) _
       have HPX : Hid (Pg w2 b (sHead nm' ++ (ms.map msgL).flatten ++ (es.map enumL).flatten ++ ((ts.take j).map methL).flatten) (wr.alloc (.cells #[.string f0, .string f1, .string f2] 46))) := HPk.out.below hbx
       clear HPk hbx
       go_wp2_with fail
       clear c0 c1 c2
       refine (line_any (n := 7) (ps := [⟨#[99, 97, 108, 108, 32]⟩, f0, ⟨#[40]⟩, f1, ⟨#[41, 32, 114, 101, 116, 117, 114, 110, 115, 32, 40]⟩, f2, ⟨#[41, 59]⟩]) (HPX.out.below (hal _ _)) (Blk.newAt (b := wr.heap.size + 1) (by simp)) rfl (by decide) (by
        have h1 := HLE.out
        rw [← HPL.out] at h1
        simp only [List.length_append, List.length_cons, List.length_nil] at h1 ⊢
        omega)).mono ?_
       rintro e w5 ⟨rfl, hp5, _⟩
       have HP5 : Hid (Pg w2 b (sHead nm' ++ (ms.map msgL).flatten ++ (es.map enumL).flatten ++ ((ts.take (j + 1)).map methL).flatten) w5) := by
        show Pg _ _ _ _
        rw [HTK.out, ← HPL.out, ← List.append_assoc, ← List.append_assoc]
        exact hp5
       clear hp5 HPX
       go_wp2_with fail
       go_roundw
       case rel => exact ⟨j + 1, by go_num, by omega, HP5⟩
       case measure => simp [intOf]; omega
      ·obtain rfl : j = T := by omega
       have hkn : ¬ (j : Int) < (j : Int) := by omega
       have HP3 : Hid (Pg w2 b (sHead nm' ++ (ms.map msgL).flatten ++ (es.map enumL).flatten ++ (ts.map methL).flatten) wr) := by
        have := HPk.out
        rw [List.take_of_length_le (by rw [HNT.out]; omega)] at this
        exact this
       clear HPk
       go_wp2_with fail
       refine (pgString_any HP3.out (by simp [sHead])).mono ?_
       rintro e w6 ⟨rfl, hb6⟩
       rw [← HPR.out]
       have hbf : Below w.heap.size w w6 := hbw2.trans (hb6.mono hbw2.size)
       clear HP3 HPR HL
       generalize hTX : printB s = tx
       have HTX : Hid (printB s = tx) := hTX
       clear hTX
       go_wp2_with fail
       go_ret
       exact ⟨by rw [HTX.out]; rfl, hbf⟩
theorem parse_row (s : ByteArray) (w : World) (hs : s.size ≤ 140737488351232) (hG : Glob w) (sc : ScS) (p e : Nat) (h : parseA s = (sc, p, e)) :
  Calls Tryz.prog 10 #[.string s] w fun x w' => ∃ vm ve vt, x = .returned (.tuple #[.agg #[.string sc.name, vm, ve, vt], .int .i64 (p : Int), .int .i64 (e : Int)]) ∧ MsIn w' vm sc.msgs ∧ EnIn w' ve sc.enums ∧ RowG w' vt 3 (mtRows sc.methods) ∧ Below w.heap.size w w' := by
 refine (parse_any s w hs hG).mono ?_
 rintro x w' ⟨v, rfl, hF, hb⟩
 obtain ⟨vm, ve, vt, rfl, h1, h2, h3⟩ := hF.to_in
 rw [h] at h1 h2 h3 ⊢
 exact ⟨vm, ve, vt, rfl, h1, h2, h3, hb⟩
end Go.Proofs.YtcjfeandnmochaaGreatDoor
namespace Go.Proofs.YtcjfeandnmochaaGreatDoor
set_option linter.unusedVariables false
set_option linter.unusedSimpArgs false
theorem numV_lt : ∀ (l : List UInt8) (n : Nat), l.all digU = true → numV l n < (n + 1) * 10 ^ l.length
 | [], n, _ => by simp [numV]
 | a :: l, n, h => by
  rw [List.all_cons, Bool.and_eq_true] at h
  have h1 := h.1
  unfold digU at h1
  rw [decide_eq_true_eq] at h1
  have h2 := numV_lt l (10 * n + (a.toNat - 48)) h.2
  unfold numV
  rw [List.length_cons, Nat.pow_succ]
  have h3 : (10 * n + (a.toNat - 48) + 1) * 10 ^ l.length ≤ ((n + 1) * 10) * 10 ^ l.length := Nat.mul_le_mul_right _ (by omega)
  have h4 : ((n + 1) * 10) * 10 ^ l.length = (n + 1) * (10 ^ l.length * 10) := by rw [Nat.mul_assoc, Nat.mul_comm 10]
  omega
theorem numA_lt {l : List UInt8} (h : (numA l).2 = true) : (numA l).1 < 10000000000 := by
 unfold numA at h ⊢
 by_cases h1 : l.length < 1 ∨ 10 < l.length ∨ (1 < l.length ∧ headN l = 48)
 ·rw [if_pos h1] at h; cases h
 ·rw [if_neg h1] at h ⊢
  by_cases h2 : l.all digU = true
  ·rw [if_pos h2]
   have h3 := numV_lt l 0 h2
   have h4 : 10 ^ l.length ≤ 10 ^ 10 := Nat.pow_le_pow_right (by decide) (by omega)
   simp only
   omega
  ·rw [if_neg h2] at h; cases h
def Got {α : Type} (k : Nat) (W : α → Prop) (ts : List ByteArray) (x : PR α) : Prop := ∀ a r, x = .inr (a, r) → W a ∧ (∀ t ∈ r, t ∈ ts) ∧ r.length + k ≤ ts.length
theorem Got.bind {α β : Type} {k k2 : Nat} {W : α → Prop} {W2 : β → Prop} {ts : List ByteArray} {x : PR α} {f : α → List ByteArray → PR β} (h : Got k W ts x) (hf : ∀ a r, W a → (∀ t ∈ r, t ∈ ts) → r.length + k ≤ ts.length → Got k2 W2 r (f a r)) : Got (k + k2) W2 ts (pBind x f) := by
 intro b r' e
 cases x with
 | inl n => simp [pBind] at e
 | inr p =>
  obtain ⟨a, r⟩ := p
  obtain ⟨h1, h2, h3⟩ := h a r rfl
  obtain ⟨g1, g2, g3⟩ := hf a r h1 h2 h3 b r' e
  exact ⟨g1, fun t ht => h2 t (g2 t ht), by omega⟩
theorem Got.done {α : Type} {W : α → Prop} {ts : List ByteArray} {a : α} (h : W a) : Got 0 W ts (.inr (a, ts)) := by
 intro b r e
 simp only [Sum.inr.injEq, Prod.mk.injEq] at e
 obtain ⟨rfl, rfl⟩ := e
 exact ⟨h, fun t ht => ht, by omega⟩
theorem Got.no {α : Type} {k : Nat} {W : α → Prop} {ts : List ByteArray} (n : Nat) : Got k W ts (.inl n : PR α) := fun a r e => by cases e
theorem Got.less {α : Type} {k k2 : Nat} {W : α → Prop} {ts : List ByteArray} {x : PR α} (h : Got k W ts x) (hk : k2 ≤ k) : Got k2 W ts x := fun a r e => ⟨(h a r e).1, (h a r e).2.1, by have := (h a r e).2.2; omega⟩
theorem must_got (k : ByteArray) (ts : List ByteArray) : Got 1 (fun _ => True) ts (pMust k ts) := by
 unfold pMust
 by_cases h : pIs k ts = true
 ·rw [if_pos h]
  obtain ⟨t, r, rfl, _⟩ := pIs_cons h
  intro a r' e
  simp only [List.tail_cons, Sum.inr.injEq, Prod.mk.injEq] at e
  obtain ⟨_, rfl⟩ := e
  exact ⟨trivial, fun t' ht => List.mem_cons_of_mem _ ht, by simp⟩
 ·rw [if_neg h]; exact Got.no _
theorem name_got (ts : List ByteArray) : Got 1 (fun n => n ∈ ts) ts (pName ts) := by
 unfold pName
 cases ts with
 | nil => exact Got.no _
 | cons t r =>
  simp only
  split
  ·intro a r' e
   simp only [Sum.inr.injEq, Prod.mk.injEq] at e
   obtain ⟨rfl, rfl⟩ := e
   exact ⟨List.mem_cons_self .., fun t' ht => List.mem_cons_of_mem _ ht, by simp⟩
  ·exact Got.no _
theorem num_got (ts : List ByteArray) : Got 1 (fun n => n < 10000000000) ts (pNum ts) := by
 unfold pNum
 cases ts with
 | nil => exact Got.no _
 | cons t r =>
  simp only
  split
  ·rename_i hn
   intro a r' e
   simp only [Sum.inr.injEq, Prod.mk.injEq] at e
   obtain ⟨rfl, rfl⟩ := e
   exact ⟨numA_lt hn, fun t' ht => List.mem_cons_of_mem _ ht, by simp⟩
  ·exact Got.no _
def SzB (B : Nat) (ts : List ByteArray) : Prop := ∀ t ∈ ts, t.size ≤ B
theorem SzB.sub {B : Nat} {ts r : List ByteArray} (h : SzB B ts) (hr : ∀ t ∈ r, t ∈ ts) : SzB B r := fun t ht => h t (hr t ht)
theorem i64_small {n : Nat} (h : n < 10000000000) : I64 (n : Int) := ⟨by omega, by omega⟩
theorem more_got : ∀ (f : Nat) (acc : List Int) (ts : List ByteArray), (∀ n ∈ acc, I64 n) → ∀ l r, pMore f acc ts = .inr (l, r) → (∀ n ∈ l, I64 n) ∧ (∀ t ∈ r, t ∈ ts) ∧ l.length + r.length ≤ acc.length + ts.length
 | 0, acc, ts, h, l, r, e => by
  have g := Got.bind (must_got kSemi ts) (k2 := 0) (W2 := fun x => x = acc) (f := fun _ r => .inr (acc, r)) (fun _ r _ _ _ => Got.done rfl)
  obtain ⟨rfl, g2, g3⟩ := g l r e
  exact ⟨h, g2, by omega⟩
 | f + 1, acc, ts, h, l, r, e => by
  unfold pMore at e
  split at e
  ·rename_i hc
   obtain ⟨t, r0, rfl, _⟩ := pIs_cons hc
   rw [List.tail_cons] at e
   cases hx : pNum r0 with
   | inl n => rw [hx] at e; simp [pBind] at e
   | inr p =>
    obtain ⟨n, r1⟩ := p
    rw [hx] at e
    obtain ⟨a1, a2, a3⟩ := num_got r0 n r1 hx
    obtain ⟨b1, b2, b3⟩ := more_got f (acc ++ [(n : Int)]) r1 (fun m hm => by
     rcases List.mem_append.1 hm with hm | hm
     ·exact h m hm
     ·rw [List.mem_singleton.1 hm]; exact i64_small a1) l r e
    refine ⟨b1, fun t' ht => List.mem_cons_of_mem _ (a2 t' (b2 t' ht)), ?_⟩
    simp only [List.length_append, List.length_cons, List.length_nil] at b3 ⊢
    omega
  ·have g := Got.bind (must_got kSemi ts) (k2 := 0) (W2 := fun x => x = acc) (f := fun _ r => .inr (acc, r)) (fun _ r _ _ _ => Got.done rfl)
   obtain ⟨rfl, g2, g3⟩ := g l r e
   exact ⟨h, g2, by omega⟩
def FlB (B : Nat) (f : FlS) : Prop := f.name.size ≤ B ∧ f.tname.size ≤ B ∧ I64 f.tag ∧ I64 f.label ∧ I64 f.kind
def NmB (B : Nat) (f : NmS) : Prop := f.name.size ≤ B ∧ I64 f.n
def MtB (B : Nat) (f : MtS) : Prop := f.name.size ≤ B ∧ f.inn.size ≤ B ∧ f.out.size ≤ B
def MsB (B : Nat) (m : MsS) : Prop := m.name.size ≤ B ∧ (∀ f ∈ m.fields, FlB B f) ∧ ∀ n ∈ m.reserved, I64 n
def EnB (B : Nat) (m : EnS) : Prop := m.name.size ≤ B ∧ ∀ f ∈ m.values, NmB B f
theorem scal_le (t : ByteArray) : scalN t ≤ 5 := by
 unfold scalN
 repeat' split
 all_goals decide
theorem type_got {B : Nat} {ts : List ByteArray} (h : SzB B ts) : Got 1 (fun x : Int × ByteArray => I64 x.1 ∧ x.2.size ≤ B) ts (pType ts) := by
 unfold pType
 cases ts with
 | nil => exact Got.no _
 | cons t r =>
  simp only
  split
  ·intro a r' e
   simp only [Sum.inr.injEq, Prod.mk.injEq] at e
   obtain ⟨rfl, rfl⟩ := e
   have := scal_le t
   exact ⟨⟨⟨by simp only; omega, by simp only; omega⟩, Nat.zero_le _⟩, fun t' ht => List.mem_cons_of_mem _ ht, by simp⟩
  ·exact Got.bind (name_got (t :: r)) (k2 := 0) (fun n r1 hn _ _ => Got.done ⟨⟨by simp only; omega, by simp only; omega⟩, h n hn⟩)
theorem label_got (ts : List ByteArray) : I64 (pLabel ts).1 ∧ (∀ t ∈ (pLabel ts).2, t ∈ ts) ∧ (pLabel ts).2.length ≤ ts.length := by
 unfold pLabel
 split
 ·exact ⟨⟨by simp only; omega, by simp only; omega⟩, fun t ht => List.mem_of_mem_tail ht, by simp⟩
 ·split
  ·exact ⟨⟨by simp only; omega, by simp only; omega⟩, fun t ht => List.mem_of_mem_tail ht, by simp⟩
  ·exact ⟨⟨by simp only; omega, by simp only; omega⟩, fun t ht => ht, Nat.le_refl _⟩
theorem field_got {B : Nat} {ts : List ByteArray} (h : SzB B ts) : Got 5 (FlB B) ts (pField ts) := by
 obtain ⟨l1, l2, l3⟩ := label_got ts
 have hs := h.sub l2
 have g : Got (1 + (1 + (1 + (1 + (1 + 0))))) (FlB B) (pLabel ts).2 (pField ts) := by
  unfold pField
  refine Got.bind (type_got hs) (fun ty r1 hty s1 _ => ?_)
  refine Got.bind (name_got r1) (fun n r2 hn s2 _ => ?_)
  refine Got.bind (must_got kEq r2) (fun _ r3 _ s3 _ => ?_)
  refine Got.bind (num_got r3) (fun g r4 hg s4 _ => ?_)
  refine Got.bind (must_got kSemi r4) (fun _ r5 _ s5 _ => ?_)
  exact Got.done ⟨hs n (s1 n hn), hty.2, i64_small hg, l1, hty.1⟩
 intro a r e
 obtain ⟨g1, g2, g3⟩ := g a r e
 exact ⟨g1, fun t ht => l2 t (g2 t ht), by omega⟩
theorem member_got {B : Nat} {m : MsS} {ts : List ByteArray} (hm : MsB B m) (h : SzB B ts) {m' : MsS} {r : List ByteArray} (e : pMember m ts = .inr (m', r)) : MsB B m' ∧ (∀ t ∈ r, t ∈ ts) ∧ m'.fields.length + m'.reserved.length + r.length + 1 ≤ m.fields.length + m.reserved.length + ts.length := by
 unfold pMember at e
 split at e
 ·rename_i hc
  obtain ⟨t, r0, rfl, _⟩ := pIs_cons hc
  rw [List.tail_cons] at e
  cases hx : pNum r0 with
  | inl n => rw [hx] at e; simp [pBind] at e
  | inr p =>
   obtain ⟨n, r1⟩ := p
   rw [hx, pBind_ok] at e
   obtain ⟨a1, a2, a3⟩ := num_got r0 n r1 hx
   cases hy : pMore r1.length (m.reserved ++ [(n : Int)]) r1 with
   | inl n => rw [hy] at e; simp [pBind] at e
   | inr p =>
    obtain ⟨l, r2⟩ := p
    rw [hy, pBind_ok] at e
    simp only [Sum.inr.injEq, Prod.mk.injEq] at e
    obtain ⟨rfl, rfl⟩ := e
    obtain ⟨b1, b2, b3⟩ := more_got r1.length (m.reserved ++ [(n : Int)]) r1 (fun k hk => by
     rcases List.mem_append.1 hk with hk | hk
     ·exact hm.2.2 k hk
     ·rw [List.mem_singleton.1 hk]; exact i64_small a1) l r2 hy
    refine ⟨⟨hm.1, hm.2.1, b1⟩, fun t' ht => List.mem_cons_of_mem _ (a2 t' (b2 t' ht)), ?_⟩
    simp only [List.length_append, List.length_cons, List.length_nil] at b3 ⊢
    omega
 ·cases hx : pField ts with
  | inl n => rw [hx] at e; simp [pBind] at e
  | inr p =>
   obtain ⟨f, r1⟩ := p
   rw [hx, pBind_ok] at e
   simp only [Sum.inr.injEq, Prod.mk.injEq] at e
   obtain ⟨rfl, rfl⟩ := e
   obtain ⟨a1, a2, a3⟩ := field_got h f r1 hx
   refine ⟨⟨hm.1, fun g hg => ?_, hm.2.2⟩, a2, by simp only [List.length_append, List.length_cons, List.length_nil]; omega⟩
   rcases List.mem_append.1 hg with hg | hg
   ·exact hm.2.1 g hg
   ·rw [List.mem_singleton.1 hg]; exact a1
theorem members_got {B : Nat} : ∀ (f : Nat) (m : MsS) (ts : List ByteArray), MsB B m → SzB B ts → ∀ m' r, pMembers f m ts = .inr (m', r) → MsB B m' ∧ (∀ t ∈ r, t ∈ ts) ∧ m'.fields.length + m'.reserved.length + r.length ≤ m.fields.length + m.reserved.length + ts.length
 | 0, m, ts, hm, h, m', r, e => by unfold pMembers at e; cases e
 | f + 1, m, ts, hm, h, m', r, e => by
  unfold pMembers at e
  split at e
  ·simp only [Sum.inr.injEq, Prod.mk.injEq] at e
   obtain ⟨rfl, rfl⟩ := e
   exact ⟨hm, fun t ht => List.mem_of_mem_tail ht, by simp only [List.length_tail]; omega⟩
  ·cases hx : pMember m ts with
   | inl n => rw [hx] at e; simp [pBind] at e
   | inr p =>
    obtain ⟨m1, r1⟩ := p
    rw [hx, pBind_ok] at e
    obtain ⟨a1, a2, a3⟩ := member_got hm h hx
    obtain ⟨b1, b2, b3⟩ := members_got f m1 r1 a1 (h.sub a2) m' r e
    exact ⟨b1, fun t ht => a2 t (b2 t ht), by omega⟩
theorem msg_got {B : Nat} {ts : List ByteArray} (h : SzB B ts) : Got 0 (fun m => MsB B m ∧ m.fields.length + m.reserved.length ≤ ts.length) ts (pMsg ts) := by
 unfold pMsg
 refine Got.less (Got.bind (k2 := 0) (name_got ts) (fun n r hn s1 l1 => ?_)) (Nat.zero_le _)
 refine Got.less (Got.bind (k2 := 0) (must_got kOpen r) (fun _ r2 _ s2 l2 => ?_)) (Nat.zero_le _)
 intro m r' e
 obtain ⟨a1, a2, a3⟩ := members_got _ _ _ (show MsB B ⟨n, [], []⟩ from ⟨h n hn, fun f hf => absurd hf (by simp), fun f hf => absurd hf (by simp)⟩) ((h.sub s1).sub s2) m r' e
 simp only [List.length_nil] at a3
 exact ⟨⟨a1, by omega⟩, a2, by omega⟩
theorem value_got {B : Nat} {ts : List ByteArray} (h : SzB B ts) : Got 4 (NmB B) ts (pValue ts) := by
 have g : Got (1 + (1 + (1 + (1 + 0)))) (NmB B) ts (pValue ts) := by
  unfold pValue
  refine Got.bind (name_got ts) (fun n r2 hn s2 _ => ?_)
  refine Got.bind (must_got kEq r2) (fun _ r3 _ s3 _ => ?_)
  refine Got.bind (num_got r3) (fun g r4 hg s4 _ => ?_)
  refine Got.bind (must_got kSemi r4) (fun _ r5 _ s5 _ => ?_)
  exact Got.done ⟨h n hn, i64_small hg⟩
 exact g
theorem values_got {B : Nat} : ∀ (f : Nat) (m : EnS) (ts : List ByteArray), EnB B m → SzB B ts → ∀ m' r, pValues f m ts = .inr (m', r) → EnB B m' ∧ (∀ t ∈ r, t ∈ ts) ∧ m'.values.length + r.length ≤ m.values.length + ts.length
 | 0, m, ts, hm, h, m', r, e => by unfold pValues at e; cases e
 | f + 1, m, ts, hm, h, m', r, e => by
  unfold pValues at e
  split at e
  ·simp only [Sum.inr.injEq, Prod.mk.injEq] at e
   obtain ⟨rfl, rfl⟩ := e
   exact ⟨hm, fun t ht => List.mem_of_mem_tail ht, by simp only [List.length_tail]; omega⟩
  ·cases hx : pValue ts with
   | inl n => rw [hx] at e; simp [pBind] at e
   | inr p =>
    obtain ⟨v, r1⟩ := p
    rw [hx, pBind_ok] at e
    obtain ⟨a1, a2, a3⟩ := value_got h v r1 hx
    obtain ⟨b1, b2, b3⟩ := values_got f ⟨m.name, m.values ++ [v]⟩ r1 ⟨hm.1, fun g hg => by
     rcases List.mem_append.1 hg with hg | hg
     ·exact hm.2 g hg
     ·rw [List.mem_singleton.1 hg]; exact a1⟩ (h.sub a2) m' r e
    simp only [List.length_append, List.length_cons, List.length_nil] at b3
    exact ⟨b1, fun t ht => a2 t (b2 t ht), by omega⟩
theorem enum_got {B : Nat} {ts : List ByteArray} (h : SzB B ts) : Got 0 (fun m => EnB B m ∧ m.values.length ≤ ts.length) ts (pEnum ts) := by
 unfold pEnum
 refine Got.less (Got.bind (k2 := 0) (name_got ts) (fun n r hn s1 l1 => ?_)) (Nat.zero_le _)
 refine Got.less (Got.bind (k2 := 0) (must_got kOpen r) (fun _ r2 _ s2 l2 => ?_)) (Nat.zero_le _)
 intro m r' e
 obtain ⟨a1, a2, a3⟩ := values_got _ _ _ (show EnB B ⟨n, []⟩ from ⟨h n hn, fun f hf => absurd hf (by simp)⟩) ((h.sub s1).sub s2) m r' e
 simp only [List.length_nil] at a3
 exact ⟨⟨a1, by omega⟩, a2, by omega⟩
theorem call_got {B : Nat} {ts : List ByteArray} (h : SzB B ts) : Got 0 (MtB B) ts (pCall ts) := by
 unfold pCall
 refine Got.less (Got.bind (k2 := 0) (name_got ts) (fun n r1 hn s1 _ => ?_)) (Nat.zero_le _)
 refine Got.less (Got.bind (k2 := 0) (must_got _ r1) (fun _ r2 _ s2 _ => ?_)) (Nat.zero_le _)
 refine Got.less (Got.bind (k2 := 0) (name_got r2) (fun i r3 hi s3 _ => ?_)) (Nat.zero_le _)
 refine Got.less (Got.bind (k2 := 0) (must_got _ r3) (fun _ r4 _ s4 _ => ?_)) (Nat.zero_le _)
 refine Got.less (Got.bind (k2 := 0) (must_got _ r4) (fun _ r5 _ s5 _ => ?_)) (Nat.zero_le _)
 refine Got.less (Got.bind (k2 := 0) (must_got _ r5) (fun _ r6 _ s6 _ => ?_)) (Nat.zero_le _)
 refine Got.less (Got.bind (k2 := 0) (name_got r6) (fun o r7 ho s7 _ => ?_)) (Nat.zero_le _)
 refine Got.less (Got.bind (k2 := 0) (must_got _ r7) (fun _ r8 _ s8 _ => ?_)) (Nat.zero_le _)
 refine Got.less (Got.bind (k2 := 0) (must_got _ r8) (fun _ r9 _ s9 _ => ?_)) (Nat.zero_le _)
 exact Got.done ⟨h n hn, h i (s1 i (s2 i hi)), h o (s1 o (s2 o (s3 o (s4 o (s5 o (s6 o ho))))))⟩
structure ScB (B N : Nat) (s : ScS) : Prop where
 name : s.name.size ≤ B
 msgs : ∀ m ∈ s.msgs, MsB B m ∧ m.fields.length ≤ N ∧ m.reserved.length ≤ N
 enums : ∀ m ∈ s.enums, EnB B m ∧ m.values.length ≤ N
 meths : ∀ m ∈ s.methods, MtB B m
def cntS (s : ScS) : Nat := s.msgs.length + s.enums.length + s.methods.length
theorem decl_got {B N : Nat} {s : ScS} {ts : List ByteArray} (hs : ScB B N s) (h : SzB B ts) (hn : ts.length ≤ N) {s' : ScS} {r : List ByteArray} (e : pDecl s ts = .inr (s', r)) : ScB B N s' ∧ (∀ t ∈ r, t ∈ ts) ∧ cntS s' + r.length ≤ cntS s + ts.length := by
 unfold pDecl at e
 split at e
 ·rename_i hc
  obtain ⟨t, r0, rfl, _⟩ := pIs_cons hc
  rw [List.tail_cons] at e
  rw [List.length_cons] at hn
  cases hx : pMsg r0 with
  | inl n => rw [hx] at e; simp [pBind] at e
  | inr p =>
   obtain ⟨m, r1⟩ := p
   rw [hx, pBind_ok] at e
   simp only [Sum.inr.injEq, Prod.mk.injEq] at e
   obtain ⟨rfl, rfl⟩ := e
   obtain ⟨a1, a2, a3⟩ := msg_got (h.sub (fun t' ht => List.mem_cons_of_mem _ ht)) m r1 hx
   refine ⟨⟨hs.name, fun x hx => ?_, hs.enums, hs.meths⟩, fun t' ht => List.mem_cons_of_mem _ (a2 t' ht), by simp only [cntS, List.length_append, List.length_cons, List.length_nil]; omega⟩
   rcases List.mem_append.1 hx with hx | hx
   ·exact hs.msgs x hx
   ·rw [List.mem_singleton.1 hx]; exact ⟨a1.1, by omega, by omega⟩
 ·split at e
  ·rename_i hc
   obtain ⟨t, r0, rfl, _⟩ := pIs_cons hc
   rw [List.tail_cons] at e
   rw [List.length_cons] at hn
   cases hx : pEnum r0 with
   | inl n => rw [hx] at e; simp [pBind] at e
   | inr p =>
    obtain ⟨m, r1⟩ := p
    rw [hx, pBind_ok] at e
    simp only [Sum.inr.injEq, Prod.mk.injEq] at e
    obtain ⟨rfl, rfl⟩ := e
    obtain ⟨a1, a2, a3⟩ := enum_got (h.sub (fun t' ht => List.mem_cons_of_mem _ ht)) m r1 hx
    refine ⟨⟨hs.name, hs.msgs, fun x hx => ?_, hs.meths⟩, fun t' ht => List.mem_cons_of_mem _ (a2 t' ht), by simp only [cntS, List.length_append, List.length_cons, List.length_nil]; omega⟩
    rcases List.mem_append.1 hx with hx | hx
    ·exact hs.enums x hx
    ·rw [List.mem_singleton.1 hx]; exact ⟨a1.1, by omega⟩
  ·split at e
   ·rename_i hc
    obtain ⟨t, r0, rfl, _⟩ := pIs_cons hc
    rw [List.tail_cons] at e
    rw [List.length_cons] at hn
    cases hx : pCall r0 with
    | inl n => rw [hx] at e; simp [pBind] at e
    | inr p =>
     obtain ⟨m, r1⟩ := p
     rw [hx, pBind_ok] at e
     simp only [Sum.inr.injEq, Prod.mk.injEq] at e
     obtain ⟨rfl, rfl⟩ := e
     obtain ⟨a1, a2, a3⟩ := call_got (h.sub (fun t' ht => List.mem_cons_of_mem _ ht)) m r1 hx
     refine ⟨⟨hs.name, hs.msgs, hs.enums, fun x hx => ?_⟩, fun t' ht => List.mem_cons_of_mem _ (a2 t' ht), by simp only [cntS, List.length_append, List.length_cons, List.length_nil]; omega⟩
     rcases List.mem_append.1 hx with hx | hx
     ·exact hs.meths x hx
     ·rw [List.mem_singleton.1 hx]; exact a1
   ·cases e
theorem decls_got {B N : Nat} : ∀ (f : Nat) (s : ScS) (ts : List ByteArray), ScB B N s → SzB B ts → ts.length ≤ N → ∀ s' r, pDecls f s ts = .inr (s', r) → ScB B N s' ∧ cntS s' ≤ cntS s + ts.length
  | 0, s, ts, hs, h, hn, s', r, e => by
    unfold pDecls at e
    simp only [Sum.inr.injEq, Prod.mk.injEq] at e
    obtain ⟨rfl, _⟩ := e
    exact ⟨hs, by omega⟩
  | f + 1, s, ts, hs, h, hn, s', r, e => by
    unfold pDecls at e
    split at e
    · simp only [Sum.inr.injEq, Prod.mk.injEq] at e
      obtain ⟨rfl, _⟩ := e
      exact ⟨hs, by omega⟩
    · cases hx : pDecl s ts with
      | inl n => rw [hx] at e; simp [pBind] at e
      | inr p =>
        obtain ⟨s1, r1⟩ := p
        rw [hx, pBind_ok] at e
        obtain ⟨a1, a2, a3⟩ := decl_got hs h hn hx
        have hr : r1.length ≤ N := by
          have : r1.length ≤ ts.length := by
            have hc : cntS s ≤ cntS s1 := by
              unfold pDecl at hx
              repeat' split at hx
              all_goals first
                | cases hx
                | (revert hx
                   unfold pBind
                   split
                   · intro hx; cases hx
                   · intro hx
                     simp only [Sum.inr.injEq, Prod.mk.injEq] at hx
                     obtain ⟨rfl, _⟩ := hx
                     simp only [cntS, List.length_append, List.length_cons, List.length_nil]
                     omega)
            omega
          omega
        obtain ⟨b1, b2⟩ := decls_got f s1 r1 a1 (h.sub a2) hr s' r e
        exact ⟨b1, by omega⟩
theorem sum_le {l : List ByteArray} {t : ByteArray} (h : t ∈ l) : t.size ≤ (l.map ByteArray.size).sum := by
 induction l with
 | nil => cases h
 | cons a l ih =>
  rw [List.map_cons, List.sum_cons]
  rcases List.mem_cons.1 h with rfl | h
  ·omega
  ·have := ih h; omega
theorem decl_rest {s : ScS} {ts : List ByteArray} {s' : ScS} {r : List ByteArray} (e : pDecl s ts = .inr (s', r)) : (∀ t ∈ r, t ∈ ts) ∧ r.length ≤ ts.length := by
 obtain ⟨B, hB⟩ : ∃ B, SzB B ts := ⟨(ts.map ByteArray.size).sum, fun t ht => sum_le ht⟩
 unfold pDecl at e
 repeat' split at e
 ·rename_i hc
  obtain ⟨t, r0, rfl, _⟩ := pIs_cons hc
  obtain ⟨_, g2, g3⟩ := Got.bind (k2 := 0) (W2 := fun _ => True) (msg_got (hB.sub (fun t' ht => List.mem_cons_of_mem _ ht))) (fun m r1 _ _ _ => Got.done trivial) s' r e
  exact ⟨fun t' ht => List.mem_cons_of_mem _ (g2 t' ht), by simp only [List.tail_cons, List.length_cons] at g3 ⊢; omega⟩
 ·rename_i hc
  obtain ⟨t, r0, rfl, _⟩ := pIs_cons hc
  obtain ⟨_, g2, g3⟩ := Got.bind (k2 := 0) (W2 := fun _ => True) (enum_got (hB.sub (fun t' ht => List.mem_cons_of_mem _ ht))) (fun m r1 _ _ _ => Got.done trivial) s' r e
  exact ⟨fun t' ht => List.mem_cons_of_mem _ (g2 t' ht), by simp only [List.tail_cons, List.length_cons] at g3 ⊢; omega⟩
 ·rename_i hc
  obtain ⟨t, r0, rfl, _⟩ := pIs_cons hc
  obtain ⟨_, g2, g3⟩ := Got.bind (k2 := 0) (W2 := fun _ => True) (call_got (hB.sub (fun t' ht => List.mem_cons_of_mem _ ht))) (fun m r1 _ _ _ => Got.done trivial) s' r e
  exact ⟨fun t' ht => List.mem_cons_of_mem _ (g2 t' ht), by simp only [List.tail_cons, List.length_cons] at g3 ⊢; omega⟩
 ·cases e
theorem decls_left : ∀ (f : Nat) (s : ScS) (ts : List ByteArray) (s' : ScS) (r : List ByteArray), pDecls f s ts = .inr (s', r) → (∀ t ∈ r, t ∈ ts) ∧ r.length ≤ ts.length
 | 0, s, ts, s', r, e => by
  unfold pDecls at e
  simp only [Sum.inr.injEq, Prod.mk.injEq] at e
  obtain ⟨_, rfl⟩ := e
  exact ⟨fun t ht => ht, Nat.le_refl _⟩
 | f + 1, s, ts, s', r, e => by
  unfold pDecls at e
  split at e
  ·simp only [Sum.inr.injEq, Prod.mk.injEq] at e
   obtain ⟨_, rfl⟩ := e
   exact ⟨fun t ht => absurd ht (by simp), Nat.zero_le _⟩
  ·cases hx : pDecl s ts with
   | inl n => rw [hx] at e; simp [pBind] at e
   | inr p =>
    obtain ⟨s1, r1⟩ := p
    rw [hx, pBind_ok] at e
    obtain ⟨a1, a2⟩ := decl_rest hx
    obtain ⟨b1, b2⟩ := decls_left f s1 r1 s' r e
    exact ⟨fun t ht => a1 t (b1 t ht), by omega⟩
theorem text_got {B N : Nat} {ts : List ByteArray} (h : SzB B ts) (hn : ts.length ≤ N) {s : ScS} {r : List ByteArray} (e : pText ts = .inr (s, r)) : ScB B N s ∧ cntS s ≤ N := by
 unfold pText at e
 have g : Got 0 (fun s => ScB B N s ∧ cntS s ≤ N) ts (pText ts) := by
  unfold pText
  refine Got.less (Got.bind (k2 := 0) (must_got _ ts) (fun _ r1 _ s1 l1 => ?_)) (Nat.zero_le _)
  refine Got.less (Got.bind (k2 := 0) (name_got r1) (fun n r2 hn2 s2 l2 => ?_)) (Nat.zero_le _)
  refine Got.less (Got.bind (k2 := 0) (must_got _ r2) (fun _ r3 _ s3 l3 => ?_)) (Nat.zero_le _)
  intro s' r' e'
  have h3 := ((h.sub s1).sub s2).sub s3
  obtain ⟨a1, a2⟩ := decls_got (B := B) (N := N) r3.length ⟨n, [], [], []⟩ r3 ⟨h n (s1 n hn2), fun m hm => absurd hm (by simp), fun m hm => absurd hm (by simp), fun m hm => absurd hm (by simp)⟩ h3 (by omega) s' r' e'
  have hc : cntS ⟨n, [], [], []⟩ = 0 := rfl
  refine ⟨⟨a1, by omega⟩, ?_, ?_⟩
  ·exact (decls_left _ _ _ s' r' e').1
  ·have := (decls_left _ _ _ s' r' e').2; omega
 unfold pText at g
 exact (g s r e).1
theorem kind_b {B N : Nat} {s : ScS} (h : ScB B N s) : ScB B N (kindS s) ∧ cntS (kindS s) = cntS s := by
 refine ⟨⟨h.name, fun m hm => ?_, h.enums, h.meths⟩, by simp [cntS, kindS]⟩
 obtain ⟨m', hm', rfl⟩ := List.mem_map.1 hm
 obtain ⟨⟨a1, a2, a3⟩, a4, a5⟩ := h.msgs m' hm'
 refine ⟨⟨a1, fun f hf => ?_, a3⟩, by simpa [kindM] using a4, a5⟩
 obtain ⟨f', hf', rfl⟩ := List.mem_map.1 hf
 have hb := a2 f' hf'
 unfold kindF
 split
 ·refine ⟨hb.1, hb.2.1, hb.2.2.1, hb.2.2.2.1, ?_⟩
  simp only
  split
  ·exact ⟨by decide, by decide⟩
  ·exact ⟨by decide, by decide⟩
 ·exact hb
theorem ScB.w {B N : Nat} {s : ScS} (h : ScB B N s) (hB : B ≤ 20000) : ScW s := by
 refine ⟨Nat.le_trans h.name (by omega), fun m hm => ?_, fun m hm => ?_, fun m hm => ?_⟩
 ·obtain ⟨⟨a1, a2, a3⟩, _⟩ := h.msgs m hm
  exact ⟨by omega, fun f hf => ⟨by have := (a2 f hf).1; omega, by have := (a2 f hf).2.1; omega, (a2 f hf).2.2⟩, a3⟩
 ·obtain ⟨⟨a1, a2⟩, _⟩ := h.enums m hm
  exact ⟨by omega, fun f hf => ⟨by have := (a2 f hf).1; omega, (a2 f hf).2⟩⟩
 ·obtain ⟨a1, a2, a3⟩ := h.meths m hm
  exact ⟨by omega, by omega, by omega⟩
theorem ScB.may {B N : Nat} {s : ScS} (h : ScB B N s) (hc : cntS s ≤ N) (hN : N ≤ 30000) : MayL s := by
 unfold cntS at hc
 exact ⟨by omega, by omega, by omega, fun m hm => ⟨by have := (h.msgs m hm).2.1; omega, by have := (h.msgs m hm).2.2; omega⟩, fun e he => by have := (h.enums e he).2; omega⟩
theorem ok_few {s : ScS} (h : OkS s) : FewL s := by
 have hb := h.big
 unfold bigS at hb
 rw [decide_eq_false_iff_not] at hb
 refine ⟨by omega, by omega, by omega, fun m hm => ?_, fun e he => ?_⟩
 ·have h1 := (h.msgs m hm).2.1
  unfold bigM at h1
  rw [decide_eq_false_iff_not] at h1
  omega
 ·have h1 := (h.enums e he).2
  unfold chkEb at h1
  by_cases hl : 16 < e.values.length
  ·rw [if_pos hl] at h1; cases h1
  ·omega
theorem parse_b {s : ByteArray} {sc : ScS} {p : Nat} (h : parseA s = (sc, p, 0)) : ScB 16384 16384 sc ∧ cntS sc ≤ 16384 := by
 unfold parseA at h
 split at h
 ·rename_i hne
  simp only [Prod.mk.injEq] at h
  exact absurd h.2.2 hne
 ·rename_i hz
  have hz : (tokA s).2.2 = 0 := by omega
  have hsz : s.size ≤ 16384 := by
   rcases Nat.lt_or_ge 16384 s.size with hb | hb
   ·unfold tokA at hz; rw [if_pos hb] at hz; cases hz
   ·exact hb
  cases hl : lexO s.data.toList 0 with
  | inl q =>
   obtain ⟨q, e⟩ := q
   unfold tokA at hz
   rw [if_neg (by omega), hl] at hz
   have := (lex_err hl).1
   simp only [ansA] at hz
   omega
  | inr ts =>
   rw [tokA_ok hsz hl] at h
   simp only at h
   have h1 : SzB 16384 (ts.map Tk.bytes) := fun t ht => by
    obtain ⟨tk, htk, rfl⟩ := List.mem_map.1 ht
    obtain ⟨i, hi⟩ := List.mem_iff_getElem?.1 htk
    have hp := piece_at hl hi
    rw [Tk.size]
    have hs : s.data.toList.length = s.size := rfl
    omega
   have h2 : (ts.map Tk.bytes).length ≤ 16384 := by
    rw [List.length_map]
    have := lex_len hl
    have hs : s.data.toList.length = s.size := rfl
    omega
   cases hx : pText (ts.map Tk.bytes) with
   | inl n => rw [hx] at h; simp at h
   | inr q =>
    obtain ⟨x, r⟩ := q
    rw [hx] at h
    simp only [Prod.mk.injEq] at h
    obtain ⟨rfl, _, _⟩ := h
    obtain ⟨a1, a2⟩ := text_got h1 h2 hx
    obtain ⟨b1, b2⟩ := kind_b a1
    exact ⟨b1, by omega⟩
theorem parse_may {s : ByteArray} {sc : ScS} {p : Nat} (h : parseA s = (sc, p, 0)) : MayL sc ∧ ScW sc := by
 obtain ⟨a1, a2⟩ := parse_b h
 exact ⟨a1.may a2 (by decide), a1.w (by decide)⟩
end Go.Proofs.YtcjfeandnmochaaGreatDoor
namespace Go.Proofs.YtcjfeandnmochaaGreatDoor
open Go.ChangeShapes Go.WideShapes Go.ChangeAt Go.RowKit
set_option linter.unusedVariables false
set_option linter.unusedSimpArgs false
set_option maxRecDepth 20000
structure PrO (s : ScS) : Prop where
 few : FewL s
 cap : ∀ e ∈ s.enums, e.values.length ≤ capN
 wf : ScW s
 len : (printL s).length ≤ 1000000000
theorem canon_twice (s : ScS) : canonS (canonS s) = canonS s := by
 obtain ⟨n, ms, es, ts⟩ := s
 simp only [canonS, List.map_map, ScS.mk.injEq, true_and, and_true]
 constructor
 ·apply List.map_congr_left
  intro m _
  simp only [Function.comp, canonM, srtF_twice]
 ·apply List.map_congr_left
  intro m _
  simp only [Function.comp, canonE, srtF_twice]
theorem PrO.canon {s : ScS} (h : PrO s) : PrO (canonS s) := by
 refine ⟨canon_few h.few, fun e he => ?_, canon_w h.wf, ?_⟩
 ·obtain ⟨m', hm', rfl⟩ := List.mem_map.1 he
  rw [show (canonE m').values.length = m'.values.length from srtF_len _ _]
  exact h.cap m' hm'
 ·unfold printL
  rw [canon_twice]
  exact h.len
theorem print_canon (s : ScS) : printB (canonS s) = printB s := by unfold printB printL; rw [canon_twice]
theorem pprint_any {w : World} {v : Value} {s : ScS} (hr : ScIn w v s) (h : PrO s) (ht : PTab w) : Calls Tryz.prog 8 #[v] w fun e w' => e = .returned (.string (printB s)) ∧ Below w.heap.size w w' :=
 print_any hr h.few h.cap h.wf ht h.len
theorem ScIn.form {w : World} {v : Value} {s : ScS} (h : ScIn w v s) : ∃ am M cm ae E ce at' T ct, v = .agg #[.string s.name, .slice am M cm, .slice ae E ce, .slice at' T ct] := by
 obtain ⟨vm, ve, vt, rfl, h1, h2, h3⟩ := h
 obtain ⟨am, cm, rfl, _, _⟩ := h1.form2
 obtain ⟨ae, ce, rfl, _, _⟩ := h2.form2
 obtain ⟨at', ct, rfl, _, _⟩ := h3.form2
 exact ⟨_, _, _, _, _, _, _, _, _, rfl⟩
set_option maxHeartbeats 2000000 in
theorem psame_any {w : World} {va vb : Value} {a b : ScS} (ha : ScIn w va a) (hb : ScIn w vb b) (oa : PrO a) (ob : PrO b) (ht : PTab w) :
  Calls Tryz.prog 9 #[va, vb] w fun e w' => e = .returned (.bool ((printB a).toList == (printB b).toList)) ∧ Below w.heap.size w w' := by
 have HA : Hid (ScIn w va a) := ha
 have HB : Hid (ScIn w vb b) := hb
 have OA : Hid (PrO a) := oa
 have OB : Hid (PrO b) := ob
 have HT : Hid (PTab w) := ht
 obtain ⟨a1, n1, c1, a2, n2, c2, a3, n3, c3, rfl⟩ := ha.form
 obtain ⟨e1, m1, d1, e2, m2, d2, e3, m3, d3, rfl⟩ := hb.form
 clear ha hb oa ob ht
 generalize a.name = na at *
 generalize b.name = nb at *
 have H0 : Hid (Below w.heap.size w ((w.alloc (.cells #[.string na, .slice a1 n1 c1, .slice a2 n2 c2, .slice a3 n3 c3] 27)).alloc (.cells #[.string nb, .slice e1 m1 d1, .slice e2 m2 d2, .slice e3 m3 d3] 27)).drew) := below_drewN 1 (((Below.refl _ _).alloc (Nat.le_refl _) _).alloc (by simp) _)
 have hS : Blk ((w.alloc (.cells #[.string na, .slice a1 n1 c1, .slice a2 n2 c2, .slice a3 n3 c3] 27)).alloc (.cells #[.string nb, .slice e1 m1 d1, .slice e2 m2 d2, .slice e3 m3 d3] 27)).drew w.heap.size #[.string na, .slice a1 n1 c1, .slice a2 n2 c2, .slice a3 n3 c3] 27 ∧ Blk ((w.alloc (.cells #[.string na, .slice a1 n1 c1, .slice a2 n2 c2, .slice a3 n3 c3] 27)).alloc (.cells #[.string nb, .slice e1 m1 d1, .slice e2 m2 d2, .slice e3 m3 d3] 27)).drew (w.heap.size + 1) #[.string nb, .slice e1 m1 d1, .slice e2 m2 d2, .slice e3 m3 d3] 27 := by
  refine ⟨(Blk.new w _ _).below (below_drewN 1 ((Below.refl _ _).alloc (Nat.le_refl _) _)), ?_⟩
  have := Blk.new (w.alloc (.cells #[.string na, .slice a1 n1 c1, .slice a2 n2 c2, .slice a3 n3 c3] 27)) #[.string nb, .slice e1 m1 d1, .slice e2 m2 d2, .slice e3 m3 d3] 27
  rw [show (w.alloc (.cells #[.string na, .slice a1 n1 c1, .slice a2 n2 c2, .slice a3 n3 c3] 27)).heap.size = w.heap.size + 1 by simp] at this
  exact this
 go_enter Tryz.func9, Tryz.ntmps9
 go_wp2_with fail
 refine wp_region_held_drew (S := fun W => Blk W w.heap.size #[.string na, .slice a1 n1 c1, .slice a2 n2 c2, .slice a3 n3 c3] 27 ∧ Blk W (w.heap.size + 1) #[.string nb, .slice e1 m1 d1, .slice e2 m2 d2, .slice e3 m3 d3] 27) (by kernel_rfl) hS (fun hS => ?_)
 generalize ((w.alloc (.cells #[.string na, .slice a1 n1 c1, .slice a2 n2 c2, .slice a3 n3 c3] 27)).alloc (.cells #[.string nb, .slice e1 m1 d1, .slice e2 m2 d2, .slice e3 m3 d3] 27)).drew = W0 at *
 refine rg_take 0 5 (.agg #[.string na, .slice a1 n1 c1, .slice a2 n2 c2, .slice a3 n3 c3]) _ rfl rfl (by kernel_rfl) (by kernel_rfl) (by kernel_rfl) (fun _ _ _ h => h) (by rfl) (fun w' hw' => ?_) hS (listed' := #[true, false, false, false, false, false]) (by kernel_rfl) rfl ?_
 ·have x0 := (hw'.1.cell 0).trans rfl; have x1 := (hw'.1.cell 1).trans rfl; have x2 := (hw'.1.cell 2).trans rfl; have x3 := (hw'.1.cell 3).trans rfl; go_simp
 simp only [List.setIfInBounds_toArray, List.set_cons_zero, List.set_cons_succ]
 refine rg_take 2 7 (.agg #[.string nb, .slice e1 m1 d1, .slice e2 m2 d2, .slice e3 m3 d3]) _ rfl rfl (by kernel_rfl) (by kernel_rfl) (by kernel_rfl) (fun _ _ _ h => h) (by rfl) (fun w' hw' => ?_) hS (listed' := #[true, false, true, false, false, false]) (by kernel_rfl) rfl ?_
 ·have x0 := (hw'.2.cell 0).trans rfl; have x1 := (hw'.2.cell 1).trans rfl; have x2 := (hw'.2.cell 2).trans rfl; have x3 := (hw'.2.cell 3).trans rfl; go_simp
 simp only [List.setIfInBounds_toArray, List.set_cons_zero, List.set_cons_succ]
 refine rg_call 1 6 8 #[.agg #[.string na, .slice a1 n1 c1, .slice a2 n2 c2, .slice a3 n3 c3]] rfl rfl (by kernel_rfl) (by rfl) (listed' := #[true, true, true, false, false, false]) (by kernel_rfl) (fun W => by go_simp) ?_
 refine (pprint_any (HA.out.below H0.out) OA.out (HT.out.below H0.out)).mono ?_
 rintro e W1 ⟨rfl, hb1⟩
 have hS : Blk W1 w.heap.size #[.string na, .slice a1 n1 c1, .slice a2 n2 c2, .slice a3 n3 c3] 27 ∧ Blk W1 (w.heap.size + 1) #[.string nb, .slice e1 m1 d1, .slice e2 m2 d2, .slice e3 m3 d3] 27 := ⟨hS.1.below hb1, hS.2.below hb1⟩
 have H1 : Hid (Below w.heap.size w W1) := H0.out.trans (hb1.mono H0.out.size)
 refine ⟨_, rfl, hS, ?_⟩
 simp only [List.setIfInBounds_toArray, List.set_cons_zero, List.set_cons_succ]
 refine rg_call 3 8 8 #[.agg #[.string nb, .slice e1 m1 d1, .slice e2 m2 d2, .slice e3 m3 d3]] rfl rfl (by kernel_rfl) (by rfl) (listed' := #[true, true, true, true, false, false]) (by kernel_rfl) (fun W => by go_simp) ?_
 refine (pprint_any (HB.out.below H1.out) OB.out (HT.out.below H1.out)).mono ?_
 rintro e W2 ⟨rfl, hb2⟩
 have hS : Blk W2 w.heap.size #[.string na, .slice a1 n1 c1, .slice a2 n2 c2, .slice a3 n3 c3] 27 ∧ Blk W2 (w.heap.size + 1) #[.string nb, .slice e1 m1 d1, .slice e2 m2 d2, .slice e3 m3 d3] 27 := ⟨hS.1.below hb2, hS.2.below hb2⟩
 have H2 : Hid (Below w.heap.size w W2) := H1.out.trans (hb2.mono H1.out.size)
 refine ⟨_, rfl, hS, ?_⟩
 simp only [List.setIfInBounds_toArray, List.set_cons_zero, List.set_cons_succ]
 generalize hpa : printB a = pa
 have HPA : Hid (printB a = pa) := hpa
 generalize hpb : printB b = pb
 have HPB : Hid (printB b = pb) := hpb
 clear hpa hpb
 refine rg_take 4 9 (.bool (pa.toList == pb.toList)) _ rfl rfl (by kernel_rfl) (by kernel_rfl) (by kernel_rfl) (fun _ _ _ h => h) (by rfl) (fun w' hw' => ?_) hS (listed' := #[true, true, true, true, true, false]) (by kernel_rfl) rfl ?_
 ·go_simp
 simp only [List.setIfInBounds_toArray, List.set_cons_zero, List.set_cons_succ]
 refine rg_take 5 4 (.bool (pa.toList == pb.toList)) _ rfl rfl (by kernel_rfl) (by kernel_rfl) (by kernel_rfl) (fun _ _ _ h => h) (by rfl) (fun w' hw' => ?_) hS (listed' := #[true, true, true, true, true, true]) (by kernel_rfl) rfl ?_
 ·go_simp
 simp only [List.setIfInBounds_toArray, List.set_cons_zero, List.set_cons_succ]
 refine wpAnyH_done (by kernel_rfl) ?_ _
 generalize hq : (pa.toList == pb.toList) = q
 have HQ : Hid ((pa.toList == pb.toList) = q) := hq
 clear hq hS
 go_wp2_with fail
 go_ret
 exact ⟨by rw [HPA.out, HPB.out, HQ.out]; rfl, H2.out⟩
def readA (x : ScS × Nat × Nat) : ScS × Nat × Int := if x.2.2 = 0 then (if checkA x.1 = 0 then (canonS x.1, 0, 0) else (zeroS, 0, checkA x.1)) else (zeroS, x.2.1, (x.2.2 : Int))
theorem ok_vals {s : ScS} (h : checkA s = 0) : ∀ e ∈ s.enums, e.values.length ≤ 16 := by
 intro e he
 have := ((checkA_ok s).1 h).enums e he
 have h2 := this.2
 unfold chkEb at h2
 by_cases hl : 16 < e.values.length
 ·rw [if_pos hl] at h2; cases h2
 ·omega
set_option maxHeartbeats 4000000 in
theorem read_may (s : ByteArray) {w : World} (hs : s.size ≤ 140737488351232) (hG : Glob w) {sc : ScS} {p e : Nat} (h : parseA s = (sc, p, e)) (hf : e = 0 → MayL sc ∧ ScW sc) :
  Calls Tryz.prog 5 #[.string s] w fun x w' => ∃ v, x = .returned (.tuple #[v, .int .i64 ((readA (sc, p, e)).2.1 : Int), .int .i64 (readA (sc, p, e)).2.2]) ∧ ScIn w' v (readA (sc, p, e)).1 ∧ Below w.heap.size w w' := by
 have HF : Hid (e = 0 → MayL sc ∧ ScW sc) := hf
 have BR0 : Blk (w.alloc (.cells #[.string ⟨#[]⟩, .slice none 0 0, .slice none 0 0, .slice none 0 0] 27)) w.heap.size #[.string ⟨#[]⟩, .slice none 0 0, .slice none 0 0, .slice none 0 0] 27 := Blk.new w _ _
 have H0 : Hid (Below w.heap.size w (w.alloc (.cells #[.string ⟨#[]⟩, .slice none 0 0, .slice none 0 0, .slice none 0 0] 27))) := (Below.refl _ _).alloc (Nat.le_refl _) _
 have HP : Hid (parseA s = (sc, p, e)) := h
 have HG : Hid (Glob w) := hG
 clear h hf hG
 go_enter Tryz.func5, Tryz.ntmps5
 go_wp2_with fail
 refine (parse_row s _ hs (HG.out.below H0.out) sc p e HP.out).mono ?_
 rintro x w1 ⟨vm, ve, vt, rfl, hm, he, htt, hb1⟩
 obtain ⟨am, cm, rfl, _, _⟩ := hm.form2
 obtain ⟨ae, ce, rfl, _, _⟩ := he.form2
 obtain ⟨at', ct, rfl, _, _⟩ := htt.form2
 have HSC : Hid (ScIn w1 (.agg #[.string sc.name, .slice am sc.msgs.length cm, .slice ae sc.enums.length ce, .slice at' (mtRows sc.methods).length ct]) sc) := ⟨_, _, _, rfl, hm, he, htt⟩
 generalize sc.name = nm at *
 generalize sc.msgs.length = M at *
 generalize sc.enums.length = E at *
 generalize (mtRows sc.methods).length = T at *
 have BR1 := BR0.below hb1
 have H1 : Hid (Below w.heap.size w w1) := H0.out.trans (hb1.mono H0.out.size)
 clear hm he htt hb1 BR0 HP
 obtain ⟨R, hR⟩ : ∃ R, w.heap.size = R := ⟨_, rfl⟩
 have HRR : Hid (w.heap.size = R) := hR
 rw [hR] at BR1 ⊢
 clear hR
 have hRlt := BR1.lt
 have hal : Below w1.heap.size w1 (w1.alloc (.cells #[.string nm, .slice am M cm, .slice ae E ce, .slice at' T ct] 27)) := (Below.refl _ _).alloc (Nat.le_refl _) _
 have BX1 : Blk (w1.alloc (.cells #[.string nm, .slice am M cm, .slice ae E ce, .slice at' T ct] 27)) w1.heap.size #[.string nm, .slice am M cm, .slice ae E ce, .slice at' T ct] 27 := Blk.new _ _ _
 have BR2 := BR1.below hal
 have HS2 : Hid (ScIn (w1.alloc (.cells #[.string nm, .slice am M cm, .slice ae E ce, .slice at' T ct] 27)) (.agg #[.string nm, .slice am M cm, .slice ae E ce, .slice at' T ct]) sc) := HSC.out.below hal
 have H2 : Hid (Below w.heap.size w (w1.alloc (.cells #[.string nm, .slice am M cm, .slice ae E ce, .slice at' T ct] 27))) := H1.out.trans (hal.mono H1.out.size)
 obtain ⟨b5, hb5⟩ : ∃ n, w1.heap.size = n := ⟨_, rfl⟩
 rw [hb5] at BX1 hRlt
 go_upto_region 2 with fail
 generalize (w1.alloc (.cells #[.string nm, .slice am M cm, .slice ae E ce, .slice at' T ct] 27)) = w2 at *
 clear hal HSC H1 BR1 hb5
 have x0 := (BX1.cell 0).trans rfl
 have x1 := (BX1.cell 1).trans rfl
 have x2 := (BX1.cell 2).trans rfl
 have x3 := (BX1.cell 3).trans rfl
 by_cases he : e = 0
 ·subst he
  obtain ⟨hfew, hwf⟩ := HF.out rfl
  go_wp2_with fail
  clear x0 x1 x2 x3
  refine (check_may HS2.out hwf hfew).mono ?_
  rintro x w3 ⟨rfl, hb3⟩
  have BX3 := BX1.below hb3
  have BR3 := BR2.below hb3
  have HS3 : Hid (ScIn w3 (.agg #[.string nm, .slice am M cm, .slice ae E ce, .slice at' T ct]) sc) := HS2.out.below hb3
  have H3 : Hid (Below w.heap.size w w3) := H2.out.trans (hb3.mono H2.out.size)
  clear BX1 BR2 HS2 H2 hb3
  obtain ⟨C, hC⟩ : ∃ C, checkA sc = C := ⟨_, rfl⟩
  have HC : Hid (checkA sc = C) := hC
  rw [hC]
  clear hC
  have r0 := (BR3.cell 0).trans rfl
  have r1 := (BR3.cell 1).trans rfl
  have r2 := (BR3.cell 2).trans rfl
  have r3 := (BR3.cell 3).trans rfl
  have s0 := BR3.froz 0
  have s1 := BR3.froz 1
  have s2 := BR3.froz 2
  have s3 := BR3.froz 3
  have x0 := (BX3.cell 0).trans rfl
  have x1 := (BX3.cell 1).trans rfl
  have x2 := (BX3.cell 2).trans rfl
  have x3 := (BX3.cell 3).trans rfl
  by_cases hc : C = 0
  ·subst hc
   go_wp2_with fail
   clear x0 x1 x2 x3 r0 r1 r2 r3 s0 s1 s2 s3
   have hcap : ∀ e ∈ sc.enums, e.values.length ≤ capN := fun e he => Nat.le_trans (ok_vals HC.out e he) (by decide)
   refine (canon_any HS3.out (ok_few ((checkA_ok sc).1 HC.out)) hcap).mono ?_
   rintro x w4 ⟨um, ue, ut, pm, pe, rfl, hMO, hEO, hTO, hb4⟩
   obtain ⟨a1, c1, rfl⟩ := own_form hMO.own
   obtain ⟨a2, c2, rfl⟩ := own_form hEO.own
   obtain ⟨a3, c3, rfl⟩ := own_form hTO
   have BR4 := BR3.below hb4
   have H4 : Hid (Below w.heap.size w w4) := H3.out.trans (hb4.mono H3.out.size)
   have HMO : Hid (MsO w4 w3.heap.size (.slice a1 (canonS sc).msgs.length c1) (canonS sc).msgs pm) := hMO
   have HEO : Hid (EnO w4 w3.heap.size (.slice a2 (canonS sc).enums.length c2) (canonS sc).enums pe) := hEO
   have HTO : Hid (w4.ownsRow w3.heap.size 46 3 (.slice a3 (canonS sc).methods.length c3) (canonS sc).methods.length (mtRows (canonS sc).methods).flatten) := hTO
   have HRA : Hid (readA (sc, p, 0) = (canonS sc, 0, 0)) := by show _ = _; simp [readA, HC.out]
   have HNM : Hid ((canonS sc).name = sc.name) := rfl
   have hR3 : R < w3.heap.size := BR3.lt
   have e3 : sc.methods.length = (canonS sc).methods.length := rfl
   rw [e3]
   clear e3 hMO hEO hTO hb4 HS3 H3 BR3 BX3
   generalize hcs : canonS sc = cs at *
   have HCS : Hid (canonS sc = cs) := hcs
   clear hcs
   rw [← HNM.out]
   generalize hnc : cs.name = nmc at *
   have HNC : Hid (cs.name = nmc) := hnc
   clear hnc
   generalize cs.msgs.length = M1 at *
   generalize cs.enums.length = E1 at *
   generalize cs.methods.length = T1 at *
   have r0 := (BR4.cell 0).trans rfl
   have r1 := (BR4.cell 1).trans rfl
   have r2 := (BR4.cell 2).trans rfl
   have r3 := (BR4.cell 3).trans rfl
   have s0 := BR4.froz 0
   have s1 := BR4.froz 1
   have s2 := BR4.froz 2
   have s3 := BR4.froz 3
   go_wp2_with fail
   refine bodyPost_ret (results_three rfl _ _ _ ⟨R, 0, none⟩ (.agg #[.string nmc, .slice a1 M1 c1, .slice a2 E1 c2, .slice a3 T1 c3]) (by go_simp) (by go_simp)) rfl ?_
   have KS : Kp (fun k => k = R) w4 ((((w4.setCell ⟨R, 0, none⟩ (.string nmc)).setCell ⟨R, 1, none⟩ (.slice a1 M1 c1)).setCell ⟨R, 2, none⟩ (.slice a2 E1 c2)).setCell ⟨R, 3, none⟩ (.slice a3 T1 c3)) := by
    refine Kp.setCell ?_ (fun _ => by simp) _
    refine Kp.setCell ?_ (fun _ => by simp) _
    refine Kp.setCell ?_ (fun _ => by simp) _
    refine Kp.setCell ?_ (fun _ => by simp) _
    exact Kp.refl _ _
   have hq : ∀ k, w3.heap.size ≤ k → ¬ k = R := fun k hk => by omega
   refine ⟨_, by rw [HRA.out]; rfl, ?_, H4.out.trans (KS.toBelow H4.out.size (fun k e => by have := HRR.out; omega))⟩
   rw [HRA.out]
   exact ⟨_, _, _, by rw [HNC.out], (HMO.out.kp KS hq).to_in, (HEO.out.kp KS hq).to_in, (RowG.own (mtr_len cs.methods) (by decide) (own_kp HTO.out KS hq)).1⟩
  ·have hcb : (C == 0) = false := by simpa using hc
   have HCN : Hid (¬ C = 0) := hc
   clear hc
   have hcn : (C != 0) = true := by simp [bne, hcb]
   go_wp2_with fail
   have HRA : Hid (readA (sc, p, 0) = (zeroS, 0, C)) := by
    show _ = _
    unfold readA
    simp only [if_true]
    rw [HC.out, if_neg HCN.out]
   refine bodyPost_ret (results_three rfl _ _ _ ⟨R, 0, none⟩ (.agg #[.string ⟨#[]⟩, .slice none 0 0, .slice none 0 0, .slice none 0 0]) (by go_simp) (by go_simp)) rfl ?_
   refine ⟨_, by rw [HRA.out]; rfl, by rw [HRA.out]; exact ScIn.zero _, ?_⟩
   have hle : w.heap.size ≤ R := Nat.le_of_eq HRR.out
   exact Below.setCell (Below.setCell (Below.setCell (Below.setCell H3.out hle _) hle _) hle _) hle _
 ·have heb : ((e : Int) == 0) = false := by simp; omega
  have heb' : ((e : Int) != 0) = true := by simp [bne, heb]
  have HEN : Hid (¬ e = 0) := he
  have HRA : Hid (readA (sc, p, e) = (zeroS, p, (e : Int))) := by show _ = _; simp only [readA]; rw [if_neg he]
  have r0 := (BR2.cell 0).trans rfl
  have r1 := (BR2.cell 1).trans rfl
  have r2 := (BR2.cell 2).trans rfl
  have r3 := (BR2.cell 3).trans rfl
  have s0 := BR2.froz 0
  have s1 := BR2.froz 1
  have s2 := BR2.froz 2
  have s3 := BR2.froz 3
  clear he
  go_wp2_with fail
  refine bodyPost_ret (results_three rfl _ _ _ ⟨R, 0, none⟩ (.agg #[.string ⟨#[]⟩, .slice none 0 0, .slice none 0 0, .slice none 0 0]) (by go_simp) (by go_simp)) rfl ?_
  refine ⟨_, by rw [HRA.out]; rfl, by rw [HRA.out]; exact ScIn.zero _, ?_⟩
  have hle : w.heap.size ≤ R := Nat.le_of_eq HRR.out
  exact Below.setCell (Below.setCell (Below.setCell (Below.setCell H2.out hle _) hle _) hle _) hle _
theorem read_any (s : ByteArray) {w : World} (hs : s.size ≤ 140737488351232) (hG : Glob w) {sc : ScS} {p e : Nat} (h : parseA s = (sc, p, e)) (hf : e = 0 → FewL sc ∧ ScW sc) :
  Calls Tryz.prog 5 #[.string s] w fun x w' => ∃ v, x = .returned (.tuple #[v, .int .i64 ((readA (sc, p, e)).2.1 : Int), .int .i64 (readA (sc, p, e)).2.2]) ∧ ScIn w' v (readA (sc, p, e)).1 ∧ Below w.heap.size w w' :=
 read_may s hs hG h (fun he => ⟨(hf he).1.may, (hf he).2⟩)
theorem read_all (s : ByteArray) {w : World} (hs : s.size ≤ 140737488351232) (hG : Glob w) {sc : ScS} {p e : Nat} (h : parseA s = (sc, p, e)) :
  Calls Tryz.prog 5 #[.string s] w fun x w' => ∃ v, x = .returned (.tuple #[v, .int .i64 ((readA (sc, p, e)).2.1 : Int), .int .i64 (readA (sc, p, e)).2.2]) ∧ ScIn w' v (readA (sc, p, e)).1 ∧ Below w.heap.size w w' :=
 read_may s hs hG h (fun he => by subst he; exact parse_may h)
end Go.Proofs.YtcjfeandnmochaaGreatDoor
