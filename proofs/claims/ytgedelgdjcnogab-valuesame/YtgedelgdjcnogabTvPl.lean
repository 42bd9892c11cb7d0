/- Trees whose lists of entries lie in plain blocks; a list's place. -/
import Derived.Test.YtgedelgdjcnogabTvOwn
import Derived.Test.YtgedelgdjcnogabPlSet
namespace Go.Proofs.Ytgedelgdjcnogab
open Go.ChangeShapes Go.WideShapes Go.ChangeAt Go.RowKit
set_option linter.unusedVariables false
set_option linter.unusedSimpArgs false
set_option maxRecDepth 20000

/-- A list lies in a plain block. -/
def PlnV (w : World) (v : Value) : Prop := ∀ g off n cap, v = .slice (some ⟨g, off, none⟩) n cap → n ≠ 0 → ∃ cs ty, w.heap[g]? = some (.cells cs ty (0, 0))
/-- A tree's cells, its lists of entries in plain blocks. -/
def TrQ : Nat → World → List Value → Tr → Prop
  | 0, _, _, _ => False
  | n + 1, w, r, t => ∃ ve vr, r = [.int .i64 t.kind, .int .i64 t.n, .string t.s, ve, vr] ∧ Is64 t.kind ∧ Is64 t.n ∧ t.s.size ≤ 140737488351232 ∧ Fd64 t.rest ∧ RowG w vr 4 (fdRows t.rest) ∧ RowP (EnC (TrQ n w) w) w 2 ve t.es ∧ PlnV w ve
abbrev TrsQ (n : Nat) (w : World) (v : Value) (ts : List Tr) : Prop := RowP (TrQ n w) w 5 v ts
abbrev EnsQ (n : Nat) (w : World) (v : Value) (es : List (Int × List Tr)) : Prop := RowP (EnC (TrQ n w) w) w 2 v es
theorem PlnV.below {w w1 : World} {v : Value} (h : PlnV w v) (hb : Below w.heap.size w w1) : PlnV w1 v := fun g off n cap e hn => by
  obtain ⟨cs, ty, h1⟩ := h g off n cap e hn
  exact ⟨cs, ty, (hb.block g (Array.getElem?_eq_some_iff.1 h1).1).trans h1⟩
theorem TrQ.below : ∀ {n : Nat} {w w1 : World} {r : List Value} {t : Tr}, TrQ n w r t → Below w.heap.size w w1 → TrQ n w1 r t
  | 0, _, _, _, _, h, _ => h
  | n + 1, w, w1, r, t, h, hb => by
    obtain ⟨ve, vr, h1, h2, h3, h4, h5, h6, h7, h8⟩ := h
    refine ⟨ve, vr, h1, h2, h3, h4, h5, h6.below hb, h7.mono hb fun r x hx hp => ?_, h8.below hb⟩
    obtain ⟨vt, g1, g2, g3⟩ := hp
    exact ⟨vt, g1, g2, g3.mono hb fun r x hx hp => hp.below hb⟩
theorem RowP.belowTQ {n : Nat} {w w1 : World} {v : Value} {ts : List Tr} (h : TrsQ n w v ts) (hb : Below w.heap.size w w1) : TrsQ n w1 v ts := RowP.mono h hb fun _ _ _ hp => hp.below hb
theorem RowP.belowEQ {n : Nat} {w w1 : World} {v : Value} {es : List (Int × List Tr)} (h : EnsQ n w v es) (hb : Below w.heap.size w w1) : EnsQ n w1 v es :=
  RowP.mono h hb fun _ _ _ hp => by
    obtain ⟨vt, g1, g2, g3⟩ := hp
    exact ⟨vt, g1, g2, g3.belowTQ hb⟩
theorem TrQ.trC : ∀ {n : Nat} {w : World} {r : List Value} {t : Tr}, TrQ n w r t → TrC n w r t
  | 0, _, _, _, h => h
  | n + 1, w, r, t, h => by
    obtain ⟨ve, vr, h1, h2, h3, h4, h5, h6, h7, h8⟩ := h
    refine ⟨ve, vr, h1, h2, h3, h4, h5, h6, h7.imp fun r x hx hp => ?_⟩
    obtain ⟨vt, g1, g2, g3⟩ := hp
    exact ⟨vt, g1, g2, g3.imp fun r x hx hp => hp.trC⟩
theorem own_pln {w : World} {B e s n : Nat} {v : Value} {xs : List Value} (h : w.ownsRow B e s v n xs) : PlnV w v := by
  intro g off m cap ev hm
  rcases h.2 with ⟨rfl, _⟩ | ⟨g', cap', cur, rfl, _, h3, _⟩
  · cases ev
  · simp at ev
    obtain ⟨⟨rfl, _⟩, _⟩ := ev
    exact ⟨cur, e, h3⟩
theorem TrO.trQ : ∀ {n B : Nat} {w : World} {r : List Value} {t : Tr} {bs : List Nat}, TrO n B w r t bs → TrQ n w r t
  | 0, _, _, _, _, _, h => h
  | n + 1, B, w, r, t, bs, h => by
    obtain ⟨ve, vr, rows, bss, h1, h2, h3, h4, h5, h6, h7, rfl⟩ := h
    refine ⟨ve, vr, h1, h2, h3, h4, h5, own_rest h6, h7.rowP (by decide) (fun r x b hx hp => ?_), own_pln h7.own⟩
    obtain ⟨vt, rows', bss', g1, g2, g3, rfl⟩ := hp
    exact ⟨vt, g1, g2, g3.rowP (by decide) fun r x b hx hp => hp.trQ⟩
/-- A row's elements are told by its cells. -/
theorem RowP.uniq {α : Type} {P Q : List Value → α → Prop} {w : World} {size : Nat} {a : Option Addr} {N c1 c2 : Nat} {xs ys : List α} (h : RowP P w size (.slice a N c1) xs) (k : RowP Q w size (.slice a N c2) ys)
    (hp : ∀ r s x y, P r x → Q s y → (∀ j : Nat, r[j]? ≠ none → s[j]? ≠ none → r[j]? = s[j]?) → x = y) : xs = ys := by
  obtain ⟨a1, c1', e1, _, _, _, _, _⟩ := h.open
  obtain ⟨a2, c2', e2, _, _, _, _, _⟩ := k.open
  simp only [Value.slice.injEq] at e1 e2
  obtain ⟨_, e1, _⟩ := e1
  obtain ⟨_, e2, _⟩ := e2
  refine List.ext_getElem? fun i => ?_
  by_cases hi : i < xs.length
  · obtain ⟨g, off, ha, r, hr, hcr⟩ := h.get (List.getElem?_eq_getElem hi)
    obtain ⟨g', off', ha', s, hs, hcs⟩ := k.get (i := i) (List.getElem?_eq_getElem (by omega))
    rw [ha] at ha'
    simp at ha'
    obtain ⟨rfl, rfl⟩ := ha'
    rw [List.getElem?_eq_getElem hi, List.getElem?_eq_getElem (by omega)]
    refine congrArg some (hp r s _ _ hr hs fun j h1 h2 => ?_)
    cases hrj : r[j]? with
    | none => exact absurd hrj h1
    | some u =>
      cases hsj : s[j]? with
      | none => exact absurd hsj h2
      | some u' =>
        have q1 := hcr j u hrj
        have q2 := hcs j u' hsj
        rw [q1] at q2
        exact q2
  · rw [List.getElem?_eq_none (by omega), List.getElem?_eq_none (by omega)]
theorem fd_uniq {w : World} {a : Option Addr} {N c1 c2 : Nat} {l m : List Fd} (h : RowG w (.slice a N c1) 4 (fdRows l)) (k : RowG w (.slice a N c2) 4 (fdRows m)) : l = m := by
  have h1 : RowP (fun r (f : Fd) => r = f.cells) w 4 (.slice a N c1) l := ⟨fdRows l, h, by simp [fdRows], fun i x hx => ⟨x.cells, by simp [fdRows, hx], rfl⟩⟩
  have h2 : RowP (fun r (f : Fd) => r = f.cells) w 4 (.slice a N c2) m := ⟨fdRows m, k, by simp [fdRows], fun i x hx => ⟨x.cells, by simp [fdRows, hx], rfl⟩⟩
  refine h1.uniq h2 fun r s x y hr hs hj => ?_
  subst hr hs
  have j0 := hj 0 (by simp [Fd.cells]) (by simp [Fd.cells])
  have j1 := hj 1 (by simp [Fd.cells]) (by simp [Fd.cells])
  have j2 := hj 2 (by simp [Fd.cells]) (by simp [Fd.cells])
  have j3 := hj 3 (by simp [Fd.cells]) (by simp [Fd.cells])
  simp [Fd.cells] at j0 j1 j2 j3
  cases x; cases y; simp_all
theorem TrC.uniq : ∀ {n m : Nat} {w : World} {r s : List Value} {t u : Tr}, TrC n w r t → TrC m w s u → (∀ j : Nat, r[j]? ≠ none → s[j]? ≠ none → r[j]? = s[j]?) → t = u
  | 0, _, _, _, _, _, _, h, _, _ => h.elim
  | _ + 1, 0, _, _, _, _, _, _, h, _ => h.elim
  | n + 1, m + 1, w, r, s, t, u, h, k, hj => by
    obtain ⟨ve, vr, rfl, _, _, _, _, h6, h7⟩ := h
    obtain ⟨ve', vr', rfl, _, _, _, _, k6, k7⟩ := k
    have j0 := hj 0 (by simp) (by simp)
    have j1 := hj 1 (by simp) (by simp)
    have j2 := hj 2 (by simp) (by simp)
    have j3 := hj 3 (by simp) (by simp)
    have j4 := hj 4 (by simp) (by simp)
    simp at j0 j1 j2 j3 j4
    subst j3 j4
    obtain ⟨a1, c1, e1, _⟩ := h7.open
    obtain ⟨a2, c2, e2, _⟩ := h6.form2
    subst e1 e2
    have hes : t.es = u.es := h7.uniq k7 fun r s x y hp hq hj => by
      obtain ⟨vt, rfl, _, g3⟩ := hp
      obtain ⟨vt', rfl, _, g3'⟩ := hq
      have i0 := hj 0 (by simp) (by simp)
      have i1 := hj 1 (by simp) (by simp)
      simp at i0 i1
      subst i1
      obtain ⟨a3, c3, e3, _⟩ := g3.open
      subst e3
      have := g3.uniq g3' fun r s x y hp hq hj => hp.uniq hq hj
      exact Prod.ext i0 this
    have hrs : t.rest = u.rest := fd_uniq h6 k6
    cases t; cases u; simp_all
/-- A list's place. -/
def plOf (v : Value) : Pl := match v with
  | .slice a n _ => if n = 0 then (none, 0) else (a, n)
  | _ => (none, 0)
theorem plOf_ok {w : World} {v : Value} {P : List Value → (Int × List Tr) → Prop} {es : List (Int × List Tr)} (h : PlnV w v) (hr : RowP P w 2 v es) : PlOk w (plOf v) := by
  obtain ⟨a, cap, rfl, _, _, h4, _⟩ := hr.open
  intro b hb
  unfold plOf at hb
  simp only at hb
  split at hb
  · cases hb
  · rename_i hne
    simp only at hb
    subst hb
    rcases h4 with rfl | ⟨g, off, e⟩
    · exact absurd rfl hne
    · simp at e
      subst e
      exact h g off _ cap rfl hne
/-- One place, one list. -/
theorem pl_uniq {n m : Nat} {w : World} {v v' : Value} {es es' : List (Int × List Tr)} (h : EnsQ n w v es) (k : EnsQ m w v' es') (e : plOf v = plOf v') : es = es' := by
  obtain ⟨a, cap, rfl, _, _, h4, _⟩ := RowP.open h
  obtain ⟨a', cap', rfl, _, _, h4', _⟩ := RowP.open k
  unfold plOf at e
  simp only at e
  by_cases hn : es.length = 0
  · rw [if_pos hn] at e
    by_cases hn' : es'.length = 0
    · rw [List.eq_nil_of_length_eq_zero hn, List.eq_nil_of_length_eq_zero hn']
    · rw [if_neg hn'] at e
      simp at e
      exact absurd (e.2.symm ▸ rfl) hn'
  · rw [if_neg hn] at e
    by_cases hn' : es'.length = 0
    · rw [if_pos hn'] at e
      simp at e
      exact absurd e.2 (by intro h0; rw [h0] at hn; exact hn rfl)
    · rw [if_neg hn'] at e
      simp only [Prod.mk.injEq] at e
      obtain ⟨rfl, e2⟩ := e
      rw [← e2] at k
      refine RowP.uniq h k fun r s x y hp hq hj => ?_
      obtain ⟨vt, rfl, _, g3⟩ := hp
      obtain ⟨vt', rfl, _, g3'⟩ := hq
      have i0 := hj 0 (by simp) (by simp)
      have i1 := hj 1 (by simp) (by simp)
      simp at i0 i1
      subst i1
      obtain ⟨a3, c3, e3, _⟩ := g3.open
      subst e3
      exact Prod.ext i0 (g3.uniq g3' fun r s x y hp hq hj => hp.trC.uniq hq.trC hj)
end Go.Proofs.Ytgedelgdjcnogab
