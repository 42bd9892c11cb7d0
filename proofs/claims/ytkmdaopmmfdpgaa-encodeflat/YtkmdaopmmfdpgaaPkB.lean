/- Trees whose lists of entries lie in plain blocks; a list's place. -/
import Derived.WalkKit
import Derived.ProofKit
import Derived.OpenShut
import Derived.Below
import Derived.OwnWalk
import Derived.Laws.MathBits
import Derived.ArgAppend
import Derived.Laws.AppendOwn
import Derived.Laws.AppendOwnNone
import Derived.Laws.BytesArg
import Derived.Test.YtkmdaopmmfdpgaaPkA
import Derived.Test.YtkmdaopmmfdpgaaRows
namespace Go.Proofs.Ytkmdaopmmfdpgaa
open Go.ChangeShapes Go.WideShapes Go.ChangeAt Go.RowKit
set_option linter.unusedVariables false
set_option linter.unusedSimpArgs false
set_option maxRecDepth 20000

/-- A list lies in a plain block. -/
def PlnV (w : World) (v : Value) : Prop := ∀ g off n cap, v = .slice (some ⟨g, off, none⟩) n cap → n ≠ 0 → ∃ cs ty, w.heap[g]? = some (.cells cs ty (0, 0))
/-- A tree's cells, its lists of entries in plain blocks. -/
def TrQ : Nat → World → List Value → Tr → Prop
  | 0, _, _, _ => False
  | n + 1, w, r, t => ∃ ve vr, r = [.int .i64 t.kind, .int .i64 t.n, .string t.s, ve, vr] ∧ Is64 t.kind ∧ Is64 t.n ∧ t.s.size ≤ 140737488351232 ∧ Fd64 t.rest ∧ RowG w vr 4 (fdRows t.rest) ∧ RowP (EnC (TrQ n w) w) w 2 ve t.es ∧ PlnV w ve
abbrev TrsQ (n : Nat) (w : World) (v : Value) (ts : List Tr) : Prop := RowP (TrQ n w) w 5 v ts
abbrev EnsQ (n : Nat) (w : World) (v : Value) (es : List (Int × List Tr)) : Prop := RowP (EnC (TrQ n w) w) w 2 v es
theorem PlnV.below {w w1 : World} {v : Value} (h : PlnV w v) (hb : Below w.heap.size w w1) : PlnV w1 v := fun g off n cap e hn => by
  obtain ⟨cs, ty, h1⟩ := h g off n cap e hn
  exact ⟨cs, ty, (hb.block g (Array.getElem?_eq_some_iff.1 h1).1).trans h1⟩
theorem TrQ.below : ∀ {n : Nat} {w w1 : World} {r : List Value} {t : Tr}, TrQ n w r t → Below w.heap.size w w1 → TrQ n w1 r t
  | 0, _, _, _, _, h, _ => h
  | n + 1, w, w1, r, t, h, hb => by
    obtain ⟨ve, vr, h1, h2, h3, h4, h5, h6, h7, h8⟩ := h
    refine ⟨ve, vr, h1, h2, h3, h4, h5, h6.below hb, h7.mono hb fun r x hx hp => ?_, h8.below hb⟩
    obtain ⟨vt, g1, g2, g3⟩ := hp
    exact ⟨vt, g1, g2, g3.mono hb fun r x hx hp => hp.below hb⟩
theorem RowP.belowTQ {n : Nat} {w w1 : World} {v : Value} {ts : List Tr} (h : TrsQ n w v ts) (hb : Below w.heap.size w w1) : TrsQ n w1 v ts := RowP.mono h hb fun _ _ _ hp => hp.below hb
theorem RowP.belowEQ {n : Nat} {w w1 : World} {v : Value} {es : List (Int × List Tr)} (h : EnsQ n w v es) (hb : Below w.heap.size w w1) : EnsQ n w1 v es :=
  RowP.mono h hb fun _ _ _ hp => by
    obtain ⟨vt, g1, g2, g3⟩ := hp
    exact ⟨vt, g1, g2, g3.belowTQ hb⟩
theorem TrQ.trC : ∀ {n : Nat} {w : World} {r : List Value} {t : Tr}, TrQ n w r t → TrC n w r t
  | 0, _, _, _, h => h
  | n + 1, w, r, t, h => by
    obtain ⟨ve, vr, h1, h2, h3, h4, h5, h6, h7, h8⟩ := h
    refine ⟨ve, vr, h1, h2, h3, h4, h5, h6, h7.imp fun r x hx hp => ?_⟩
    obtain ⟨vt, g1, g2, g3⟩ := hp
    exact ⟨vt, g1, g2, g3.imp fun r x hx hp => hp.trC⟩
theorem own_pln {w : World} {B e s n : Nat} {v : Value} {xs : List Value} (h : w.ownsRow B e s v n xs) : PlnV w v := by
  intro g off m cap ev hm
  rcases h.2 with ⟨rfl, _⟩ | ⟨g', cap', cur, rfl, _, h3, _⟩
  · cases ev
  · simp at ev
    obtain ⟨⟨rfl, _⟩, _⟩ := ev
    exact ⟨cur, e, h3⟩
theorem TrO.trQ : ∀ {n B : Nat} {w : World} {r : List Value} {t : Tr} {bs : List Nat}, TrO n B w r t bs → TrQ n w r t
  | 0, _, _, _, _, _, h => h
  | n + 1, B, w, r, t, bs, h => by
    obtain ⟨ve, vr, rows, bss, h1, h2, h3, h4, h5, h6, h7, rfl⟩ := h
    refine ⟨ve, vr, h1, h2, h3, h4, h5, own_rest h6, h7.rowP (by decide) (fun r x b hx hp => ?_), own_pln h7.own⟩
    obtain ⟨vt, rows', bss', g1, g2, g3, rfl⟩ := hp
    exact ⟨vt, g1, g2, g3.rowP (by decide) fun r x b hx hp => hp.trQ⟩
/-- A row's elements are told by its cells. -/
theorem RowP.uniq {α : Type} {P Q : List Value → α → Prop} {w : World} {size : Nat} {a : Option Addr} {N c1 c2 : Nat} {xs ys : List α} (h : RowP P w size (.slice a N c1) xs) (k : RowP Q w size (.slice a N c2) ys)
    (hp : ∀ r s x y, P r x → Q s y → (∀ j : Nat, r[j]? ≠ none → s[j]? ≠ none → r[j]? = s[j]?) → x = y) : xs = ys := by
  obtain ⟨a1, c1', e1, _, _, _, _, _⟩ := h.open
  obtain ⟨a2, c2', e2, _, _, _, _, _⟩ := k.open
  simp only [Value.slice.injEq] at e1 e2
  obtain ⟨_, e1, _⟩ := e1
  obtain ⟨_, e2, _⟩ := e2
  refine List.ext_getElem? fun i => ?_
  by_cases hi : i < xs.length
  · obtain ⟨g, off, ha, r, hr, hcr⟩ := h.get (List.getElem?_eq_getElem hi)
    obtain ⟨g', off', ha', s, hs, hcs⟩ := k.get (i := i) (List.getElem?_eq_getElem (by omega))
    rw [ha] at ha'
    simp at ha'
    obtain ⟨rfl, rfl⟩ := ha'
    rw [List.getElem?_eq_getElem hi, List.getElem?_eq_getElem (by omega)]
    refine congrArg some (hp r s _ _ hr hs fun j h1 h2 => ?_)
    cases hrj : r[j]? with
    | none => exact absurd hrj h1
    | some u =>
      cases hsj : s[j]? with
      | none => exact absurd hsj h2
      | some u' =>
        have q1 := hcr j u hrj
        have q2 := hcs j u' hsj
        rw [q1] at q2
        exact q2
  · rw [List.getElem?_eq_none (by omega), List.getElem?_eq_none (by omega)]
theorem fd_uniq {w : World} {a : Option Addr} {N c1 c2 : Nat} {l m : List Fd} (h : RowG w (.slice a N c1) 4 (fdRows l)) (k : RowG w (.slice a N c2) 4 (fdRows m)) : l = m := by
  have h1 : RowP (fun r (f : Fd) => r = f.cells) w 4 (.slice a N c1) l := ⟨fdRows l, h, by simp [fdRows], fun i x hx => ⟨x.cells, by simp [fdRows, hx], rfl⟩⟩
  have h2 : RowP (fun r (f : Fd) => r = f.cells) w 4 (.slice a N c2) m := ⟨fdRows m, k, by simp [fdRows], fun i x hx => ⟨x.cells, by simp [fdRows, hx], rfl⟩⟩
  refine h1.uniq h2 fun r s x y hr hs hj => ?_
  subst hr hs
  have j0 := hj 0 (by simp [Fd.cells]) (by simp [Fd.cells])
  have j1 := hj 1 (by simp [Fd.cells]) (by simp [Fd.cells])
  have j2 := hj 2 (by simp [Fd.cells]) (by simp [Fd.cells])
  have j3 := hj 3 (by simp [Fd.cells]) (by simp [Fd.cells])
  simp [Fd.cells] at j0 j1 j2 j3
  cases x; cases y; simp_all
theorem TrC.uniq : ∀ {n m : Nat} {w : World} {r s : List Value} {t u : Tr}, TrC n w r t → TrC m w s u → (∀ j : Nat, r[j]? ≠ none → s[j]? ≠ none → r[j]? = s[j]?) → t = u
  | 0, _, _, _, _, _, _, h, _, _ => h.elim
  | _ + 1, 0, _, _, _, _, _, _, h, _ => h.elim
  | n + 1, m + 1, w, r, s, t, u, h, k, hj => by
    obtain ⟨ve, vr, rfl, _, _, _, _, h6, h7⟩ := h
    obtain ⟨ve', vr', rfl, _, _, _, _, k6, k7⟩ := k
    have j0 := hj 0 (by simp) (by simp)
    have j1 := hj 1 (by simp) (by simp)
    have j2 := hj 2 (by simp) (by simp)
    have j3 := hj 3 (by simp) (by simp)
    have j4 := hj 4 (by simp) (by simp)
    simp at j0 j1 j2 j3 j4
    subst j3 j4
    obtain ⟨a1, c1, e1, _⟩ := h7.open
    obtain ⟨a2, c2, e2, _⟩ := h6.form2
    subst e1 e2
    have hes : t.es = u.es := h7.uniq k7 fun r s x y hp hq hj => by
      obtain ⟨vt, rfl, _, g3⟩ := hp
      obtain ⟨vt', rfl, _, g3'⟩ := hq
      have i0 := hj 0 (by simp) (by simp)
      have i1 := hj 1 (by simp) (by simp)
      simp at i0 i1
      subst i1
      obtain ⟨a3, c3, e3, _⟩ := g3.open
      subst e3
      have := g3.uniq g3' fun r s x y hp hq hj => hp.uniq hq hj
      exact Prod.ext i0 this
    have hrs : t.rest = u.rest := fd_uniq h6 k6
    cases t; cases u; simp_all
/-- A list's place. -/
def plOf (v : Value) : Pl := match v with
  | .slice a n _ => if n = 0 then (none, 0) else (a, n)
  | _ => (none, 0)
theorem plOf_ok {w : World} {v : Value} {P : List Value → (Int × List Tr) → Prop} {es : List (Int × List Tr)} (h : PlnV w v) (hr : RowP P w 2 v es) : PlOk w (plOf v) := by
  obtain ⟨a, cap, rfl, _, _, h4, _⟩ := hr.open
  intro b hb
  unfold plOf at hb
  simp only at hb
  split at hb
  · cases hb
  · rename_i hne
    simp only at hb
    subst hb
    rcases h4 with rfl | ⟨g, off, e⟩
    · exact absurd rfl hne
    · simp at e
      subst e
      exact h g off _ cap rfl hne
/-- One place, one list. -/
theorem pl_uniq {n m : Nat} {w : World} {v v' : Value} {es es' : List (Int × List Tr)} (h : EnsQ n w v es) (k : EnsQ m w v' es') (e : plOf v = plOf v') : es = es' := by
  obtain ⟨a, cap, rfl, _, _, h4, _⟩ := RowP.open h
  obtain ⟨a', cap', rfl, _, _, h4', _⟩ := RowP.open k
  unfold plOf at e
  simp only at e
  by_cases hn : es.length = 0
  · rw [if_pos hn] at e
    by_cases hn' : es'.length = 0
    · rw [List.eq_nil_of_length_eq_zero hn, List.eq_nil_of_length_eq_zero hn']
    · rw [if_neg hn'] at e
      simp at e
      exact absurd (e.2.symm ▸ rfl) hn'
  · rw [if_neg hn] at e
    by_cases hn' : es'.length = 0
    · rw [if_pos hn'] at e
      simp at e
      exact absurd e.2 (by intro h0; rw [h0] at hn; exact hn rfl)
    · rw [if_neg hn'] at e
      simp only [Prod.mk.injEq] at e
      obtain ⟨rfl, e2⟩ := e
      rw [← e2] at k
      refine RowP.uniq h k fun r s x y hp hq hj => ?_
      obtain ⟨vt, rfl, _, g3⟩ := hp
      obtain ⟨vt', rfl, _, g3'⟩ := hq
      have i0 := hj 0 (by simp) (by simp)
      have i1 := hj 1 (by simp) (by simp)
      simp at i0 i1
      subst i1
      obtain ⟨a3, c3, e3, _⟩ := g3.open
      subst e3
      exact Prod.ext i0 (g3.uniq g3' fun r s x y hp hq hj => hp.trC.uniq hq.trC hj)
end Go.Proofs.Ytkmdaopmmfdpgaa

/- Split from VlMath. -/
namespace Go.Proofs.Ytkmdaopmmfdpgaa
set_option linter.unusedVariables false
set_option linter.unusedSimpArgs false

/-- Not deeper than n. -/
def DpN : Nat → Tr → Prop
  | 0, _ => False
  | n + 1, t => ∀ e ∈ t.es, ∀ x ∈ e.2, DpN n x
end Go.Proofs.Ytkmdaopmmfdpgaa

/- Split from VlRow. -/
namespace Go.Proofs.Ytkmdaopmmfdpgaa
open Go.ChangeShapes Go.WideShapes Go.ChangeAt Go.RowKit
set_option linter.unusedVariables false
set_option linter.unusedSimpArgs false
set_option maxRecDepth 20000

/-- Every block of cells is as it was. -/
def Cel (w w' : World) : Prop := ∀ (k : Nat) (cs : Array Value) (t : TypeId) (fz : Nat × Nat), w.heap[k]? = some (Obj.cells cs t fz) → w'.heap[k]? = some (Obj.cells cs t fz)
theorem Cel.refl (w : World) : Cel w w := fun _ _ _ _ h => h
theorem Cel.trans {a b c : World} (h : Cel a b) (k : Cel b c) : Cel a c := fun i cs t fz e => k i cs t fz (h i cs t fz e)
theorem Cel.ofBelow {w w' : World} (h : Below w.heap.size w w') : Cel w w' := fun k cs t fz e => (h.block k (Array.getElem?_eq_some_iff.1 e).1).trans e
theorem Cel.ofKp {S : Nat → Prop} {w w' : World} (h : Kp S w w') (hs : ∀ k cs t fz, w.heap[k]? = some (.cells cs t fz) → ¬ S k) : Cel w w' := fun k cs t fz e => (h.block k (Array.getElem?_eq_some_iff.1 e).1 (hs k cs t fz e)).trans e
theorem Cel.cell {w w' : World} (h : Cel w w') {p : Addr} {u : Value} (hc : w.cell? p = some u) : w'.cell? p = some u := by
  cases hb : w.heap[p.block]? with
  | none => simp [World.cell?, hb] at hc
  | some o =>
    cases o with
    | cells cs t fz =>
      have := h _ _ _ _ hb
      simp only [World.cell?, hb] at hc
      simp only [World.cell?, this]
      exact hc
    | _ => simp [World.cell?, hb] at hc
theorem RowG.cel {w w1 : World} {v : Value} {size : Nat} {rs : List (List Value)} (h : RowG w v size rs) (hb : Cel w w1) : RowG w1 v size rs := by
  obtain ⟨a, cap, h1, h2, h3, h0, h4⟩ := h.form
  refine ⟨a, cap, h1, h2, h3, h0, fun hne => ?_⟩
  obtain ⟨g, off, h5, h6⟩ := h4 hne
  exact ⟨g, off, h5, fun i c u j hc hu => hb.cell (h6 i c u j hc hu)⟩
theorem RowP.cel {α : Type} {P Q : List Value → α → Prop} {w w1 : World} {size : Nat} {v : Value} {xs : List α} (h : RowP P w size v xs) (hb : Cel w w1) (hp : ∀ r x, x ∈ xs → P r x → Q r x) : RowP Q w1 size v xs := by
  obtain ⟨rows, h1, h2, h3⟩ := h
  refine ⟨rows, h1.cel hb, h2, fun i x hx => ?_⟩
  obtain ⟨r, g1, g2⟩ := h3 i x hx
  exact ⟨r, g1, hp r x (List.mem_of_getElem? hx) g2⟩
theorem PlnV.cel {w w1 : World} {v : Value} (h : PlnV w v) (hb : Cel w w1) : PlnV w1 v := fun g off n cap e hn => by
  obtain ⟨cs, ty, h1⟩ := h g off n cap e hn
  exact ⟨cs, ty, hb _ _ _ _ h1⟩
theorem Blk.cel {w w' : World} {b : Nat} {cs : Array Value} {t : TypeId} (h : Blk w b cs t) (hb : Cel w w') : Blk w' b cs t := hb _ _ _ _ h
/-- A tree's cells, its lists in plain blocks. -/
def TrR : Nat → World → List Value → Tr → Prop
  | 0, _, _, _ => False
  | n + 1, w, r, t => ∃ ve vr, r = [.int .i64 t.kind, .int .i64 t.n, .string t.s, ve, vr] ∧ Is64 t.kind ∧ Is64 t.n ∧ t.s.size ≤ 140737488351232 ∧ Fd64 t.rest ∧ RowG w vr 4 (fdRows t.rest) ∧ RowP (EnC (TrR n w) w) w 2 ve t.es ∧ PlnV w ve ∧ PlnV w vr
abbrev TrsR (n : Nat) (w : World) (v : Value) (ts : List Tr) : Prop := RowP (TrR n w) w 5 v ts
abbrev EnsR (n : Nat) (w : World) (v : Value) (es : List (Int × List Tr)) : Prop := RowP (EnC (TrR n w) w) w 2 v es
theorem TrR.cel : ∀ {n : Nat} {w w1 : World} {r : List Value} {t : Tr}, TrR n w r t → Cel w w1 → TrR n w1 r t
  | 0, _, _, _, _, h, _ => h
  | n + 1, w, w1, r, t, h, hb => by
    obtain ⟨ve, vr, h1, h2, h3, h4, h5, h6, h7, h8, h9⟩ := h
    refine ⟨ve, vr, h1, h2, h3, h4, h5, h6.cel hb, h7.cel hb fun r x hx hp => ?_, h8.cel hb, h9.cel hb⟩
    obtain ⟨vt, g1, g2, g3⟩ := hp
    exact ⟨vt, g1, g2, RowP.cel g3 hb fun r x hx hp => hp.cel hb⟩
theorem RowP.celT {n : Nat} {w w1 : World} {v : Value} {ts : List Tr} (h : TrsR n w v ts) (hb : Cel w w1) : TrsR n w1 v ts := RowP.cel h hb fun _ _ _ hp => hp.cel hb
theorem RowP.celE {n : Nat} {w w1 : World} {v : Value} {es : List (Int × List Tr)} (h : EnsR n w v es) (hb : Cel w w1) : EnsR n w1 v es :=
  RowP.cel h hb fun _ _ _ hp => by
    obtain ⟨vt, g1, g2, g3⟩ := hp
    exact ⟨vt, g1, g2, g3.celT hb⟩
theorem TrR.trQ : ∀ {n : Nat} {w : World} {r : List Value} {t : Tr}, TrR n w r t → TrQ n w r t
  | 0, _, _, _, h => h
  | n + 1, w, r, t, h => by
    obtain ⟨ve, vr, h1, h2, h3, h4, h5, h6, h7, h8, h9⟩ := h
    refine ⟨ve, vr, h1, h2, h3, h4, h5, h6, h7.imp fun r x hx hp => ?_, h8⟩
    obtain ⟨vt, g1, g2, g3⟩ := hp
    exact ⟨vt, g1, g2, g3.imp fun r x hx hp => hp.trQ⟩
theorem TrO.trR : ∀ {n B : Nat} {w : World} {r : List Value} {t : Tr} {bs : List Nat}, TrO n B w r t bs → TrR n w r t
  | 0, _, _, _, _, _, h => h
  | n + 1, B, w, r, t, bs, h => by
    obtain ⟨ve, vr, rows, bss, h1, h2, h3, h4, h5, h6, h7, rfl⟩ := h
    refine ⟨ve, vr, h1, h2, h3, h4, h5, own_rest h6, h7.rowP (by decide) (fun r x b hx hp => ?_), own_pln h7.own, own_pln h6⟩
    obtain ⟨vt, rows', bss', g1, g2, g3, rfl⟩ := hp
    exact ⟨vt, g1, g2, g3.rowP (by decide) fun r x b hx hp => hp.trR⟩
theorem RowP.all {α : Type} {P : List Value → α → Prop} {w : World} {size : Nat} {v : Value} {xs : List α} (h : RowP P w size v xs) : ∀ x ∈ xs, ∃ r, P r x := fun x hx => by
  obtain ⟨rows, h1, h2, h3⟩ := h
  obtain ⟨i, hi, e⟩ := List.getElem_of_mem hx
  obtain ⟨r, _, g2⟩ := h3 i x (by rw [List.getElem?_eq_getElem hi, e])
  exact ⟨r, g2⟩
theorem TrR.dp : ∀ {n : Nat} {w : World} {r : List Value} {t : Tr}, TrR n w r t → DpN n t
  | 0, _, _, _, h => h
  | n + 1, w, r, t, h => by
    obtain ⟨ve, vr, h1, h2, h3, h4, h5, h6, h7, h8, h9⟩ := h
    intro e he x hx
    obtain ⟨r', vt, _, _, g3⟩ := h7.all e he
    obtain ⟨r'', hp⟩ := RowP.all g3 x hx
    exact hp.dp
/-- A tree's value. -/
def TrW (n : Nat) (w : World) (v : Value) (t : Tr) : Prop := ∃ r, v = .agg r.toArray ∧ TrR n w r t
theorem TrW.cel {n : Nat} {w w1 : World} {v : Value} {t : Tr} (h : TrW n w v t) (hb : Cel w w1) : TrW n w1 v t := by
  obtain ⟨r, h1, h2⟩ := h
  exact ⟨r, h1, h2.cel hb⟩
theorem TrV.trW {n B : Nat} {w : World} {v : Value} {t : Tr} {bs : List Nat} (h : TrV n B w v t bs) : TrW n w v t := by
  obtain ⟨r, h1, h2, _⟩ := h
  exact ⟨r, h1, h2.trR⟩
/-- A tree, opened. -/
theorem TrW.open {n : Nat} {w : World} {v : Value} {t : Tr} (h : TrW n w v t) : ∃ m a1 c1 a2 c2, n = m + 1 ∧ v = .agg #[.int .i64 t.kind, .int .i64 t.n, .string t.s, .slice a1 t.es.length c1, .slice a2 t.rest.length c2] ∧ Is64 t.kind ∧ Is64 t.n ∧ t.s.size ≤ 140737488351232 ∧ t.es.length ≤ c1 ∧ c1 ≤ maxLen ∧ t.rest.length ≤ c2 ∧ c2 ≤ maxLen ∧
    (t.es.length = 0 ∨ ∃ g off, a1 = some ⟨g, off, none⟩) ∧ (t.rest.length = 0 ∨ ∃ g off, a2 = some ⟨g, off, none⟩) ∧ RowG w (.slice a2 t.rest.length c2) 4 (fdRows t.rest) ∧ EnsR m w (.slice a1 t.es.length c1) t.es ∧ PlnV w (.slice a1 t.es.length c1) ∧ PlnV w (.slice a2 t.rest.length c2) := by
  obtain ⟨r, rfl, h⟩ := h
  cases n with
  | zero => exact h.elim
  | succ m =>
    obtain ⟨ve, vr, rfl, h2, h3, h4, h5, h6, h7, h8, h9⟩ := h
    obtain ⟨a1, c1, rfl, u1, u2, u3, -⟩ := RowP.open h7
    obtain ⟨a2, c2, rfl, x1, x2, x3, -⟩ := rest_holds h6
    exact ⟨m, a1, c1, a2, c2, rfl, rfl, h2, h3, h4, u1, u2, x1, x2, u3.imp (fun h => by rw [h]; rfl) id, x3.imp (fun h => by rw [h]; rfl) id, h6, h7, h8, h9⟩
/-- A row of trees: an element. -/
theorem trsR_get {n : Nat} {w : World} {a : Option Addr} {N cap : Nat} {ts : List Tr} (h : TrsR n w (.slice a N cap) ts) {i : Nat} {t : Tr} (hi : ts[i]? = some t) :
    ∃ g off a1 n1 c1 a2 n2 c2, a = some ⟨g, off, none⟩ ∧ w.cell? ⟨g, off + i * 5, none⟩ = some (.int .i64 t.kind) ∧ w.cell? ⟨g, off + i * 5 + 1, none⟩ = some (.int .i64 t.n) ∧ w.cell? ⟨g, off + i * 5 + 2, none⟩ = some (.string t.s) ∧ w.cell? ⟨g, off + i * 5 + 3, none⟩ = some (.slice a1 n1 c1) ∧ w.cell? ⟨g, off + i * 5 + 4, none⟩ = some (.slice a2 n2 c2) ∧
      TrW n w (.agg #[.int .i64 t.kind, .int .i64 t.n, .string t.s, .slice a1 n1 c1, .slice a2 n2 c2]) t := by
  obtain ⟨g, off, ha, r, hr, hc⟩ := RowP.get h hi
  obtain ⟨m, a1, c1, a2, c2, rfl, e, _⟩ := TrW.open ⟨r, rfl, hr⟩
  have e1 : r = [.int .i64 t.kind, .int .i64 t.n, .string t.s, .slice a1 t.es.length c1, .slice a2 t.rest.length c2] := by simpa using e
  subst e1
  exact ⟨g, off, a1, _, c1, a2, _, c2, ha, hc 0 _ rfl, hc 1 _ rfl, hc 2 _ rfl, hc 3 _ rfl, hc 4 _ rfl, _, rfl, hr⟩
/-- A row of entries: an element. -/
theorem ensR_get {n : Nat} {w : World} {a : Option Addr} {N cap : Nat} {es : List (Int × List Tr)} (h : EnsR n w (.slice a N cap) es) {i : Nat} {e : Int × List Tr} (hi : es[i]? = some e) :
    ∃ g off a1 c1, a = some ⟨g, off, none⟩ ∧ w.cell? ⟨g, off + i * 2, none⟩ = some (.int .i64 e.1) ∧ w.cell? ⟨g, off + i * 2 + 1, none⟩ = some (.slice a1 e.2.length c1) ∧ Is64 e.1 ∧ TrsR n w (.slice a1 e.2.length c1) e.2 ∧ e.2.length ≤ c1 ∧ c1 ≤ maxLen := by
  obtain ⟨g, off, ha, r, ⟨vt, rfl, h2, h3⟩, hc⟩ := RowP.get h hi
  obtain ⟨a1, c1, rfl, u1, u2, -⟩ := RowP.open h3
  exact ⟨g, off, a1, c1, ha, hc 0 _ rfl, hc 1 _ rfl, h2, h3, u1, u2⟩
/-- A tree's parts by its value. -/
theorem TrW.parts {n : Nat} {w : World} {t : Tr} {K N : Int} {S : ByteArray} {a1 a2 : Option Addr} {n1 c1 n2 c2 : Nat} (h : TrW n w (.agg #[.int .i64 K, .int .i64 N, .string S, .slice a1 n1 c1, .slice a2 n2 c2]) t) : t.kind = K ∧ t.n = N ∧ t.s = S ∧ t.es.length = n1 ∧ t.rest.length = n2 := by
  obtain ⟨m, a1', c1', a2', c2', -, e, -⟩ := h.open
  simp only [Value.agg.injEq, Array.mk.injEq, List.cons.injEq, Value.int.injEq, Value.string.injEq, Value.slice.injEq, and_true, true_and] at e
  obtain ⟨e1, e2, e3, ⟨-, e4, -⟩, -, e5, -⟩ := e
  exact ⟨e1.symm, e2.symm, e3.symm, e4.symm, e5.symm⟩
end Go.Proofs.Ytkmdaopmmfdpgaa

/- Split from VlKey. -/
namespace Go.Proofs.Ytkmdaopmmfdpgaa
open Go.ChangeShapes Go.WideShapes Go.ChangeAt Go.RowKit
set_option linter.unusedVariables false
set_option linter.unusedSimpArgs false
set_option maxRecDepth 20000

theorem eql_ptrR (w : World) (d : Nat) (p q : Option Addr) (hp : ∀ a, p = some a → ∃ cs ty, w.heap[a.block]? = some (.cells cs ty (0, 0))) (hq : ∀ a, q = some a → ∃ cs ty, w.heap[a.block]? = some (.cells cs ty (0, 0))) :
    (Op.equalIn (d + 1) 94 (.pointer p) (.pointer q)).run Try.prog w = .ok (decide (p = q)) w := by
  have hu : Try.prog.underlying 94 = some (.pointer 46) := by kernel_rfl
  have hi : (Try.prog.info? 46).map (fun i => i.size) = some 4 := by kernel_rfl
  obtain ⟨j, hj, hs⟩ : ∃ j, Try.prog.info? 46 = some j ∧ j.size = 4 := by
    cases h : Try.prog.info? 46 with
    | none => rw [h] at hi; cases hi
    | some j => rw [h] at hi; exact ⟨j, rfl, by simpa using hi⟩
  cases p with
  | none => cases q <;> simp [Op.equalIn, run_underlying hu]
  | some a =>
    cases q with
    | none => simp [Op.equalIn, run_underlying hu]
    | some b =>
      by_cases e : a = b
      · subst e
        simp [Op.equalIn, run_underlying hu, sizeOf, typeInfo, hj, hs, run_sameAddr_same]
      · obtain ⟨ca, ta, ha⟩ := hp a rfl
        obtain ⟨cb, tb, hb⟩ := hq b rfl
        simp [Op.equalIn, run_underlying hu, sizeOf, typeInfo, hj, hs, run_sameAddr_other w e ha hb, e]
theorem toList_ne {a b : ByteArray} (h : ¬ a = b) : ¬ a.toList = b.toList := fun e => h (by
  rw [ByteArray.toList_eq, ByteArray.toList_eq] at e
  obtain ⟨⟨l⟩⟩ := a
  obtain ⟨⟨m⟩⟩ := b
  simp only at e
  subst e
  rfl)
/-- A key that is there: where. -/
theorem find_askI {T : TypeId} {w : World} {k : Value} : ∀ (l : List MapEntry) (i : Nat), Told T w k (l.map MapEntry.key) → (∀ e ∈ l, e.val = .agg #[]) → k ∈ l.map MapEntry.key →
    ∃ j e, (Instr.findAsking T k l i).run Try.prog w = .ok (some (i + j, .agg #[])) w ∧ l[j]? = some e ∧ e.key = k
  | [], i, _, _, h => by cases h
  | e :: l, i, ht, hv, hm => by
    obtain ⟨h1, h2⟩ := ht e.key (List.mem_cons_self ..)
    have h3 := hv e (List.mem_cons_self ..)
    by_cases hke : k = e.key
    · refine ⟨0, e, ?_, rfl, hke.symm⟩
      unfold Instr.findAsking
      rw [Sem.run_bind, h1 hke]
      simp [Result.andThen, h3]
    · have hrun : (Instr.findAsking T k (e :: l) i).run Try.prog w = (Instr.findAsking T k l (i + 1)).run Try.prog w := by
        conv => lhs; unfold Instr.findAsking
        rw [Sem.run_bind, h2 hke]
        simp [Result.andThen]
      rcases List.mem_cons.1 hm with h | h
      · exact absurd h hke
      · obtain ⟨j, e', g1, g2, g3⟩ := find_askI l (i + 1) (fun q hq => ht q (List.mem_cons_of_mem _ hq)) (fun x hx => hv x (List.mem_cons_of_mem _ hx)) h
        exact ⟨j + 1, e', by rw [hrun, g1]; congr 3; omega, by simpa using g2, g3⟩
/-- A key that is there is put once more. -/
theorem again_pl {T MT E : TypeId} {w : World} {k : Value} {L : List Value} {b : Nat} (hm : Try.prog.underlying MT = some (.map T E)) {fs : TypeDesc} (hu : Try.prog.underlying T = some fs) (hf : ∀ k q, Instr.sameNow fs (.agg k) q = none) {ks : Array Value} (hk : k = .agg ks) (hsb : Instr.sameBits 10000 k k = true)
    (hc : ∀ e, (Instr.checkKey e 10000 T k).run Try.prog w = .ok () w) (hs : PlSet w b L) (ht : Told T w k L) (hn : k ∈ L) :
    ∃ w', (Instr.mapUpdate MT (.map (some b)) k (.agg #[])).run Try.prog w = .ok () w' ∧ PlSet w' b L ∧ Kp (fun q => q = b) w w' := by
  have hs0 := hs
  obtain ⟨es, c, h1, rfl, h3⟩ := hs
  obtain ⟨j, e, g1, g2, g3⟩ := find_askI es.toList 0 ht h3 hn
  have hne : ∃ a l, es.toList = a :: l := by
    cases h : es.toList with
    | nil => rw [h] at hn; cases hn
    | cons a l => exact ⟨a, l, rfl⟩
  obtain ⟨a, l, hal⟩ := hne
  have hj : (Instr.findKey T k es.toList).run Try.prog w = .ok (some (j, .agg #[])) w := by
    rw [hal] at g1 ⊢
    have h1 : Instr.findNow fs k (a :: l) 0 = none := by rw [hk]; simp [Instr.findNow, hf]
    rw [Nat.zero_add] at g1
    rw [← g1]
    simp [Instr.findKey, run_underlying hu, h1]
  have hgo : (getObj b).run Try.prog w = .ok (.map es c) w := by simp [getObj, Sem.run, h1]
  have hse : ∀ o, (setObj b o).run Try.prog w = .ok () { w with heap := w.heap.setIfInBounds b o } := fun o => by simp [setObj, Sem.run, h1]
  have hej : es[j]? = some e := by simpa using g2
  have hkt : (Instr.keyThatStays (((es[j]?).map (·.key)).getD k) k).run Try.prog w = .ok k w := by
    rw [hej]
    simp [Instr.keyThatStays, g3, hsb]
  have hmod : (es.modify j fun e => { e with key := k, val := .agg #[] }) = es := by
    have hv := h3 e (List.mem_of_getElem? g2)
    refine Array.ext_getElem? fun i => ?_
    rw [Array.getElem?_modify]
    by_cases hij : j = i
    · subst hij
      rw [if_pos rfl, hej]
      simp [← g3, ← hv]
    · rw [if_neg hij]
  refine ⟨{ w with heap := w.heap.setIfInBounds b (.map es c) }, ?_, ?_, ?_⟩
  · simp [Instr.mapUpdate, run_underlying hm, hgo, hc, hj, hkt, hse, hmod]
  · refine ⟨es, c, ?_, rfl, h3⟩
    have := (Array.getElem?_eq_some_iff.1 h1).1
    simp [this]
  · refine ⟨rfl, rfl, rfl, by simp, fun q hq hs => ?_⟩
    simp only
    rw [Array.getElem?_setIfInBounds_ne (Ne.symm hs)]
theorem plOf_ok4 {w : World} {v : Value} {l : List Fd} (h : PlnV w v) (hr : RowG w v 4 (fdRows l)) : PlOk w (plOf v) := by
  obtain ⟨a, cap, rfl, _, _, h4, _⟩ := rest_holds hr
  intro b hb
  unfold plOf at hb
  simp only at hb
  split at hb
  · cases hb
  · rename_i hne
    simp only at hb
    subst hb
    rcases h4 with rfl | ⟨g, off, e⟩
    · exact absurd rfl hne
    · simp at e
      subst e
      exact h g off _ cap rfl hne
theorem pl_uniq4 {w : World} {v v' : Value} {l l' : List Fd} (h : RowG w v 4 (fdRows l)) (k : RowG w v' 4 (fdRows l')) (e : plOf v = plOf v') : l = l' := by
  obtain ⟨a, cap, rfl, _, _, h4, _⟩ := rest_holds h
  obtain ⟨a', cap', rfl, _, _, h4', _⟩ := rest_holds k
  unfold plOf at e
  simp only at e
  by_cases hn : l.length = 0
  · rw [if_pos hn] at e
    by_cases hn' : l'.length = 0
    · rw [List.eq_nil_of_length_eq_zero hn, List.eq_nil_of_length_eq_zero hn']
    · rw [if_neg hn'] at e
      simp at e
      exact absurd (e.2.symm ▸ rfl) hn'
  · rw [if_neg hn] at e
    by_cases hn' : l'.length = 0
    · rw [if_pos hn'] at e
      simp at e
      exact absurd e.2 (by intro h0; rw [h0] at hn; exact hn rfl)
    · rw [if_neg hn'] at e
      simp only [Prod.mk.injEq] at e
      obtain ⟨rfl, e2⟩ := e
      rw [← e2] at k
      exact fd_uniq h k
theorem EnC.trQ {n : Nat} {w : World} {v : Value} {es : List (Int × List Tr)} (h : EnsR n w v es) : EnsQ n w v es := RowP.imp h fun r x hx hp => by
  obtain ⟨vt, g1, g2, g3⟩ := hp
  exact ⟨vt, g1, g2, g3.imp fun r x hx hp => hp.trQ⟩
end Go.Proofs.Ytkmdaopmmfdpgaa

/- A map with values, its keys told apart. -/
namespace Go.Proofs.Ytkmdaopmmfdpgaa
open Go.ChangeShapes Go.WideShapes Go.ChangeAt Go.RowKit
set_option linter.unusedVariables false
set_option linter.unusedSimpArgs false
set_option maxRecDepth 20000

/-- Block b is a map of just these keys and values. -/
def PlMap (w : World) (b : Nat) (L : List (Value × Value)) : Prop := ∃ es clock, w.heap[b]? = some (.map es clock) ∧ es.toList.map (fun e => (e.key, e.val)) = L
theorem PlMap.lt {w : World} {b : Nat} {L : List (Value × Value)} (h : PlMap w b L) : b < w.heap.size := by
  obtain ⟨es, c, h, _⟩ := h
  exact (Array.getElem?_eq_some_iff.1 h).1
theorem PlMap.kp {S : Nat → Prop} {w w1 : World} {b : Nat} {L : List (Value × Value)} (h : PlMap w b L) (hk : Kp S w w1) (hs : ¬ S b) : PlMap w1 b L := by
  have hl := h.lt
  obtain ⟨es, c, h1, h2⟩ := h
  exact ⟨es, c, (hk.block b hl hs).trans h1, h2⟩
theorem PlMap.below {w w1 : World} {b : Nat} {L : List (Value × Value)} (h : PlMap w b L) (hk : Below w.heap.size w w1) : PlMap w1 b L := h.kp (S := fun _ => False) (Kp.ofBelow hk) (fun e => e)
theorem PlMap.made (w : World) : PlMap (w.alloc (.map #[] 0)) w.heap.size [] := ⟨#[], 0, heap_alloc_new w _, rfl⟩
theorem PlMap.neB {w : World} {b : Nat} {L : List (Value × Value)} (h : PlMap w b L) {g : Nat} {cs : Array Value} {t : TypeId} {fz : Nat × Nat} (hc : w.heap[g]? = some (.cells cs t fz)) : g ≠ b := by
  rintro rfl
  obtain ⟨es, c, hb, _⟩ := h
  rw [hb] at hc; cases hc
section
variable {T MT : TypeId} {w : World} {k : Value}
theorem find_askM : ∀ (l : List MapEntry) (i : Nat), Told T w k (l.map MapEntry.key) →
    (∃ j e, (Instr.findAsking T k l i).run Try.prog w = .ok (some (i + j, e.val)) w ∧ l[j]? = some e ∧ e.key = k) ∨ ((Instr.findAsking T k l i).run Try.prog w = .ok none w ∧ k ∉ l.map MapEntry.key)
  | [], i, _ => .inr (by simp [Instr.findAsking])
  | e :: l, i, ht => by
    obtain ⟨h1, h2⟩ := ht e.key (List.mem_cons_self ..)
    by_cases hke : k = e.key
    · refine .inl ⟨0, e, ?_, rfl, hke.symm⟩
      unfold Instr.findAsking
      rw [Sem.run_bind, h1 hke]
      simp [Result.andThen]
    · have hrun : (Instr.findAsking T k (e :: l) i).run Try.prog w = (Instr.findAsking T k l (i + 1)).run Try.prog w := by
        conv => lhs; unfold Instr.findAsking
        rw [Sem.run_bind, h2 hke]
        simp [Result.andThen]
      rcases find_askM l (i + 1) (fun q hq => ht q (List.mem_cons_of_mem _ hq)) with ⟨j, e', g1, g2, g3⟩ | ⟨g1, g2⟩
      · exact .inl ⟨j + 1, e', by rw [hrun, g1]; congr 3; omega, by simpa using g2, g3⟩
      · refine .inr ⟨hrun.trans g1, fun h => ?_⟩
        rcases List.mem_cons.1 h with h | h
        · exact hke h
        · exact g2 h
theorem find_keyM {fs : TypeDesc} (hu : Try.prog.underlying T = some fs) (hf : ∀ k q, Instr.sameNow fs (.agg k) q = none) {ks : Array Value} (hk : k = .agg ks) (l : List MapEntry) (ht : Told T w k (l.map MapEntry.key)) :
    (∃ j e, (Instr.findKey T k l).run Try.prog w = .ok (some (j, e.val)) w ∧ l[j]? = some e ∧ e.key = k) ∨ ((Instr.findKey T k l).run Try.prog w = .ok none w ∧ k ∉ l.map MapEntry.key) := by
  cases l with
  | nil => exact .inr (by simp [Instr.findKey, run_underlying hu, Instr.findNow])
  | cons e l =>
    have h1 : Instr.findNow fs k (e :: l) 0 = none := by rw [hk]; simp [Instr.findNow, hf]
    have h2 : (Instr.findKey T k (e :: l)).run Try.prog w = (Instr.findAsking T k (e :: l) 0).run Try.prog w := by
      simp [Instr.findKey, run_underlying hu, h1]
    rw [h2]
    have := find_askM (e :: l) 0 ht
    simpa using this
variable {E : TypeId} {L : List (Value × Value)} {b : Nat}
theorem keys_of {es : Array MapEntry} : (es.toList.map (fun e => (e.key, e.val))).map Prod.fst = es.toList.map MapEntry.key := by simp [Function.comp_def]
/-- A look: what stands there, or the zero value. -/
theorem look_map (hm : Try.prog.underlying MT = some (.map T E)) {z : Value} (hz : ∀ w, (zeroValue E).run Try.prog w = .ok z w) {fs : TypeDesc} (hu : Try.prog.underlying T = some fs) (hf : ∀ k q, Instr.sameNow fs (.agg k) q = none) {ks : Array Value} (hk : k = .agg ks)
    (hc : ∀ e, (Instr.checkKey e 10000 T k).run Try.prog w = .ok () w) (hs : PlMap w b L) (ht : Told T w k (L.map Prod.fst)) :
    (∃ v, (k, v) ∈ L ∧ (Instr.lookup MT (.map (some b)) k true).run Try.prog w = .ok (.tuple #[v, .bool true]) w) ∨ (k ∉ L.map Prod.fst ∧ (Instr.lookup MT (.map (some b)) k true).run Try.prog w = .ok (.tuple #[z, .bool false]) w) := by
  obtain ⟨es, c, h1, rfl⟩ := hs
  rw [keys_of] at ht ⊢
  have hgo : (getObj b).run Try.prog w = .ok (.map es c) w := by simp [getObj, Sem.run, h1]
  rcases find_keyM hu hf hk es.toList ht with ⟨j, e, hj, g2, g3⟩ | ⟨hj, g2⟩
  · refine .inl ⟨e.val, List.mem_map.2 ⟨e, List.mem_of_getElem? g2, by rw [g3]⟩, ?_⟩
    simp [Instr.lookup, run_underlying hm, hgo, hc, hj]
  · refine .inr ⟨g2, ?_⟩
    simp [Instr.lookup, run_underlying hm, hgo, hc, hj, hz]
/-- A key's value is put. -/
theorem update_map (hm : Try.prog.underlying MT = some (.map T E)) {fs : TypeDesc} (hu : Try.prog.underlying T = some fs) (hf : ∀ k q, Instr.sameNow fs (.agg k) q = none) {ks : Array Value} (hk : k = .agg ks) (hsb : Instr.sameBits 10000 k k = true)
    (hc : ∀ e, (Instr.checkKey e 10000 T k).run Try.prog w = .ok () w) (hs : PlMap w b L) (ht : Told T w k (L.map Prod.fst)) (v : Value) :
    ∃ w' L', (Instr.mapUpdate MT (.map (some b)) k v).run Try.prog w = .ok () w' ∧ PlMap w' b L' ∧ (∀ p ∈ L', p ∈ L ∨ p = (k, v)) ∧ (k, v) ∈ L' ∧ (∀ p ∈ L, p.1 ≠ k → p ∈ L') ∧ Kp (fun q => q = b) w w' ∧ w'.heap.size = w.heap.size := by
  obtain ⟨es, c, h1, rfl⟩ := hs
  rw [keys_of] at ht
  have hgo : (getObj b).run Try.prog w = .ok (.map es c) w := by simp [getObj, Sem.run, h1]
  have hse : ∀ o, (setObj b o).run Try.prog w = .ok () { w with heap := w.heap.setIfInBounds b o } := fun o => by simp [setObj, Sem.run, h1]
  have hlt := (Array.getElem?_eq_some_iff.1 h1).1
  have hkp : ∀ o, Kp (fun q => q = b) w { w with heap := w.heap.setIfInBounds b o } := fun o => ⟨rfl, rfl, rfl, by simp, fun q hq hs => by
    simp only
    rw [Array.getElem?_setIfInBounds_ne (Ne.symm hs)]⟩
  rcases find_keyM hu hf hk es.toList ht with ⟨j, e, hj, g2, g3⟩ | ⟨hj, g2⟩
  · have hej : es[j]? = some e := by simpa using g2
    have hkt : (Instr.keyThatStays (((es[j]?).map (·.key)).getD k) k).run Try.prog w = .ok k w := by
      rw [hej]
      simp [Instr.keyThatStays, g3, hsb]
    have hmem : ∀ x, x ∈ (es.modify j fun e => { e with key := k, val := v }).toList ↔ ∃ i y, es[i]? = some y ∧ x = if j = i then { y with key := k, val := v } else y := fun x => by
      rw [Array.mem_toList_iff, Array.mem_iff_getElem?]
      constructor
      · rintro ⟨i, hi⟩
        rw [Array.getElem?_modify] at hi
        split at hi
        · rename_i hij
          subst hij
          rw [hej] at hi
          simp at hi
          exact ⟨j, e, hej, by rw [if_pos rfl]; exact hi.symm⟩
        · rename_i hij
          exact ⟨i, x, hi, by rw [if_neg hij]⟩
      · rintro ⟨i, y, hi, rfl⟩
        refine ⟨i, ?_⟩
        rw [Array.getElem?_modify]
        split
        · rename_i hij
          rw [hi]; rfl
        · exact hi
    refine ⟨{ w with heap := w.heap.setIfInBounds b (.map (es.modify j fun e => { e with key := k, val := v }) c) }, _, ?_, ⟨es.modify j fun e => { e with key := k, val := v }, c, ?_, rfl⟩, ?_, ?_, ?_, hkp _, by simp⟩
    · simp [Instr.mapUpdate, run_underlying hm, hgo, hc, hj, hkt, hse]
    · simp [hlt]
    · intro p hp
      obtain ⟨x, hx, rfl⟩ := List.mem_map.1 hp
      obtain ⟨i, y, hi, rfl⟩ := (hmem x).1 hx
      split
      · exact .inr rfl
      · exact .inl (List.mem_map.2 ⟨y, by rw [Array.mem_toList_iff]; exact Array.mem_of_getElem? hi, rfl⟩)
    · exact List.mem_map.2 ⟨{ e with key := k, val := v }, (hmem _).2 ⟨j, e, hej, by rw [if_pos rfl]⟩, rfl⟩
    · intro p hp hne
      obtain ⟨x, hx, rfl⟩ := List.mem_map.1 hp
      rw [Array.mem_toList_iff, Array.mem_iff_getElem?] at hx
      obtain ⟨i, hi⟩ := hx
      refine List.mem_map.2 ⟨x, (hmem _).2 ⟨i, x, hi, ?_⟩, rfl⟩
      rw [if_neg]
      intro hij
      subst hij
      rw [hej] at hi
      obtain rfl : e = x := by simpa using hi
      exact hne g3
  · refine ⟨{ w with heap := w.heap.setIfInBounds b (.map (es.push { key := k, val := v, born := c }) (c + 1)) }, _, ?_, ⟨es.push { key := k, val := v, born := c }, c + 1, ?_, rfl⟩, ?_, ?_, ?_, hkp _, by simp⟩
    · simp [Instr.mapUpdate, run_underlying hm, hgo, hc, hj, hse]
    · simp [hlt]
    · intro p hp
      simp only [Array.toList_push, List.map_append, List.map_cons, List.map_nil, List.mem_append, List.mem_singleton] at hp
      exact hp
    · simp
    · intro p hp _
      simp only [Array.toList_push, List.map_append, List.mem_append]
      exact .inl hp
end
end Go.Proofs.Ytkmdaopmmfdpgaa

/- Rows of bytes: what stands in a slice; made, owned, joined, come in; its text. -/
namespace Go.Proofs.Ytkmdaopmmfdpgaa
open Go.ChangeShapes Go.WideShapes Go.ChangeAt Go.RowKit
set_option linter.unusedVariables false
set_option maxRecDepth 20000

theorem infoByte : (Try.prog.info? 5).map (fun i => (i.zero, i.size, i.bytes)) = some (some (.int .u8 0), 1, 1) := by kernel_rfl
def byteCells (ns : List Nat) : List Value := ns.map fun (c : Nat) => Value.int .u8 (c : Int)

/-- Bytes that stand in a slice. -/
def Holds (w : World) (a : Option Addr) (ns : List Nat) : Prop := ∀ b, a = some b → ∀ j u, (byteCells ns)[j]? = some u → w.cell? (b.add j) = some u

theorem info_parts {e : Nat} {z : Value} {s b : Nat} (h : (Try.prog.info? e).map (fun i => (i.zero, i.size, i.bytes)) = some (some z, s, b)) :
    ∃ i, Try.prog.info? e = some i ∧ i.zero = some z ∧ i.size = s ∧ i.bytes = b := by
  cases hi : Try.prog.info? e with
  | none => rw [hi] at h; simp at h
  | some i => rw [hi] at h; simp at h; exact ⟨i, rfl, h.1, h.2.1, h.2.2⟩

theorem Holds.below {w w1 : World} {a : Option Addr} {ns : List Nat} (h : Holds w a ns) (hb : Below w.heap.size w w1) : Holds w1 a ns := by
  intro b hab j u hu
  have := h b hab j u hu
  rw [hb.cell (World.block_lt_of_cell? _ _ this)]
  exact this

theorem own_mono {w : World} {base base' : Nat} {e : TypeId} {v : Value} {n : Nat} {xs : List Value} (h : w.ownsRow base e 1 v n xs) (hb : base' ≤ base) : w.ownsRow base' e 1 v n xs := by
  refine ⟨h.1, ?_⟩
  rcases h.2 with h | ⟨g, cap, cur, h1, h2, h3⟩
  · exact .inl h
  · exact .inr ⟨g, cap, cur, h1, Nat.le_trans hb h2, h3⟩
theorem byteCells_get (ns : List Nat) (j : Nat) (h : j < ns.length) : (byteCells ns)[j]? = some (.int .u8 ((ns.getD j 0 : Nat) : Int)) := by
  simp [byteCells, List.getD_eq_getElem?_getD, List.getElem?_eq_getElem h]
theorem byteCells_len (ns : List Nat) : (byteCells ns).length = ns.length := by simp [byteCells]
theorem Holds.at {w : World} {g off : Nat} {ns : List Nat} (h : Holds w (some ⟨g, off, none⟩) ns) (j : Nat) (hj : j < ns.length) : w.cell? ⟨g, off + j, none⟩ = some (.int .u8 ((ns.getD j 0 : Nat) : Int)) := by
  have := h _ rfl j _ (byteCells_get ns j hj)
  rwa [Addr.add_lit] at this
theorem Holds.of {w : World} {g off : Nat} {ns : List Nat} (h : ∀ j, j < ns.length → w.cell? ⟨g, off + j, none⟩ = some (.int .u8 ((ns.getD j 0 : Nat) : Int))) : Holds w (some ⟨g, off, none⟩) ns := by
  intro b hb j u hu
  obtain rfl : ⟨g, off, none⟩ = b := by simpa using hb
  have hj : j < ns.length := by
    rcases Nat.lt_or_ge j ns.length with h | h
    · exact h
    · rw [List.getElem?_eq_none (by rw [byteCells_len]; exact h)] at hu; cases hu
  rw [byteCells_get ns j hj] at hu
  rw [Addr.add_lit, h j hj]
  exact hu
theorem Holds.nil {w : World} {a : Option Addr} : Holds w a [] := by
  intro b _ j u hu
  simp [byteCells] at hu
theorem Holds.take {w : World} {a : Option Addr} {ns ms : List Nat} (h : Holds w a (ns ++ ms)) : Holds w a ns := by
  intro b hb j u hu
  refine h b hb j u ?_
  have e : byteCells (ns ++ ms) = byteCells ns ++ byteCells ms := by simp [byteCells]
  rw [e, List.getElem?_append_left]
  · exact hu
  · exact (List.getElem?_eq_some_iff.1 hu).1

/-- A row of the call's own, opened. -/
theorem own_open {w : World} {B : Nat} {r : Value} {n : Nat} {ns : List Nat} (h : w.ownsRow B 5 1 r n (byteCells ns)) :
    ∃ a cap, r = .slice a ns.length cap ∧ n = ns.length ∧ ((a = none ∧ ns = [] ∧ cap = 0) ∨ ∃ g, a = some ⟨g, 0, none⟩ ∧ B ≤ g ∧ g < w.heap.size) ∧ ns.length ≤ cap ∧ cap ≤ maxLen ∧ Holds w a ns := by
  have hn : n = ns.length := by have := h.1; rw [byteCells_len] at this; omega
  have h0 := h
  subst hn
  rcases h.2 with ⟨rfl, h2⟩ | ⟨g, cap, cur, rfl, hb, hg, hc, hm, _⟩
  · have : ns = [] := List.eq_nil_of_length_eq_zero h2
    subst this
    exact ⟨none, 0, rfl, rfl, .inl ⟨rfl, rfl, rfl⟩, Nat.le_refl _, by decide, Holds.nil⟩
  · refine ⟨_, cap, rfl, rfl, .inr ⟨g, rfl, hb, (Array.getElem?_eq_some_iff.1 hg).1⟩, hc, hm, ?_⟩
    intro b hb' j u hu
    obtain rfl : ⟨g, 0, none⟩ = b := by simpa using hb'
    exact h0.cells (g := g) rfl j u hu

def strN (ns : List Nat) : ByteArray := ⟨(ns.map UInt8.ofNat).toArray⟩
theorem strN_append (ns ms : List Nat) : strN (ns ++ ms) = strN ns ++ strN ms := by
  unfold strN
  apply ByteArray.ext
  simp
theorem strN_size (ns : List Nat) : (strN ns).size = ns.length := by simp [strN, ByteArray.size]

theorem conv_holds (w : World) (a : Option Addr) (ns : List Nat) (cap : Nat) (ha : a = none → ns = []) (hh : Holds w a ns) :
    (convert 29 9 (.slice a ns.length cap)).run Try.prog w = .ok (.string (strN ns)) w := by
  cases a with
  | none =>
    obtain rfl := ha rfl
    exact run_convert_bytes_nil (P := Try.prog) w 29 5 Try.underlying29 Try.underlying5 _ _ 9 Try.underlying9
  | some b =>
    have e : byteCells ns = (ns.map fun (c : Nat) => (c : Int)).map (Value.int .u8) := by simp [byteCells]
    have hl : (loadCells b ns.length).run Try.prog w = .ok ((ns.map fun (c : Nat) => (c : Int)).map (Value.int .u8)).toArray w := by
      have := run_loadCells_list (P := Try.prog) w b (byteCells ns) (fun j v hj => hh b rfl j v hj)
      rw [byteCells_len] at this
      rw [← e]; exact this
    rw [run_convert_bytes_string w 29 9 5 _ _ cap Try.underlying29 Try.underlying5 Try.underlying9, run_bytesToString w _ _ cap _ hl, foldl_push_bytes]
    simp [strN, ByteArray.empty, ByteArray.emptyWithCapacity]
    rfl
theorem holds_made (w : World) (ns : List Nat) : Holds (w.alloc (.cells (byteCells ns).toArray 5)) (some ⟨w.heap.size, 0, none⟩) ns := by
  refine Holds.of fun j hj => ?_
  rw [World.cell?_alloc_at _ _ _ _ rfl, Nat.zero_add]
  have := byteCells_get ns j hj
  simpa using this
theorem below_one (w : World) (o : Obj) : Below w.heap.size w (w.alloc o) := (Below.refl _ _).alloc (Nat.le_refl _) _

theorem byteCells_one (ns : List Nat) : ∀ u ∈ byteCells ns, u.oneCell' = true := by
  intro u hu
  simp only [byteCells, List.mem_map] at hu
  obtain ⟨n, _, rfl⟩ := hu
  rfl
theorem byteCells_app (ns ms : List Nat) : byteCells (ns ++ ms) = byteCells ns ++ byteCells ms := by simp [byteCells]

theorem wpList_join {w : World} {ops : Array Oper} {rest : List Oper} {o : Oper} {a : Act} {Q : Exit → Act → World → Prop} (hgd : o.guard = none) (s x : Operand)
    (ho : o.op = .call { callee := .builtin .append, args := #[s, x], argTypes := #[29, 29] }) (base : Nat) (v : Value) (n : Nat) (ns : List Nat) (hs : a.eval s = v) (hown : w.ownsRow base 5 1 v n (byteCells ns))
    (ao : Option Addr) (ms : List Nat) (m c : Nat) (hx : a.eval x = .slice ao m c) (hm : m = ms.length) (hao : ao = none → ms = [] ∧ c = 0) (hh : Holds w ao ms) (hb : ns.length + ms.length ≤ 140737488355328) (hbase : base ≤ w.heap.size)
    (h : ∀ v' w', w'.ownsRow base 5 1 v' (ns ++ ms).length (byteCells (ns ++ ms)) → w.grownBy w' v.ownBlock → wpList Try.prog ops Q rest (a.put o.dst v') w') : wpList Try.prog ops Q (o :: rest) a w := by
  obtain ⟨i0, hi, hz0, hz1, hz2⟩ := info_parts infoByte
  have hn : n = ns.length := by have := hown.1; rw [byteCells_len] at this; omega
  subst hm hn
  cases ao with
  | none =>
    obtain ⟨rfl, rfl⟩ := hao rfl
    refine wpList_append_own_none hgd s x 29 ho base 5 i0 1 Try.underlying29 hi v _ _ hs hown hx ?_
    refine h v w ?_ ⟨rfl, rfl, rfl, Nat.le_refl _, fun _ _ _ => rfl⟩
    rw [List.append_nil]
    exact hown
  | some ad =>
    refine wpList_append_own w hgd s x 29 ho base 5 i0 (.int .u8 0) 1 1 Try.underlying29 hi hz0 hz1 hz2 rfl (by decide) v _ _ hs hown ad ms.length c (byteCells ms) hx (by rw [byteCells_len]; omega) (hh ad rfl) (byteCells_one ms) (by unfold maxLen; omega) (by omega) hbase ?_
    intro v' w' h1 h2 _
    refine h v' w' ?_ h2
    rw [byteCells_app, List.length_append]
    exact h1
/-- What the walk is told of a slice of integers that came in. -/
def IsRow (k : IntKind) (w : World) (a : Option Addr) (len cap : Nat) (zs : List Int) : Prop :=
  (a = none ∧ len = 0 ∧ cap = 0 ∧ zs = []) ∨
  ∃ x, a = some x ∧ len ≤ cap ∧ cap ≤ maxLen ∧ zs.length = cap ∧ (∀ i, i < zs.length → w.cell? (x.add i) = some (.int k (zs.getD i 0))) ∧ ∀ n ∈ zs, (Lit.int k n).wf = true

/-- A slice of bytes that came in holds bytes. -/
theorem row_holds {w : World} {a : Option Addr} {len cap : Nat} {zs : List Int} (h : IsRow .u8 w a len cap zs) (hb : cap * Try.prog.bytesOf 5 ≤ 140737488351232) :
    ∃ ns : List Nat, ns.length = len ∧ Holds w a ns ∧ (∀ n ∈ ns, n < 256) ∧ len ≤ cap ∧ cap ≤ 140737488351232 ∧ (a = none → ns = [] ∧ cap = 0) := by
  rw [show Try.prog.bytesOf 5 = 1 from by kernel_rfl, Nat.mul_one] at hb
  rcases h with ⟨rfl, rfl, rfl, rfl⟩ | ⟨x, rfl, hl, hm, hz, hc, hw⟩
  · exact ⟨[], rfl, Holds.nil, by simp, Nat.le_refl _, by decide, fun _ => ⟨rfl, rfl⟩⟩
  · refine ⟨(zs.take len).map Int.toNat, by simp; omega, ?_, ?_, hl, hb, fun h => by cases h⟩
    · intro b hb j u hu
      obtain rfl : x = b := by simpa using hb
      have hj : j < len := by
        have := (List.getElem?_eq_some_iff.1 hu).1
        simp [byteCells] at this; omega
      have hjz : j < zs.length := by omega
      have hwf := hw (zs[j]) (List.getElem_mem hjz)
      obtain ⟨w1, w2⟩ := bounds_u8 hwf
      rw [hc j hjz]
      simp [byteCells, hj, hjz] at hu
      rw [← hu]
      simp [List.getD_eq_getElem?_getD, List.getElem?_eq_getElem hjz]
      omega
    · intro n hn
      simp only [List.mem_map] at hn
      obtain ⟨z, hz', rfl⟩ := hn
      obtain ⟨w1, w2⟩ := bounds_u8 (hw z (List.mem_of_mem_take hz'))
      omega

end Go.Proofs.Ytkmdaopmmfdpgaa

/- Numbers in few bytes, in plain mathematics: the digits of a number, and how they are read. -/
namespace Go.Proofs.Ytkmdaopmmfdpgaa

/-- A number's bytes, at most so many. -/
def digsF : Nat → Nat → List Nat
  | 0, v => [v]
  | f + 1, v => if v < 128 then [v] else (v % 128 + 128) :: digsF f (v / 128)
/-- A number's bytes. -/
def digs (v : Nat) : List Nat := digsF v v
theorem digsF_fuel (f : Nat) : ∀ g v, v ≤ f → v ≤ g → digsF f v = digsF g v := by
  induction f with
  | zero =>
    intro g v h1 _
    obtain rfl : v = 0 := by omega
    cases g <;> rfl
  | succ f ih =>
    intro g v h1 h2
    cases g with
    | zero =>
      obtain rfl : v = 0 := by omega
      rfl
    | succ g =>
      simp only [digsF]
      by_cases h : v < 128
      · rw [if_pos h, if_pos h]
      · rw [if_neg h, if_neg h, ih g (v / 128) (by omega) (by omega)]
theorem digs_small {v : Nat} (h : v < 128) : digs v = [v] := by
  unfold digs
  cases v with
  | zero => rfl
  | succ n => simp only [digsF]; rw [if_pos h]
theorem digs_big {v : Nat} (h : ¬ v < 128) : digs v = (v % 128 + 128) :: digs (v / 128) := by
  unfold digs
  cases v with
  | zero => omega
  | succ n =>
    simp only [digsF]
    rw [if_neg h, digsF_fuel n ((n + 1) / 128) ((n + 1) / 128) (by omega) (Nat.le_refl _)]
theorem digs_ind {M : Nat → Prop} (case1 : ∀ v, v < 128 → M v) (case2 : ∀ v, ¬ v < 128 → M (v / 128) → M v) (v : Nat) : M v := by
  induction v using Nat.strongRecOn with
  | _ v ih =>
    by_cases h : v < 128
    · exact case1 v h
    · exact case2 v h (ih (v / 128) (by omega))
theorem digs_ne (v : Nat) : digs v ≠ [] := by
  by_cases h : v < 128
  · rw [digs_small h]; simp
  · rw [digs_big h]; simp
theorem digs_lt (v : Nat) : ∀ n ∈ digs v, n < 256 := by
  induction v using digs_ind with
  | case1 v h => rw [digs_small h]; simp; omega
  | case2 v h ih => rw [digs_big h]; intro n hn; simp at hn; rcases hn with rfl | hn; · omega
                    exact ih n hn
theorem digs_len_le (k : Nat) : ∀ v, v < 128 * 128 ^ k → (digs v).length ≤ k + 1 := by
  induction k with
  | zero => intro v h; rw [digs_small (by omega)]; simp
  | succ k ih =>
    intro v h
    by_cases hv : v < 128
    · rw [digs_small hv]; simp
    · rw [digs_big hv]
      have := ih (v / 128) (by rw [Nat.div_lt_iff_lt_mul (by omega)]; rw [Nat.pow_succ] at h; omega)
      simp; omega
theorem digs_len_ge (k : Nat) : ∀ v, 128 ^ k ≤ v → k + 1 ≤ (digs v).length := by
  induction k with
  | zero => intro v h; have := List.length_pos_iff.2 (digs_ne v); omega
  | succ k ih =>
    intro v h
    have hp : 1 ≤ 128 ^ k := Nat.one_le_pow _ _ (by omega)
    rw [Nat.pow_succ] at h
    rw [digs_big (by omega)]
    have := ih (v / 128) (by rw [Nat.le_div_iff_mul_le (by omega)]; omega)
    simp; omega
theorem digs_len64 (v : Nat) (h : v < 18446744073709551616) : 1 ≤ (digs v).length ∧ (digs v).length ≤ 10 :=
  ⟨List.length_pos_iff.2 (digs_ne v), digs_len_le 9 v (by have : (128 : Nat) * 128 ^ 9 = 1180591620717411303424 := by decide
                                                          omega)⟩

/-- Reading: what is left, how many are read, what they make; the number, the place behind it, the error. -/
def getF : List Nat → Nat → Nat → Nat → Nat × Nat × Nat
  | [], _, _, _ => (0, 0, 2)
  | c :: r, i, v, at' => if i = 9 ∧ 1 < c then (0, 0, 3) else if 128 ≤ c then getF r (i + 1) (v + c % 128 * 128 ^ i) at' else if c = 0 ∧ 0 < i then (0, 0, 3) else (v + c % 128 * 128 ^ i, at' + i + 1, 0)
def getR (ns : List Nat) (at' : Int) : Nat × Nat × Nat := if at' < 0 ∨ (ns.length : Int) < at' then (0, 0, 1) else getF (ns.drop at'.toNat) 0 0 at'.toNat

theorem getF_nil (i v p : Nat) : getF [] i v p = (0, 0, 2) := rfl
theorem getF_ten {c : Nat} (r : List Nat) {i : Nat} (v p : Nat) (h : i = 9) (hc : 1 < c) : getF (c :: r) i v p = (0, 0, 3) := by rw [getF, if_pos ⟨h, hc⟩]
theorem getF_on {c : Nat} (r : List Nat) {i : Nat} (v p : Nat) (h : ¬ (i = 9 ∧ 1 < c)) (hc : 128 ≤ c) : getF (c :: r) i v p = getF r (i + 1) (v + c % 128 * 128 ^ i) p := by rw [getF, if_neg h, if_pos hc]
theorem getF_zero {c : Nat} (r : List Nat) {i : Nat} (v p : Nat) (h : ¬ (i = 9 ∧ 1 < c)) (hc : c = 0) (hi : 0 < i) : getF (c :: r) i v p = (0, 0, 3) := by rw [getF, if_neg h, if_neg (by omega), if_pos ⟨hc, hi⟩]
theorem getF_end {c : Nat} (r : List Nat) {i : Nat} (v p : Nat) (h : ¬ (i = 9 ∧ 1 < c)) (hc : c < 128) (hz : ¬ (c = 0 ∧ 0 < i)) : getF (c :: r) i v p = (v + c * 128 ^ i, p + i + 1, 0) := by
  rw [getF, if_neg h, if_neg (by omega), if_neg hz, Nat.mod_eq_of_lt hc]

theorem getF_digs (v : Nat) : ∀ (i acc p : Nat) (rest : List Nat), (0 < i → 0 < v) → i ≤ 9 → v * 128 ^ i < 18446744073709551616 → getF (digs v ++ rest) i acc p = (acc + v * 128 ^ i, p + i + (digs v).length, 0) := by
  induction v using digs_ind with
  | case1 v h =>
    intro i acc p rest h0 hi hv
    rw [digs_small h, List.singleton_append, getF_end rest acc p ?_ h (by omega)]
    · rfl
    · rintro ⟨rfl, h1⟩
      have : (128 : Nat) ^ 9 = 9223372036854775808 := by decide
      rw [this] at hv; omega
  | case2 v h ih =>
    intro i acc p rest h0 hi hv
    have hi9 : i ≠ 9 := by
      rintro rfl
      have : (128 : Nat) ^ 9 = 9223372036854775808 := by decide
      rw [this] at hv; omega
    have e : v / 128 * 128 ^ (i + 1) + v % 128 * 128 ^ i = v * 128 ^ i := by
      rw [Nat.pow_succ]
      have := Nat.div_add_mod v 128
      have e9 : v / 128 * (128 ^ i * 128) + v % 128 * 128 ^ i = (128 * (v / 128) + v % 128) * 128 ^ i := by rw [Nat.add_mul]; congr 1; rw [Nat.mul_comm (128 ^ i), ← Nat.mul_assoc, Nat.mul_comm (v / 128)]
      rw [e9, this]
    rw [digs_big h, List.cons_append, getF_on _ acc p (by omega) (by omega), ih (i + 1) _ p rest (by omega) (by omega) (by omega)]
    have e2 : (v % 128 + 128) % 128 = v % 128 := by omega
    rw [e2]
    simp only [Prod.mk.injEq, and_true, List.length_cons]
    omega
theorem getF_take (v : Nat) : ∀ (i acc p k : Nat), k < (digs v).length → i + k ≤ 9 → getF ((digs v).take k) i acc p = (0, 0, 2) := by
  induction v using digs_ind with
  | case1 v h =>
    intro i acc p k hk _
    rw [digs_small h] at hk ⊢
    obtain rfl : k = 0 := by simpa using hk
    rfl
  | case2 v h ih =>
    intro i acc p k hk hi
    rw [digs_big h] at hk ⊢
    cases k with
    | zero => rfl
    | succ k =>
      rw [List.take_succ_cons, getF_on _ acc p (by omega) (by omega)]
      exact ih _ _ _ _ (by simpa using hk) (by omega)
/-- With its last byte going on, and a byte 0 behind. -/
theorem getF_zero_behind (v : Nat) : ∀ (i acc p : Nat) (pre : List Nat) (x : Nat), digs v = pre ++ [x] → i + pre.length ≤ 9 → getF (pre ++ [x ||| 128, 0]) i acc p = (0, 0, 3) := by
  induction v using digs_ind with
  | case1 v h =>
    intro i acc p pre x hd hi
    rw [digs_small h] at hd
    have : pre = [] := by cases pre with
      | nil => rfl
      | cons a t => simp at hd
    subst this
    obtain rfl : v = x := by simpa using hd
    have hx : v ||| 128 ≥ 128 := Nat.right_le_or
    rw [List.nil_append]
    by_cases h9 : i = 9
    · exact getF_ten _ _ _ h9 (by omega)
    · rw [getF_on _ _ _ (by omega) hx]
      by_cases h8 : i + 1 = 9 ∧ 1 < 0
      · omega
      · exact getF_zero _ _ _ h8 rfl (by omega)
  | case2 v h ih =>
    intro i acc p pre x hd hi
    rw [digs_big h] at hd
    cases pre with
    | nil => simp at hd; exact absurd hd.2 (digs_ne _)
    | cons a t =>
      simp at hd
      obtain ⟨rfl, hd⟩ := hd
      rw [List.cons_append, getF_on _ _ _ (by simp at hi; omega) (by omega)]
      exact ih _ _ _ _ _ hd (by simp at hi; omega)
end Go.Proofs.Ytkmdaopmmfdpgaa

/- What Zig and Zag answer, at every input. -/
namespace Go.Proofs.Ytkmdaopmmfdpgaa
open Go.ChangeShapes Go.WideShapes Go.ChangeAt Go.RowKit
set_option linter.unusedVariables false
set_option maxRecDepth 20000

theorem ret_int {k : IntKind} {a b : Int} (h : a = b) : Ending.returned (.int k a) = .returned (.int k b) := by rw [h]

def zigN (n : Int) : Int := if n < 0 then -2 * n - 1 else 2 * n
def zagN (v : Int) : Int := if v % 2 = 0 then v / 2 else -(v / 2) - 1
theorem zigN_bd (n : Int) (h1 : -9223372036854775808 ≤ n) (h2 : n ≤ 9223372036854775807) : 0 ≤ zigN n ∧ zigN n < 18446744073709551616 := by
  unfold zigN; split <;> omega
theorem zagN_bd (v : Int) (h1 : 0 ≤ v) (h2 : v < 18446744073709551616) : -9223372036854775808 ≤ zagN v ∧ zagN v ≤ 9223372036854775807 := by
  unfold zagN; split <;> omega
theorem zag_zig (n : Int) : zagN (zigN n) = n := by unfold zagN zigN; split <;> split <;> omega
theorem zig_zag (v : Int) (h : 0 ≤ v) : zigN (zagN v) = v := by unfold zagN zigN; split <;> split <;> omega

theorem not_nat (n : Nat) (h : n < 18446744073709551616) : 18446744073709551615 ^^^ n = 18446744073709551615 - n := by
  apply Nat.eq_of_testBit_eq
  intro i
  have e1 := Nat.testBit_two_pow_sub_succ (x := n) (n := 64) h i
  have e2 := Nat.testBit_two_pow_sub_one 64 i
  rw [show (2 : Nat) ^ 64 - (n + 1) = 18446744073709551615 - n from by omega] at e1
  rw [show (2 : Nat) ^ 64 - 1 = 18446744073709551615 from by decide] at e2
  rw [Nat.testBit_xor, e1, e2]
  by_cases hi : i < 64
  · simp [hi]
  · have : n.testBit i = false := Nat.testBit_lt_two_pow (Nat.lt_of_lt_of_le h (by rw [show 18446744073709551616 = 2 ^ 64 from by decide]; exact Nat.pow_le_pow_right (by decide) (by omega)))
    simp [hi, this]
theorem not_u64 (x : Int) (h1 : 0 ≤ x) (h2 : x < 18446744073709551616) : bits .xor .u64 IntKind.u64.max x = 18446744073709551615 - x := by
  obtain ⟨n, rfl⟩ := Int.eq_ofNat_of_zero_le h1
  have e : IntKind.u64.max = ((18446744073709551615 : Nat) : Int) := by decide
  rw [e, u64_xor_nat _ _ (by decide) (by omega), not_nat n (by omega)]
  omega
set_option maxHeartbeats 400000 in
theorem zig_any (n : Int) (w : World) (h1 : -9223372036854775808 ≤ n) (h2 : n ≤ 9223372036854775807) :
    Calls Try.prog 49 #[.int .i64 n] w fun e w' => e = .returned (.int .u64 (zigN n)) ∧ w' = w := by
  by_cases h : n < 0
  · go_enter Try.func49, Try.ntmps49
    go_wp2
    go_ret
    refine ⟨ret_int ?_, rfl⟩
    rw [IntKind.wrap_u64, IntKind.wrap_u64, not_u64 _ (by omega) (by omega)]
    unfold zigN; rw [if_pos ‹_›]; omega
  · go_enter Try.func49, Try.ntmps49
    go_wp2
    go_ret
    refine ⟨ret_int ?_, rfl⟩
    unfold zigN; rw [if_neg (by omega)]; omega
set_option maxHeartbeats 400000 in
theorem zag_any (v : Int) (w : World) (h1 : 0 ≤ v) (h2 : v < 18446744073709551616) :
    Calls Try.prog 47 #[.int .u64 v] w fun e w' => e = .returned (.int .i64 (zagN v)) ∧ w' = w := by
  have hb : bits .and .u64 v 1 = v % 2 := by
    obtain ⟨n, rfl⟩ := Int.eq_ofNat_of_zero_le h1
    have := u64_and_nat n 1 (by omega) (by decide)
    rw [nat_mask1] at this
    exact this.trans (by omega)
  go_enter Try.func47, Try.ntmps47
  go_wp2
  · go_ret
    refine ⟨ret_int ?_, rfl⟩
    have hb' : v % 2 = 1 := by simpa using ‹(v % 2 == 1) = true›
    rw [not_u64 _ (by omega) (by omega)]
    unfold zagN; rw [if_neg (by omega)]
    simp only [wrap64]
    omega
  · go_ret
    refine ⟨ret_int ?_, rfl⟩
    have hb' : ¬ v % 2 = 1 := by simpa using ‹(v % 2 == 1) = false›
    unfold zagN; rw [if_pos (by omega)]
end Go.Proofs.Ytkmdaopmmfdpgaa

/- What Put answers, behind any bytes: new memory that holds them and the number's. -/
namespace Go.Proofs.Ytkmdaopmmfdpgaa
open Go.ChangeShapes Go.WideShapes Go.ChangeAt Go.RowKit
set_option linter.unusedVariables false
set_option maxRecDepth 20000

theorem low_or (v : Nat) : bits .or .u8 ((v : Int) % 256) 128 = ((v % 128 + 128 : Nat) : Int) := by
  rw [show (v : Int) % 256 = ((v % 256 : Nat) : Int) from by omega]
  rw [show (128 : Int) = ((128 : Nat) : Int) from rfl, u8_or_nat _ _ (by omega) (by decide)]
  have : v % 256 ||| 128 = v % 128 + 128 := by
    have h := nat_join 7 128 (v % 128) (by decide) (by show v % 128 < 128; omega)
    rw [Nat.or_comm] at h
    by_cases hv : v % 256 < 128
    · rw [show v % 256 = v % 128 by omega, h]; omega
    · have e : v % 256 = v % 128 ||| 128 := by rw [h]; omega
      rw [e, Nat.or_assoc, Nat.or_self, h]; omega
  rw [this]

/-- Where Put's loop stands: nothing appended yet, or new memory that holds what came and the bytes so far. -/
def PutAt (w : World) (a : Option Addr) (ns acc : List Nat) (out : Value) (wr : World) : Prop :=
  (acc = [] ∧ out = .slice a ns.length ns.length ∧ wr = w) ∨ wr.ownsRow w.heap.size 5 1 out (ns ++ acc).length (byteCells (ns ++ acc))

theorem bytes_snoc (ns acc : List Nat) (c : Nat) : (ns ++ (acc ++ [c])).length = (ns ++ acc).length + 1 ∧ byteCells (ns ++ (acc ++ [c])) = byteCells (ns ++ acc) ++ [.int .u8 (c : Int)] := by
  constructor
  · simp; omega
  · simp [byteCells]

theorem own_step {w : World} {B B' : Nat} {r : Value} {ns acc : List Nat} {c n : Nat} {xs : List Value} (h : w.ownsRow B' 5 1 r (n + 1) (xs ++ [.int .u8 (c : Int)])) (hn : n = (ns ++ acc).length) (hx : xs = byteCells (ns ++ acc)) (hB : B ≤ B') :
    w.ownsRow B 5 1 r (ns ++ (acc ++ [c])).length (byteCells (ns ++ (acc ++ [c]))) := by
  subst hn hx
  rw [(bytes_snoc ns acc c).1, (bytes_snoc ns acc c).2]
  exact own_mono h hB

set_option maxHeartbeats 1000000 in
theorem put_any (a : Option Addr) (ns : List Nat) (cap v : Nat) (w : World) (ha : a = none → ns = [] ∧ cap = 0) (hc : ns.length ≤ cap) (hm : cap ≤ maxLen) (hl : ns.length ≤ 140737488355300) (hh : Holds w a ns) (hv : v < 18446744073709551616) :
    Calls Try.prog 48 #[.slice a ns.length cap, .int .u64 (v : Int)] w fun e w' => ∃ r, e = .returned r ∧
      w'.ownsRow w.heap.size 5 1 r (ns ++ digs v).length (byteCells (ns ++ digs v)) ∧ Below w.heap.size w w' := by
  obtain ⟨i0, hi, hz0, hz1, hz2⟩ := info_parts infoByte
  have HH : Hid (Holds w a ns) := hh
  have HA : Hid (a = none → ns = [] ∧ cap = 0) := ha
  have hd := (digs_len64 v hv).2
  unfold maxLen at hm
  clear hh ha
  go_enter Try.func48, Try.ntmps48
  go_wp2_with fail
  go_loopw [1, 5] (fun vv out wr => ∃ (v' : Nat) (acc : List Nat), vv = .int .u64 (v' : Int) ∧ v' < 18446744073709551616 ∧ acc.length + (digs v').length ≤ 10 ∧ Hid (acc ++ digs v' = digs v) ∧ Hid (PutAt w a ns acc out wr) ∧ Below w.heap.size w wr)
    (fun vv _ _ => (intOf vv).toNat)
  case atStart => exact ⟨v, [], rfl, hv, by simpa using hd, rfl, .inl ⟨rfl, rfl, rfl⟩, Below.refl _ _⟩
  case round =>
    obtain ⟨v', acc, rfl, hv', hacc, HD, HP, hbel⟩ := hrel
    have hws := hbel.size
    by_cases h : v' < 128
    · have HE : Hid (acc ++ [v'] = digs v) := by show _ = _; rw [← HD.out, digs_small h]
      have hlen : acc.length ≤ 9 := by rw [digs_small h] at hacc; simp at hacc; omega
      clear HD hacc
      rcases HP.out with ⟨rfl, rfl, rfl⟩ | hown
      · clear HP
        go_wp2_with (first
          | (at_builtin; refine wpList_append_grows _ rfl _ _ 29 rfl 5 i0 (.int .u8 0) 1 1 Try.underlying29 hi hz0 hz1 hz2 rfl (by decide) _ _ _ (byteCells ns) rfl ?c0 ?c1 ?c2 ⟨wr.heap.size, 0, none⟩ 1 1 [.int .u8 (v' : Int)] rfl rfl ?c3 ?c4 ?c5 ?c6 ?c7 ?_)
          | fail)
        case c0 => exact fun h0 => ⟨by rw [(HA.out h0).1]; rfl, by rw [(HA.out h0).1]; rfl⟩
        case c1 => simp [byteCells]
        case c2 => exact HH.out.below ((Below.refl _ _).alloc (Nat.le_refl _) _)
        case c3 =>
          intro j u hj
          match j, hj with
          | 0, hj => simp at hj; subst hj; simp [Addr.add]
        case c4 => intro u hu; simp at hu; subst hu; rfl
        case c5 => omega
        case c6 => unfold maxLen; omega
        case c7 => omega
        intro r w2 hown' hgrow
        have hb2 : Below wr.heap.size wr w2 := ((Below.refl _ _).alloc (Nat.le_refl _) _).grown hgrow (by simp) (fun k hk => by cases hk)
        have HO : Hid (w2.ownsRow wr.heap.size 5 1 r (ns ++ ([] ++ [v'])).length (byteCells (ns ++ ([] ++ [v'])))) := own_step hown' (by simp) (by simp) (by simp)
        clear hown' hgrow
        go_wp2_with fail
        go_ret
        exact ⟨_, rfl, by rw [← HE.out]; exact HO.out, hb2⟩
      · clear HP
        go_wp2_with (first
          | (at_builtin; refine wpList_append_own _ rfl _ _ 29 rfl w.heap.size 5 i0 (.int .u8 0) 1 1 Try.underlying29 hi hz0 hz1 hz2 rfl (by decide) _ _ _ rfl (hown.alloc _) ⟨wr.heap.size, 0, none⟩ 1 1 [.int .u8 (v' : Int)] rfl rfl ?c1 ?c2 ?c3 ?c4 ?c5 ?_)
          | fail)
        case c1 =>
          intro j u hj
          match j, hj with
          | 0, hj => simp at hj; subst hj; simp [Addr.add]
        case c2 => intro u hu; simp at hu; subst hu; rfl
        case c3 => unfold maxLen; simp; omega
        case c4 => simp; omega
        case c5 => simp; omega
        intro r w2 hown' hgrow _
        have hb2 : Below w.heap.size w w2 := (hbel.alloc hws _).grown hgrow (by simp; omega) (fun k hk => (hown.lt k hk).1)
        have HO : Hid (w2.ownsRow w.heap.size 5 1 r (ns ++ (acc ++ [v'])).length (byteCells (ns ++ (acc ++ [v'])))) := own_step hown' (by simp) rfl (Nat.le_refl _)
        clear hown hown' hgrow
        go_wp2_with fail
        go_ret
        exact ⟨_, rfl, by rw [← HE.out]; exact HO.out, hb2⟩
    · have HE : Hid (acc ++ [v' % 128 + 128] ++ digs (v' / 128) = digs v) := by show _ = _; rw [← HD.out, digs_big h]; simp
      have hlen : acc.length ≤ 9 := by have := List.length_pos_iff.2 (digs_ne v'); omega
      have hacc' : (acc ++ [v' % 128 + 128]).length + (digs (v' / 128)).length ≤ 10 := by rw [digs_big h] at hacc; simp at hacc ⊢; omega
      have hob := low_or v'
      have h128 : 128 ≤ (v' : Int) := by omega
      clear HD hacc
      generalize v' % 128 + 128 = c at *
      rcases HP.out with ⟨rfl, rfl, rfl⟩ | hown
      · clear HP
        go_wp2_with (first
          | (at_builtin; refine wpList_append_grows _ rfl _ _ 29 rfl 5 i0 (.int .u8 0) 1 1 Try.underlying29 hi hz0 hz1 hz2 rfl (by decide) _ _ _ (byteCells ns) rfl ?c0 ?c1 ?c2 ⟨wr.heap.size, 0, none⟩ 1 1 [.int .u8 (c : Int)] rfl rfl ?c3 ?c4 ?c5 ?c6 ?c7 ?_)
          | fail)
        case c0 => exact fun h0 => ⟨by rw [(HA.out h0).1]; rfl, by rw [(HA.out h0).1]; rfl⟩
        case c1 => simp [byteCells]
        case c2 => exact HH.out.below ((Below.refl _ _).alloc (Nat.le_refl _) _)
        case c3 =>
          intro j u hj
          match j, hj with
          | 0, hj => simp at hj; subst hj; simp [Addr.add]
        case c4 => intro u hu; simp at hu; subst hu; rfl
        case c5 => omega
        case c6 => unfold maxLen; omega
        case c7 => omega
        intro r w2 hown' hgrow
        have hb2 : Below wr.heap.size wr w2 := ((Below.refl _ _).alloc (Nat.le_refl _) _).grown hgrow (by simp) (fun k hk => by cases hk)
        have HO : Hid (w2.ownsRow wr.heap.size 5 1 r (ns ++ ([] ++ [c])).length (byteCells (ns ++ ([] ++ [c])))) := own_step hown' (by simp) (by simp) (by simp)
        clear hown' hgrow hob
        go_wp2_with fail
        go_roundw
        case rel => exact ⟨v' / 128, [] ++ [c], by go_num, by omega, hacc', HE, .inr HO.out, hb2⟩
        case measure => simp [intOf]; omega
      · clear HP
        go_wp2_with (first
          | (at_builtin; refine wpList_append_own _ rfl _ _ 29 rfl w.heap.size 5 i0 (.int .u8 0) 1 1 Try.underlying29 hi hz0 hz1 hz2 rfl (by decide) _ _ _ rfl (hown.alloc _) ⟨wr.heap.size, 0, none⟩ 1 1 [.int .u8 (c : Int)] rfl rfl ?c1 ?c2 ?c3 ?c4 ?c5 ?_)
          | fail)
        case c1 =>
          intro j u hj
          match j, hj with
          | 0, hj => simp at hj; subst hj; simp [Addr.add]
        case c2 => intro u hu; simp at hu; subst hu; rfl
        case c3 => unfold maxLen; simp; omega
        case c4 => simp; omega
        case c5 => simp; omega
        intro r w2 hown' hgrow _
        have hb2 : Below w.heap.size w w2 := (hbel.alloc hws _).grown hgrow (by simp; omega) (fun k hk => (hown.lt k hk).1)
        have HO : Hid (w2.ownsRow w.heap.size 5 1 r (ns ++ (acc ++ [c])).length (byteCells (ns ++ (acc ++ [c])))) := own_step hown' (by simp) rfl (Nat.le_refl _)
        clear hown hown' hgrow hob
        go_wp2_with fail
        go_roundw
        case rel => exact ⟨v' / 128, acc ++ [c], by go_num, by omega, hacc', HE, .inr HO.out, hb2⟩
        case measure => simp [intOf]; omega
end Go.Proofs.Ytkmdaopmmfdpgaa
