/- Trees whose lists of entries lie in plain blocks; a list's place. -/
import Derived.WalkKit
import GoSem.Core.Utf8
import Derived.ProofKit
import Derived.OpenShut
import Derived.ShutString
import Derived.ChangeOld
import Derived.Below
import Derived.Test.YtfnjbbaphmmjlaaPkA
import Derived.Test.YtfnjbbaphmmjlaaRows
namespace Go.Proofs.Ytfnjbbaphmmjlaa
open Go.ChangeShapes Go.WideShapes Go.ChangeAt Go.RowKit
set_option linter.unusedVariables false
set_option linter.unusedSimpArgs false
set_option maxRecDepth 20000

/-- A list lies in a plain block. -/
def PlnV (w : World) (v : Value) : Prop := ∀ g off n cap, v = .slice (some ⟨g, off, none⟩) n cap → n ≠ 0 → ∃ cs ty, w.heap[g]? = some (.cells cs ty (0, 0))
/-- A tree's cells, its lists of entries in plain blocks. -/
def TrQ : Nat → World → List Value → Tr → Prop
  | 0, _, _, _ => False
  | n + 1, w, r, t => ∃ ve vr, r = [.int .i64 t.kind, .int .i64 t.n, .string t.s, ve, vr] ∧ Is64 t.kind ∧ Is64 t.n ∧ t.s.size ≤ 140737488351232 ∧ Fd64 t.rest ∧ RowG w vr 4 (fdRows t.rest) ∧ RowP (EnC (TrQ n w) w) w 2 ve t.es ∧ PlnV w ve
abbrev TrsQ (n : Nat) (w : World) (v : Value) (ts : List Tr) : Prop := RowP (TrQ n w) w 5 v ts
abbrev EnsQ (n : Nat) (w : World) (v : Value) (es : List (Int × List Tr)) : Prop := RowP (EnC (TrQ n w) w) w 2 v es
theorem PlnV.below {w w1 : World} {v : Value} (h : PlnV w v) (hb : Below w.heap.size w w1) : PlnV w1 v := fun g off n cap e hn => by
  obtain ⟨cs, ty, h1⟩ := h g off n cap e hn
  exact ⟨cs, ty, (hb.block g (Array.getElem?_eq_some_iff.1 h1).1).trans h1⟩
theorem TrQ.below : ∀ {n : Nat} {w w1 : World} {r : List Value} {t : Tr}, TrQ n w r t → Below w.heap.size w w1 → TrQ n w1 r t
  | 0, _, _, _, _, h, _ => h
  | n + 1, w, w1, r, t, h, hb => by
    obtain ⟨ve, vr, h1, h2, h3, h4, h5, h6, h7, h8⟩ := h
    refine ⟨ve, vr, h1, h2, h3, h4, h5, h6.below hb, h7.mono hb fun r x hx hp => ?_, h8.below hb⟩
    obtain ⟨vt, g1, g2, g3⟩ := hp
    exact ⟨vt, g1, g2, g3.mono hb fun r x hx hp => hp.below hb⟩
theorem RowP.belowTQ {n : Nat} {w w1 : World} {v : Value} {ts : List Tr} (h : TrsQ n w v ts) (hb : Below w.heap.size w w1) : TrsQ n w1 v ts := RowP.mono h hb fun _ _ _ hp => hp.below hb
theorem RowP.belowEQ {n : Nat} {w w1 : World} {v : Value} {es : List (Int × List Tr)} (h : EnsQ n w v es) (hb : Below w.heap.size w w1) : EnsQ n w1 v es :=
  RowP.mono h hb fun _ _ _ hp => by
    obtain ⟨vt, g1, g2, g3⟩ := hp
    exact ⟨vt, g1, g2, g3.belowTQ hb⟩
theorem TrQ.trC : ∀ {n : Nat} {w : World} {r : List Value} {t : Tr}, TrQ n w r t → TrC n w r t
  | 0, _, _, _, h => h
  | n + 1, w, r, t, h => by
    obtain ⟨ve, vr, h1, h2, h3, h4, h5, h6, h7, h8⟩ := h
    refine ⟨ve, vr, h1, h2, h3, h4, h5, h6, h7.imp fun r x hx hp => ?_⟩
    obtain ⟨vt, g1, g2, g3⟩ := hp
    exact ⟨vt, g1, g2, g3.imp fun r x hx hp => hp.trC⟩
theorem own_pln {w : World} {B e s n : Nat} {v : Value} {xs : List Value} (h : w.ownsRow B e s v n xs) : PlnV w v := by
  intro g off m cap ev hm
  rcases h.2 with ⟨rfl, _⟩ | ⟨g', cap', cur, rfl, _, h3, _⟩
  · cases ev
  · simp at ev
    obtain ⟨⟨rfl, _⟩, _⟩ := ev
    exact ⟨cur, e, h3⟩
theorem TrO.trQ : ∀ {n B : Nat} {w : World} {r : List Value} {t : Tr} {bs : List Nat}, TrO n B w r t bs → TrQ n w r t
  | 0, _, _, _, _, _, h => h
  | n + 1, B, w, r, t, bs, h => by
    obtain ⟨ve, vr, rows, bss, h1, h2, h3, h4, h5, h6, h7, rfl⟩ := h
    refine ⟨ve, vr, h1, h2, h3, h4, h5, own_rest h6, h7.rowP (by decide) (fun r x b hx hp => ?_), own_pln h7.own⟩
    obtain ⟨vt, rows', bss', g1, g2, g3, rfl⟩ := hp
    exact ⟨vt, g1, g2, g3.rowP (by decide) fun r x b hx hp => hp.trQ⟩
/-- A row's elements are told by its cells. -/
theorem RowP.uniq {α : Type} {P Q : List Value → α → Prop} {w : World} {size : Nat} {a : Option Addr} {N c1 c2 : Nat} {xs ys : List α} (h : RowP P w size (.slice a N c1) xs) (k : RowP Q w size (.slice a N c2) ys)
    (hp : ∀ r s x y, P r x → Q s y → (∀ j : Nat, r[j]? ≠ none → s[j]? ≠ none → r[j]? = s[j]?) → x = y) : xs = ys := by
  obtain ⟨a1, c1', e1, _, _, _, _, _⟩ := h.open
  obtain ⟨a2, c2', e2, _, _, _, _, _⟩ := k.open
  simp only [Value.slice.injEq] at e1 e2
  obtain ⟨_, e1, _⟩ := e1
  obtain ⟨_, e2, _⟩ := e2
  refine List.ext_getElem? fun i => ?_
  by_cases hi : i < xs.length
  · obtain ⟨g, off, ha, r, hr, hcr⟩ := h.get (List.getElem?_eq_getElem hi)
    obtain ⟨g', off', ha', s, hs, hcs⟩ := k.get (i := i) (List.getElem?_eq_getElem (by omega))
    rw [ha] at ha'
    simp at ha'
    obtain ⟨rfl, rfl⟩ := ha'
    rw [List.getElem?_eq_getElem hi, List.getElem?_eq_getElem (by omega)]
    refine congrArg some (hp r s _ _ hr hs fun j h1 h2 => ?_)
    cases hrj : r[j]? with
    | none => exact absurd hrj h1
    | some u =>
      cases hsj : s[j]? with
      | none => exact absurd hsj h2
      | some u' =>
        have q1 := hcr j u hrj
        have q2 := hcs j u' hsj
        rw [q1] at q2
        exact q2
  · rw [List.getElem?_eq_none (by omega), List.getElem?_eq_none (by omega)]
theorem fd_uniq {w : World} {a : Option Addr} {N c1 c2 : Nat} {l m : List Fd} (h : RowG w (.slice a N c1) 4 (fdRows l)) (k : RowG w (.slice a N c2) 4 (fdRows m)) : l = m := by
  have h1 : RowP (fun r (f : Fd) => r = f.cells) w 4 (.slice a N c1) l := ⟨fdRows l, h, by simp [fdRows], fun i x hx => ⟨x.cells, by simp [fdRows, hx], rfl⟩⟩
  have h2 : RowP (fun r (f : Fd) => r = f.cells) w 4 (.slice a N c2) m := ⟨fdRows m, k, by simp [fdRows], fun i x hx => ⟨x.cells, by simp [fdRows, hx], rfl⟩⟩
  refine h1.uniq h2 fun r s x y hr hs hj => ?_
  subst hr hs
  have j0 := hj 0 (by simp [Fd.cells]) (by simp [Fd.cells])
  have j1 := hj 1 (by simp [Fd.cells]) (by simp [Fd.cells])
  have j2 := hj 2 (by simp [Fd.cells]) (by simp [Fd.cells])
  have j3 := hj 3 (by simp [Fd.cells]) (by simp [Fd.cells])
  simp [Fd.cells] at j0 j1 j2 j3
  cases x; cases y; simp_all
theorem TrC.uniq : ∀ {n m : Nat} {w : World} {r s : List Value} {t u : Tr}, TrC n w r t → TrC m w s u → (∀ j : Nat, r[j]? ≠ none → s[j]? ≠ none → r[j]? = s[j]?) → t = u
  | 0, _, _, _, _, _, _, h, _, _ => h.elim
  | _ + 1, 0, _, _, _, _, _, _, h, _ => h.elim
  | n + 1, m + 1, w, r, s, t, u, h, k, hj => by
    obtain ⟨ve, vr, rfl, _, _, _, _, h6, h7⟩ := h
    obtain ⟨ve', vr', rfl, _, _, _, _, k6, k7⟩ := k
    have j0 := hj 0 (by simp) (by simp)
    have j1 := hj 1 (by simp) (by simp)
    have j2 := hj 2 (by simp) (by simp)
    have j3 := hj 3 (by simp) (by simp)
    have j4 := hj 4 (by simp) (by simp)
    simp at j0 j1 j2 j3 j4
    subst j3 j4
    obtain ⟨a1, c1, e1, _⟩ := h7.open
    obtain ⟨a2, c2, e2, _⟩ := h6.form2
    subst e1 e2
    have hes : t.es = u.es := h7.uniq k7 fun r s x y hp hq hj => by
      obtain ⟨vt, rfl, _, g3⟩ := hp
      obtain ⟨vt', rfl, _, g3'⟩ := hq
      have i0 := hj 0 (by simp) (by simp)
      have i1 := hj 1 (by simp) (by simp)
      simp at i0 i1
      subst i1
      obtain ⟨a3, c3, e3, _⟩ := g3.open
      subst e3
      have := g3.uniq g3' fun r s x y hp hq hj => hp.uniq hq hj
      exact Prod.ext i0 this
    have hrs : t.rest = u.rest := fd_uniq h6 k6
    cases t; cases u; simp_all
/-- A list's place. -/
def plOf (v : Value) : Pl := match v with
  | .slice a n _ => if n = 0 then (none, 0) else (a, n)
  | _ => (none, 0)
theorem plOf_ok {w : World} {v : Value} {P : List Value → (Int × List Tr) → Prop} {es : List (Int × List Tr)} (h : PlnV w v) (hr : RowP P w 2 v es) : PlOk w (plOf v) := by
  obtain ⟨a, cap, rfl, _, _, h4, _⟩ := hr.open
  intro b hb
  unfold plOf at hb
  simp only at hb
  split at hb
  · cases hb
  · rename_i hne
    simp only at hb
    subst hb
    rcases h4 with rfl | ⟨g, off, e⟩
    · exact absurd rfl hne
    · simp at e
      subst e
      exact h g off _ cap rfl hne
/-- One place, one list. -/
theorem pl_uniq {n m : Nat} {w : World} {v v' : Value} {es es' : List (Int × List Tr)} (h : EnsQ n w v es) (k : EnsQ m w v' es') (e : plOf v = plOf v') : es = es' := by
  obtain ⟨a, cap, rfl, _, _, h4, _⟩ := RowP.open h
  obtain ⟨a', cap', rfl, _, _, h4', _⟩ := RowP.open k
  unfold plOf at e
  simp only at e
  by_cases hn : es.length = 0
  · rw [if_pos hn] at e
    by_cases hn' : es'.length = 0
    · rw [List.eq_nil_of_length_eq_zero hn, List.eq_nil_of_length_eq_zero hn']
    · rw [if_neg hn'] at e
      simp at e
      exact absurd (e.2.symm ▸ rfl) hn'
  · rw [if_neg hn] at e
    by_cases hn' : es'.length = 0
    · rw [if_pos hn'] at e
      simp at e
      exact absurd e.2 (by intro h0; rw [h0] at hn; exact hn rfl)
    · rw [if_neg hn'] at e
      simp only [Prod.mk.injEq] at e
      obtain ⟨rfl, e2⟩ := e
      rw [← e2] at k
      refine RowP.uniq h k fun r s x y hp hq hj => ?_
      obtain ⟨vt, rfl, _, g3⟩ := hp
      obtain ⟨vt', rfl, _, g3'⟩ := hq
      have i0 := hj 0 (by simp) (by simp)
      have i1 := hj 1 (by simp) (by simp)
      simp at i0 i1
      subst i1
      obtain ⟨a3, c3, e3, _⟩ := g3.open
      subst e3
      exact Prod.ext i0 (g3.uniq g3' fun r s x y hp hq hj => hp.trC.uniq hq.trC hj)
end Go.Proofs.Ytfnjbbaphmmjlaa

/- Schemas in plain mathematics: fields, messages, enumerations, methods; their cells. -/
namespace Go.Proofs.Ytfnjbbaphmmjlaa

structure FlS where
  name : ByteArray
  tag : Int
  label : Int
  kind : Int
  tname : ByteArray
structure MsS where
  name : ByteArray
  fields : List FlS
  reserved : List Int
structure NmS where
  name : ByteArray
  n : Int
structure EnS where
  name : ByteArray
  values : List NmS
structure MtS where
  name : ByteArray
  inn : ByteArray
  out : ByteArray
structure ScS where
  name : ByteArray
  msgs : List MsS
  enums : List EnS
  methods : List MtS
def FlS.cells (f : FlS) : List Value := [.string f.name, .int .i64 f.tag, .int .i64 f.label, .int .i64 f.kind, .string f.tname]
def NmS.cells (f : NmS) : List Value := [.string f.name, .int .i64 f.n]
def MtS.cells (f : MtS) : List Value := [.string f.name, .string f.inn, .string f.out]
def zeroS : ScS := ⟨⟨#[]⟩, [], [], []⟩
end Go.Proofs.Ytfnjbbaphmmjlaa

/- Schemas in the memory: what stands in a value of that type, down to its lists' elements. -/
namespace Go.Proofs.Ytfnjbbaphmmjlaa
open Go.ChangeShapes Go.WideShapes Go.ChangeAt Go.RowKit
set_option linter.unusedVariables false
set_option linter.unusedSimpArgs false
set_option maxRecDepth 20000

def flRows (fs : List FlS) : List (List Value) := fs.map FlS.cells
def inRows (ns : List Int) : List (List Value) := ns.map fun n => [.int .i64 n]
def nmRows (vs : List NmS) : List (List Value) := vs.map NmS.cells
def mtRows (ms : List MtS) : List (List Value) := ms.map MtS.cells
/-- Messages in a slice. -/
def MsIn (w : World) (v : Value) (ms : List MsS) : Prop := ∃ rows : List (List Value), RowG w v 3 rows ∧ rows.length = ms.length ∧
  ∀ (i : Nat) (m : MsS), ms[i]? = some m → ∃ vf vr, rows[i]? = some [.string m.name, vf, vr] ∧ RowG w vf 5 (flRows m.fields) ∧ RowG w vr 1 (inRows m.reserved)
/-- Enumerations in a slice. -/
def EnIn (w : World) (v : Value) (es : List EnS) : Prop := ∃ rows : List (List Value), RowG w v 2 rows ∧ rows.length = es.length ∧
  ∀ (i : Nat) (e : EnS), es[i]? = some e → ∃ vv, rows[i]? = some [.string e.name, vv] ∧ RowG w vv 2 (nmRows e.values)
/-- A schema's value. -/
def ScIn (w : World) (v : Value) (s : ScS) : Prop := ∃ vm ve vt, v = .agg #[.string s.name, vm, ve, vt] ∧ MsIn w vm s.msgs ∧ EnIn w ve s.enums ∧ RowG w vt 3 (mtRows s.methods)
theorem MsIn.below {w w1 : World} {v : Value} {ms : List MsS} (h : MsIn w v ms) (hb : Below w.heap.size w w1) : MsIn w1 v ms := by
  obtain ⟨rows, h1, h2, h3⟩ := h
  refine ⟨rows, h1.below hb, h2, fun i m hm => ?_⟩
  obtain ⟨vf, vr, g1, g2, g3⟩ := h3 i m hm
  exact ⟨vf, vr, g1, g2.below hb, g3.below hb⟩
theorem EnIn.below {w w1 : World} {v : Value} {es : List EnS} (h : EnIn w v es) (hb : Below w.heap.size w w1) : EnIn w1 v es := by
  obtain ⟨rows, h1, h2, h3⟩ := h
  refine ⟨rows, h1.below hb, h2, fun i m hm => ?_⟩
  obtain ⟨vv, g1, g2⟩ := h3 i m hm
  exact ⟨vv, g1, g2.below hb⟩
theorem ScIn.below {w w1 : World} {v : Value} {s : ScS} (h : ScIn w v s) (hb : Below w.heap.size w w1) : ScIn w1 v s := by
  obtain ⟨vm, ve, vt, h1, h2, h3, h4⟩ := h
  exact ⟨vm, ve, vt, h1, h2.below hb, h3.below hb, h4.below hb⟩
theorem ScIn.zero (w : World) : ScIn w (.agg #[.string ⟨#[]⟩, .slice none 0 0, .slice none 0 0, .slice none 0 0]) zeroS :=
  ⟨_, _, _, rfl, ⟨[], RowG.nil w 3, rfl, fun i m hm => by simp [zeroS] at hm⟩, ⟨[], RowG.nil w 2, rfl, fun i m hm => by simp [zeroS] at hm⟩, RowG.nil w 3⟩
/-- Messages, opened: the slice, and each one's three cells. -/
theorem MsIn.open {w : World} {v : Value} {ms : List MsS} (h : MsIn w v ms) : ∃ a cap, v = .slice a ms.length cap ∧ ms.length ≤ cap ∧ cap ≤ maxLen ∧ (ms ≠ [] → ∃ g off, a = some ⟨g, off, none⟩) ∧
    ∀ g off, a = some ⟨g, off, none⟩ → ∀ (i : Nat) (m : MsS), ms[i]? = some m → ∃ vf vr, w.cell? ⟨g, off + i * 3, none⟩ = some (.string m.name) ∧ w.cell? ⟨g, off + i * 3 + 1, none⟩ = some vf ∧ w.cell? ⟨g, off + i * 3 + 2, none⟩ = some vr ∧ RowG w vf 5 (flRows m.fields) ∧ RowG w vr 1 (inRows m.reserved) := by
  obtain ⟨rows, h1, h2, h3⟩ := h
  obtain ⟨a, cap, e1, e2, e3, e4, e5⟩ := h1.open
  rw [h2] at e1 e2
  refine ⟨a, cap, e1, e2, e3, fun hne => e4 (fun e => ?_), fun g off ha i m hm => ?_⟩
  · rw [e] at h2; exact hne (List.eq_nil_of_length_eq_zero h2.symm)
  · obtain ⟨vf, vr, g1, g2, g3⟩ := h3 i m hm
    exact ⟨vf, vr, e5 g off ha i _ g1 0 _ rfl, e5 g off ha i _ g1 1 _ rfl, e5 g off ha i _ g1 2 _ rfl, g2, g3⟩
theorem EnIn.open {w : World} {v : Value} {es : List EnS} (h : EnIn w v es) : ∃ a cap, v = .slice a es.length cap ∧ es.length ≤ cap ∧ cap ≤ maxLen ∧ (es ≠ [] → ∃ g off, a = some ⟨g, off, none⟩) ∧
    ∀ g off, a = some ⟨g, off, none⟩ → ∀ (i : Nat) (e : EnS), es[i]? = some e → ∃ vv, w.cell? ⟨g, off + i * 2, none⟩ = some (.string e.name) ∧ w.cell? ⟨g, off + i * 2 + 1, none⟩ = some vv ∧ RowG w vv 2 (nmRows e.values) := by
  obtain ⟨rows, h1, h2, h3⟩ := h
  obtain ⟨a, cap, e1, e2, e3, e4, e5⟩ := h1.open
  rw [h2] at e1 e2
  refine ⟨a, cap, e1, e2, e3, fun hne => e4 (fun e => ?_), fun g off ha i m hm => ?_⟩
  · rw [e] at h2; exact hne (List.eq_nil_of_length_eq_zero h2.symm)
  · obtain ⟨vv, g1, g2⟩ := h3 i m hm
    exact ⟨vv, e5 g off ha i _ g1 0 _ rfl, e5 g off ha i _ g1 1 _ rfl, g2⟩
/-- A row of fields, opened: each one's five cells. -/
theorem row_fields {w : World} {v : Value} {fs : List FlS} (h : RowG w v 5 (flRows fs)) : ∃ a cap, v = .slice a fs.length cap ∧ fs.length ≤ cap ∧ cap ≤ maxLen ∧ (fs ≠ [] → ∃ g off, a = some ⟨g, off, none⟩) ∧
    ∀ g off, a = some ⟨g, off, none⟩ → ∀ (i : Nat) (f : FlS), fs[i]? = some f → w.cell? ⟨g, off + i * 5, none⟩ = some (.string f.name) ∧ w.cell? ⟨g, off + i * 5 + 1, none⟩ = some (.int .i64 f.tag) ∧ w.cell? ⟨g, off + i * 5 + 2, none⟩ = some (.int .i64 f.label) ∧ w.cell? ⟨g, off + i * 5 + 3, none⟩ = some (.int .i64 f.kind) ∧ w.cell? ⟨g, off + i * 5 + 4, none⟩ = some (.string f.tname) := by
  obtain ⟨a, cap, e1, e2, e3, e4, e5⟩ := h.open
  have hl : (flRows fs).length = fs.length := by simp [flRows]
  rw [hl] at e1 e2
  refine ⟨a, cap, e1, e2, e3, fun hne => e4 (fun e => hne (by simpa [flRows] using e)), fun g off ha i f hf => ?_⟩
  have hr : (flRows fs)[i]? = some f.cells := by simp [flRows, hf]
  exact ⟨e5 g off ha i _ hr 0 _ rfl, e5 g off ha i _ hr 1 _ rfl, e5 g off ha i _ hr 2 _ rfl, e5 g off ha i _ hr 3 _ rfl, e5 g off ha i _ hr 4 _ rfl⟩
theorem row_ints {w : World} {v : Value} {ns : List Int} (h : RowG w v 1 (inRows ns)) : ∃ a cap, v = .slice a ns.length cap ∧ ns.length ≤ cap ∧ cap ≤ maxLen ∧ (ns ≠ [] → ∃ g off, a = some ⟨g, off, none⟩) ∧
    ∀ g off, a = some ⟨g, off, none⟩ → ∀ (i : Nat) (n : Int), ns[i]? = some n → w.cell? ⟨g, off + i, none⟩ = some (.int .i64 n) := by
  obtain ⟨a, cap, e1, e2, e3, e4, e5⟩ := h.open
  have hl : (inRows ns).length = ns.length := by simp [inRows]
  rw [hl] at e1 e2
  refine ⟨a, cap, e1, e2, e3, fun hne => e4 (fun e => hne (by simpa [inRows] using e)), fun g off ha i n hn => ?_⟩
  have hr : (inRows ns)[i]? = some [.int .i64 n] := by simp [inRows, hn]
  have := e5 g off ha i _ hr 0 _ rfl
  rwa [Nat.mul_one, Nat.add_zero] at this
theorem row_named {w : World} {v : Value} {vs : List NmS} (h : RowG w v 2 (nmRows vs)) : ∃ a cap, v = .slice a vs.length cap ∧ vs.length ≤ cap ∧ cap ≤ maxLen ∧ (vs ≠ [] → ∃ g off, a = some ⟨g, off, none⟩) ∧
    ∀ g off, a = some ⟨g, off, none⟩ → ∀ (i : Nat) (f : NmS), vs[i]? = some f → w.cell? ⟨g, off + i * 2, none⟩ = some (.string f.name) ∧ w.cell? ⟨g, off + i * 2 + 1, none⟩ = some (.int .i64 f.n) := by
  obtain ⟨a, cap, e1, e2, e3, e4, e5⟩ := h.open
  have hl : (nmRows vs).length = vs.length := by simp [nmRows]
  rw [hl] at e1 e2
  refine ⟨a, cap, e1, e2, e3, fun hne => e4 (fun e => hne (by simpa [nmRows] using e)), fun g off ha i f hf => ?_⟩
  have hr : (nmRows vs)[i]? = some f.cells := by simp [nmRows, hf]
  exact ⟨e5 g off ha i _ hr 0 _ rfl, e5 g off ha i _ hr 1 _ rfl⟩
theorem row_methods {w : World} {v : Value} {ms : List MtS} (h : RowG w v 3 (mtRows ms)) : ∃ a cap, v = .slice a ms.length cap ∧ ms.length ≤ cap ∧ cap ≤ maxLen ∧ (ms ≠ [] → ∃ g off, a = some ⟨g, off, none⟩) ∧
    ∀ g off, a = some ⟨g, off, none⟩ → ∀ (i : Nat) (f : MtS), ms[i]? = some f → w.cell? ⟨g, off + i * 3, none⟩ = some (.string f.name) ∧ w.cell? ⟨g, off + i * 3 + 1, none⟩ = some (.string f.inn) ∧ w.cell? ⟨g, off + i * 3 + 2, none⟩ = some (.string f.out) := by
  obtain ⟨a, cap, e1, e2, e3, e4, e5⟩ := h.open
  have hl : (mtRows ms).length = ms.length := by simp [mtRows]
  rw [hl] at e1 e2
  refine ⟨a, cap, e1, e2, e3, fun hne => e4 (fun e => hne (by simpa [mtRows] using e)), fun g off ha i f hf => ?_⟩
  have hr : (mtRows ms)[i]? = some f.cells := by simp [mtRows, hf]
  exact ⟨e5 g off ha i _ hr 0 _ rfl, e5 g off ha i _ hr 1 _ rfl, e5 g off ha i _ hr 2 _ rfl⟩
theorem MsIn.get {w : World} {a : Option Addr} {N cap : Nat} {ms : List MsS} (h : MsIn w (.slice a N cap) ms) {i : Nat} {m : MsS} (hi : ms[i]? = some m) : ∃ g off vf vr, a = some ⟨g, off, none⟩ ∧ w.cell? ⟨g, off + i * 3, none⟩ = some (.string m.name) ∧ w.cell? ⟨g, off + i * 3 + 1, none⟩ = some vf ∧ w.cell? ⟨g, off + i * 3 + 2, none⟩ = some vr ∧ RowG w vf 5 (flRows m.fields) ∧ RowG w vr 1 (inRows m.reserved) := by
  obtain ⟨a', cap', e1, e2, e3, e4, e5⟩ := h.open
  simp only [Value.slice.injEq] at e1
  obtain ⟨rfl, _, _⟩ := e1
  obtain ⟨g, off, rfl⟩ := e4 (by intro e; rw [e] at hi; simp at hi)
  obtain ⟨vf, vr, h1, h2, h3, h4, h5⟩ := e5 g off rfl i m hi
  exact ⟨g, off, vf, vr, rfl, h1, h2, h3, h4, h5⟩
theorem EnIn.get {w : World} {a : Option Addr} {N cap : Nat} {ms : List EnS} (h : EnIn w (.slice a N cap) ms) {i : Nat} {m : EnS} (hi : ms[i]? = some m) : ∃ g off vv, a = some ⟨g, off, none⟩ ∧ w.cell? ⟨g, off + i * 2, none⟩ = some (.string m.name) ∧ w.cell? ⟨g, off + i * 2 + 1, none⟩ = some vv ∧ RowG w vv 2 (nmRows m.values) := by
  obtain ⟨a', cap', e1, e2, e3, e4, e5⟩ := h.open
  simp only [Value.slice.injEq] at e1
  obtain ⟨rfl, _, _⟩ := e1
  obtain ⟨g, off, rfl⟩ := e4 (by intro e; rw [e] at hi; simp at hi)
  obtain ⟨vv, h1, h2, h3⟩ := e5 g off rfl i m hi
  exact ⟨g, off, vv, rfl, h1, h2, h3⟩
theorem MsIn.form2 {w : World} {v : Value} {ms : List MsS} (h : MsIn w v ms) : ∃ a cap, v = .slice a ms.length cap ∧ ms.length ≤ cap ∧ cap ≤ 9223372036854775807 := by
  obtain ⟨a', cap', e1, e2, e3, _⟩ := h.open
  exact ⟨a', cap', e1, e2, by unfold maxLen at e3; omega⟩
theorem EnIn.form2 {w : World} {v : Value} {ms : List EnS} (h : EnIn w v ms) : ∃ a cap, v = .slice a ms.length cap ∧ ms.length ≤ cap ∧ cap ≤ 9223372036854775807 := by
  obtain ⟨a', cap', e1, e2, e3, _⟩ := h.open
  exact ⟨a', cap', e1, e2, by unfold maxLen at e3; omega⟩
end Go.Proofs.Ytfnjbbaphmmjlaa

/- Plain facts on runes: which rune the bytes of a list begin with, and that the model's own decoder and encoder agree with it. No condition. -/
set_option linter.unusedSimpArgs false
set_option maxRecDepth 20000
namespace Go.Proofs.Ytfnjbbaphmmjlaa

def ctU (a : UInt8) : Bool := decide (128 ≤ a.toNat) && decide (a.toNat ≤ 191)

def two (a b : UInt8) : Nat := (a.toNat - 192) * 64 + (b.toNat - 128)
def three (a b c : UInt8) : Nat := ((a.toNat - 224) * 64 + (b.toNat - 128)) * 64 + (c.toNat - 128)
def four (a b c d : UInt8) : Nat := (((a.toNat - 240) * 64 + (b.toNat - 128)) * 64 + (c.toNat - 128)) * 64 + (d.toNat - 128)

/-- The rune at a list's head, and its width. -/
def nxL : List UInt8 → Option (Nat × Nat)
  | [] => none
  | a :: r =>
    if a.toNat < 128 then some (a.toNat, 1)
    else if 192 ≤ a.toNat ∧ a.toNat < 224 then
      match r with
      | b :: _ => if ctU b = true ∧ 128 ≤ two a b then some (two a b, 2) else none
      | _ => none
    else if 224 ≤ a.toNat ∧ a.toNat < 240 then
      match r with
      | b :: c :: _ => if ctU b = true ∧ ctU c = true ∧ 2048 ≤ three a b c ∧ ¬ (55296 ≤ three a b c ∧ three a b c ≤ 57343) then some (three a b c, 3) else none
      | _ => none
    else if 240 ≤ a.toNat ∧ a.toNat < 248 then
      match r with
      | b :: c :: d :: _ => if ctU b = true ∧ ctU c = true ∧ ctU d = true ∧ 65536 ≤ four a b c d ∧ four a b c d ≤ 1114111 then some (four a b c d, 4) else none
      | _ => none
    else none

theorem get_list (l : List UInt8) (k : Nat) : (ByteArray.mk l.toArray).get! k = l.getD k default := by
  simp [ByteArray.get!, List.getD_eq_getElem?_getD, getElem!_def]
  cases h : l[k]? <;> simp

theorem decode_drop (s : ByteArray) (i : Nat) (h : i ≤ s.size) :
    Utf8.decode s i = Utf8.decode ⟨(s.data.toList.drop i).toArray⟩ 0 := by
  obtain ⟨⟨l⟩⟩ := s
  have e : ∀ k, (ByteArray.mk l.toArray).get! (i + k) = (ByteArray.mk (l.drop i).toArray).get! (0 + k) := by
    intro k
    rw [get_list, get_list]
    simp [List.getD_eq_getElem?_getD]
  have e2 : ∀ k, (i + k < (ByteArray.mk l.toArray).size) ↔ (0 + k < (ByteArray.mk (l.drop i).toArray).size) := by
    intro k
    simp only [ByteArray.size, List.size_toArray, List.length_drop]
    omega
  simp only [Utf8.decode, e, e2]

def hasErr (l : List UInt8) : Bool := [239, 191, 189].isPrefixOf l

theorem size_list (l : List UInt8) : (ByteArray.mk l.toArray).size = l.length := by simp [ByteArray.size]

theorem dec_1 (a : UInt8) (r : List UInt8) (h : a.toNat < 128) : Utf8.decode ⟨(a :: r).toArray⟩ 0 = (a.toNat, 1) := by
  simp only [Utf8.decode, get_list, size_list]
  simp [h]

theorem cont_of {b : UInt8} (h : ctU b = true) : b.toNat / 64 = 2 := by simp [ctU] at h; omega
theorem cont_not {b : UInt8} (h : ctU b = false) : ¬ b.toNat / 64 = 2 := by simp [ctU] at h; omega

theorem two_eq {a b : UInt8} (h1 : 192 ≤ a.toNat) (h2 : a.toNat < 224) (h : ctU b = true) : a.toNat % 32 * 64 + b.toNat % 64 = two a b := by
  simp [ctU] at h; simp only [two]; omega
theorem three_eq {a b c : UInt8} (h1 : 224 ≤ a.toNat) (h2 : a.toNat < 240) (h : ctU b = true) (hc : ctU c = true) : a.toNat % 16 * 4096 + b.toNat % 64 * 64 + c.toNat % 64 = three a b c := by
  simp [ctU] at h hc; simp only [three]; omega
theorem four_eq {a b c d : UInt8} (h1 : 240 ≤ a.toNat) (h2 : a.toNat < 248) (h : ctU b = true) (hc : ctU c = true) (hd : ctU d = true) : a.toNat % 8 * 262144 + b.toNat % 64 * 4096 + c.toNat % 64 * 64 + d.toNat % 64 = four a b c d := by
  simp [ctU] at h hc hd; simp only [four]; omega

theorem two_lt {a b : UInt8} (h2 : a.toNat < 224) (h : ctU b = true) : two a b < 2048 := by
  simp [ctU] at h; simp only [two]; omega
theorem three_lt {a b c : UInt8} (h2 : a.toNat < 240) (h : ctU b = true) (hc : ctU c = true) : three a b c < 65536 := by
  simp [ctU] at h hc; simp only [three]; omega

theorem dec_2 (a b : UInt8) (r : List UInt8) (h1 : 192 ≤ a.toNat) (h2 : a.toNat < 224) (h : ctU b = true) :
    Utf8.decode ⟨(a :: b :: r).toArray⟩ 0 = if 128 ≤ two a b then (two a b, 2) else (65533, 1) := by
  have e1 : ¬ a.toNat < 128 := by omega
  have e2 : a.toNat / 32 = 6 := by omega
  have e3 := cont_of h
  have e4 := two_eq h1 h2 h
  simp only [Utf8.decode, get_list, size_list]
  simp [e1, e2, e3, e4, Utf8.runeError]
theorem dec_2n (a : UInt8) (r : List UInt8) (h1 : 192 ≤ a.toNat) (h2 : a.toNat < 224) (h : ∀ b r', r = b :: r' → ctU b = false) :
    Utf8.decode ⟨(a :: r).toArray⟩ 0 = (65533, 1) := by
  have e1 : ¬ a.toNat < 128 := by omega
  have e2 : a.toNat / 32 = 6 := by omega
  have e5 : ¬ a.toNat / 16 = 14 := by omega
  have e6 : ¬ a.toNat / 8 = 30 := by omega
  simp only [Utf8.decode, get_list, size_list]
  match r with
  | [] => simp [e1, e2, Utf8.runeError]
  | b :: r' =>
    have e3 := cont_not (h b r' rfl)
    simp [e1, e2, e3, e5, e6, Utf8.runeError]
theorem dec_3 (a b c : UInt8) (r : List UInt8) (h1 : 224 ≤ a.toNat) (h2 : a.toNat < 240) (h : ctU b = true) (hc : ctU c = true) :
    Utf8.decode ⟨(a :: b :: c :: r).toArray⟩ 0 = if 2048 ≤ three a b c ∧ ¬ (55296 ≤ three a b c ∧ three a b c ≤ 57343) then (three a b c, 3) else (65533, 1) := by
  have e1 : ¬ a.toNat < 128 := by omega
  have e2 : ¬ a.toNat / 32 = 6 := by omega
  have e3 : a.toNat / 16 = 14 := by omega
  have e4 := cont_of h
  have e5 := cont_of hc
  have e6 := three_eq h1 h2 h hc
  have e7 := three_lt h2 h hc
  simp only [Utf8.decode, get_list, size_list]
  simp [e1, e2, e3, e4, e5, e6, Utf8.runeError, Utf8.valid]
  generalize three a b c = v at *
  by_cases g1 : 2048 ≤ v
  · by_cases g2 : v < 55296
    · have : ((v : Int) < 55296) := by omega
      simp [g1, g2, this]; omega
    · by_cases g3 : 57344 ≤ v
      · have i1 : ((57344 : Int) ≤ v) := by omega
        have i2 : ((v : Int) ≤ 1114111) := by omega
        simp [g1, i1, i2]; omega
      · have i1 : ¬ ((57344 : Int) ≤ v) := by omega
        have i2 : ¬ ((v : Int) < 55296) := by omega
        have i3 : ¬ (55296 ≤ v → 57343 < v) := by omega
        simp [i1, i2, i3]
  · simp [g1]
theorem dec_3n (a : UInt8) (r : List UInt8) (h1 : 224 ≤ a.toNat) (h2 : a.toNat < 240) (h : ∀ b c r', r = b :: c :: r' → ctU b = false ∨ ctU c = false) :
    Utf8.decode ⟨(a :: r).toArray⟩ 0 = (65533, 1) := by
  have e1 : ¬ a.toNat < 128 := by omega
  have e2 : ¬ a.toNat / 32 = 6 := by omega
  have e3 : a.toNat / 16 = 14 := by omega
  have e6 : ¬ a.toNat / 8 = 30 := by omega
  simp only [Utf8.decode, get_list, size_list]
  match r with
  | [] => simp [e1, e2, e6, Utf8.runeError]
  | [b] => simp [e1, e2, e6, Utf8.runeError]
  | b :: c :: r' =>
    rcases h b c r' rfl with g | g
    · simp [e1, e2, e6, cont_not g, Utf8.runeError]
    · simp [e1, e2, e6, cont_not g, Utf8.runeError]
theorem dec_4 (a b c d : UInt8) (r : List UInt8) (h1 : 240 ≤ a.toNat) (h2 : a.toNat < 248) (h : ctU b = true) (hc : ctU c = true) (hd : ctU d = true) :
    Utf8.decode ⟨(a :: b :: c :: d :: r).toArray⟩ 0 = if 65536 ≤ four a b c d ∧ four a b c d ≤ 1114111 then (four a b c d, 4) else (65533, 1) := by
  have e1 : ¬ a.toNat < 128 := by omega
  have e2 : ¬ a.toNat / 32 = 6 := by omega
  have e3 : ¬ a.toNat / 16 = 14 := by omega
  have e8 : a.toNat / 8 = 30 := by omega
  have e4 := cont_of h
  have e5 := cont_of hc
  have e9 := cont_of hd
  have e6 := four_eq h1 h2 h hc hd
  simp only [Utf8.decode, get_list, size_list]
  simp [e1, e2, e3, e4, e5, e6, e8, e9, Utf8.runeError, Utf8.valid]
  generalize four a b c d = v at *
  by_cases g1 : 65536 ≤ v
  · have i1 : ((57344 : Int) ≤ v) := by omega
    have i4 : ¬ ((v : Int) < 55296) := by omega
    by_cases g3 : v ≤ 1114111
    · have i2 : ((v : Int) ≤ 1114111) := by omega
      simp [g1, i1, i2, i4, g3]
    · have i2 : ¬ ((v : Int) ≤ 1114111) := by omega
      simp [i2, i4, g3]
  · simp [g1]
theorem dec_4n (a : UInt8) (r : List UInt8) (h1 : 240 ≤ a.toNat) (h2 : a.toNat < 248) (h : ∀ b c d r', r = b :: c :: d :: r' → ctU b = false ∨ ctU c = false ∨ ctU d = false) :
    Utf8.decode ⟨(a :: r).toArray⟩ 0 = (65533, 1) := by
  have e1 : ¬ a.toNat < 128 := by omega
  have e2 : ¬ a.toNat / 32 = 6 := by omega
  have e3 : ¬ a.toNat / 16 = 14 := by omega
  simp only [Utf8.decode, get_list, size_list]
  match r with
  | [] => simp [e1, e2, e3, Utf8.runeError]
  | [b] => simp [e1, e2, e3, Utf8.runeError]
  | [b, c] => simp [e1, e2, e3, Utf8.runeError]
  | b :: c :: d :: r' =>
    rcases h b c d r' rfl with g | g | g
    · simp [e1, e2, e3, cont_not g, Utf8.runeError]
    · simp [e1, e2, e3, cont_not g, Utf8.runeError]
    · simp [e1, e2, e3, cont_not g, Utf8.runeError]
theorem dec_0 (a : UInt8) (r : List UInt8) (h : 128 ≤ a.toNat) (h1 : ¬ (192 ≤ a.toNat ∧ a.toNat < 224)) (h2 : ¬ (224 ≤ a.toNat ∧ a.toNat < 240)) (h3 : ¬ (240 ≤ a.toNat ∧ a.toNat < 248)) :
    Utf8.decode ⟨(a :: r).toArray⟩ 0 = (65533, 1) := by
  have e1 : ¬ a.toNat < 128 := by omega
  have e2 : ¬ a.toNat / 32 = 6 := by omega
  have e3 : ¬ a.toNat / 16 = 14 := by omega
  have e4 : ¬ a.toNat / 8 = 30 := by omega
  simp only [Utf8.decode, get_list, size_list]
  simp [e1, e2, e3, e4, Utf8.runeError]

theorem hasErr_three {a b c : UInt8} {r : List UInt8} (h : three a b c = 65533) (h1 : 224 ≤ a.toNat) (h2 : a.toNat < 240) (hb : ctU b = true) (hc : ctU c = true) : hasErr (a :: b :: c :: r) = true := by
  simp [ctU] at hb hc
  simp only [three] at h
  have ea : a = 239 := UInt8.toNat_inj.1 (by show a.toNat = 239; omega)
  have eb : b = 191 := UInt8.toNat_inj.1 (by show b.toNat = 191; omega)
  have ec : c = 189 := UInt8.toNat_inj.1 (by show c.toNat = 189; omega)
  subst ea eb ec
  simp [hasErr, List.isPrefixOf]
theorem hasErr_iff {l : List UInt8} (h : hasErr l = true) : nxL l = some (65533, 3) := by
  match l with
  | [] => simp [hasErr, List.isPrefixOf] at h
  | [a] => simp [hasErr, List.isPrefixOf] at h
  | [a, b] => simp [hasErr, List.isPrefixOf] at h
  | a :: b :: c :: r =>
    simp [hasErr, List.isPrefixOf] at h
    obtain ⟨rfl, rfl, rfl⟩ := h
    rfl

/-- What the model's decoder reads at a list's head, told without it. -/
theorem decode_nx (a : UInt8) (r : List UInt8) :
    nxL (a :: r) = if (Utf8.decode ⟨(a :: r).toArray⟩ 0).1 = 65533 ∧ hasErr (a :: r) = false then none else some (Utf8.decode ⟨(a :: r).toArray⟩ 0) := by
  have ha := a.toNat_lt
  cases he : hasErr (a :: r) with
  | true =>
    rw [hasErr_iff he]
    match r with
    | [] => simp [hasErr, List.isPrefixOf] at he
    | [b] => simp [hasErr, List.isPrefixOf] at he
    | b :: c :: r' =>
      simp [hasErr, List.isPrefixOf] at he
      obtain ⟨rfl, rfl, rfl⟩ := he
      rw [dec_3 _ _ _ _ (by decide) (by decide) (by decide) (by decide)]
      rfl
  | false =>
    by_cases h0 : a.toNat < 128
    · rw [dec_1 a r h0, if_neg (by simp; omega)]
      simp [nxL, h0]
    · by_cases h2 : 192 ≤ a.toNat ∧ a.toNat < 224
      · by_cases hc : ∀ b r', r = b :: r' → ctU b = false
        · rw [dec_2n a r h2.1 h2.2 hc, if_pos ⟨rfl, rfl⟩]
          match r with
          | [] => simp only [nxL]; rw [if_neg h0, if_pos h2]
          | b :: r' => simp only [nxL]; rw [if_neg h0, if_pos h2, if_neg (by rw [hc b r' rfl]; simp)]
        · simp only [Classical.not_forall] at hc
          obtain ⟨b, r', rfl, hb⟩ := hc
          have hb' : ctU b = true := by simpa using hb
          have hl := two_lt h2.2 hb'
          rw [dec_2 a b r' h2.1 h2.2 hb']
          simp only [nxL]
          rw [if_neg h0, if_pos h2]
          by_cases g : 128 ≤ two a b
          · rw [if_pos ⟨hb', g⟩, if_pos g, if_neg (by simp; omega)]
          · rw [if_neg (fun x => g x.2), if_neg g, if_pos (by simp)]
      · by_cases h3 : 224 ≤ a.toNat ∧ a.toNat < 240
        · by_cases hc : ∀ b c r', r = b :: c :: r' → ctU b = false ∨ ctU c = false
          · rw [dec_3n a r h3.1 h3.2 hc, if_pos ⟨rfl, rfl⟩]
            match r with
            | [] => simp only [nxL]; rw [if_neg h0, if_neg h2, if_pos h3]
            | [b] => simp only [nxL]; rw [if_neg h0, if_neg h2, if_pos h3]
            | b :: c :: r' => simp only [nxL]; rw [if_neg h0, if_neg h2, if_pos h3, if_neg (by rcases hc b c r' rfl with g | g <;> rw [g] <;> simp)]
          · simp only [Classical.not_forall, not_or] at hc
            obtain ⟨b, c, r', rfl, hb, hc⟩ := hc
            have hb' : ctU b = true := by simpa using hb
            have hc' : ctU c = true := by simpa using hc
            rw [dec_3 a b c r' h3.1 h3.2 hb' hc']
            simp only [nxL]
            rw [if_neg h0, if_neg h2, if_pos h3]
            by_cases g : 2048 ≤ three a b c ∧ ¬ (55296 ≤ three a b c ∧ three a b c ≤ 57343)
            · rw [if_pos ⟨hb', hc', g⟩, if_pos g, if_neg]
              rintro ⟨g1, _⟩
              rw [hasErr_three g1 h3.1 h3.2 hb' hc'] at he
              cases he
            · rw [if_neg (fun x => g x.2.2), if_neg g, if_pos (by simp)]
        · by_cases h4 : 240 ≤ a.toNat ∧ a.toNat < 248
          · by_cases hc : ∀ b c d r', r = b :: c :: d :: r' → ctU b = false ∨ ctU c = false ∨ ctU d = false
            · rw [dec_4n a r h4.1 h4.2 hc, if_pos ⟨rfl, rfl⟩]
              match r with
              | [] => simp only [nxL]; rw [if_neg h0, if_neg h2, if_neg h3, if_pos h4]
              | [b] => simp only [nxL]; rw [if_neg h0, if_neg h2, if_neg h3, if_pos h4]
              | [b, c] => simp only [nxL]; rw [if_neg h0, if_neg h2, if_neg h3, if_pos h4]
              | b :: c :: d :: r' => simp only [nxL]; rw [if_neg h0, if_neg h2, if_neg h3, if_pos h4, if_neg (by rcases hc b c d r' rfl with g | g | g <;> rw [g] <;> simp)]
            · simp only [Classical.not_forall, not_or] at hc
              obtain ⟨b, c, d, r', rfl, hb, hc, hd⟩ := hc
              have hb' : ctU b = true := by simpa using hb
              have hc' : ctU c = true := by simpa using hc
              have hd' : ctU d = true := by simpa using hd
              rw [dec_4 a b c d r' h4.1 h4.2 hb' hc' hd']
              simp only [nxL]
              rw [if_neg h0, if_neg h2, if_neg h3, if_pos h4]
              by_cases g : 65536 ≤ four a b c d ∧ four a b c d ≤ 1114111
              · rw [if_pos ⟨hb', hc', hd', g⟩, if_pos g, if_neg (by simp; omega)]
              · rw [if_neg (fun x => g x.2.2.2), if_neg g, if_pos (by simp)]
          · rw [dec_0 a r (by omega) h2 h3 h4, if_pos ⟨rfl, rfl⟩]
            simp only [nxL]
            rw [if_neg h0, if_neg h2, if_neg h3, if_neg h4]

theorem decode_nx' (l : List UInt8) (hl : l ≠ []) :
    nxL l = if (Utf8.decode ⟨l.toArray⟩ 0).1 = 65533 ∧ hasErr l = false then none else some (Utf8.decode ⟨l.toArray⟩ 0) := by
  match l with
  | [] => exact absurd rfl hl
  | a :: r => exact decode_nx a r

theorem u8_of {n : Nat} (a : UInt8) (h : n = a.toNat) : UInt8.ofNat n = a := by
  subst h; simp

/-- A rune that was read is one: its bytes are those that were read. -/
theorem nxL_some (l : List UInt8) (c k : Nat) (h : nxL l = some (c, k)) :
    Utf8.valid c = true ∧ (Utf8.encode c).data.toList = l.take k ∧ (Utf8.encode c).size = k ∧ 1 ≤ k ∧ k ≤ l.length ∧ k ≤ 4 ∧ c ≤ 1114111 := by
  match l with
  | [] => simp [nxL] at h
  | a :: r =>
    simp only [nxL] at h
    by_cases h0 : a.toNat < 128
    · rw [if_pos h0] at h
      simp only [Option.some.injEq, Prod.mk.injEq] at h
      obtain ⟨rfl, rfl⟩ := h
      have hv : Utf8.valid (a.toNat : Int) = true := by simp [Utf8.valid]; omega
      have he : Utf8.encode (a.toNat : Int) = ⟨#[a]⟩ := by
        simp [Utf8.encode, hv, h0]
      rw [he]
      exact ⟨hv, by simp, by simp [ByteArray.size], by omega, by simp, by omega, by omega⟩
    · rw [if_neg h0] at h
      by_cases h2 : 192 ≤ a.toNat ∧ a.toNat < 224
      · rw [if_pos h2] at h
        match r with
        | [] => simp at h
        | b :: r' =>
          simp only at h
          by_cases g : ctU b = true ∧ 128 ≤ two a b
          · rw [if_pos g] at h
            simp only [Option.some.injEq, Prod.mk.injEq] at h
            obtain ⟨rfl, rfl⟩ := h
            have hl := two_lt h2.2 g.1
            have hb := g.1
            simp only [ctU, Bool.and_eq_true, decide_eq_true_eq] at hb
            have hv : Utf8.valid (two a b : Int) = true := by simp [Utf8.valid]; omega
            have n1 : ¬ two a b < 128 := by omega
            have he : Utf8.encode (two a b : Int) = ⟨#[a, b]⟩ := by
              simp only [Utf8.encode, hv, if_true, Int.toNat_natCast, if_neg n1, if_pos hl]
              rw [u8_of a (by simp only [two]; omega), u8_of b (by simp only [two]; omega)]
            rw [he]
            exact ⟨hv, by simp, by simp [ByteArray.size], by omega, by simp, by omega, by omega⟩
          · rw [if_neg g] at h; simp at h
      · rw [if_neg h2] at h
        by_cases h3 : 224 ≤ a.toNat ∧ a.toNat < 240
        · rw [if_pos h3] at h
          match r with
          | [] => simp at h
          | [b] => simp at h
          | b :: c' :: r' =>
            simp only at h
            by_cases g : ctU b = true ∧ ctU c' = true ∧ 2048 ≤ three a b c' ∧ ¬ (55296 ≤ three a b c' ∧ three a b c' ≤ 57343)
            · rw [if_pos g] at h
              simp only [Option.some.injEq, Prod.mk.injEq] at h
              obtain ⟨rfl, rfl⟩ := h
              obtain ⟨g1, g2, g3, g4⟩ := g
              have hl := three_lt h3.2 g1 g2
              simp only [ctU, Bool.and_eq_true, decide_eq_true_eq] at g1 g2
              have hv : Utf8.valid (three a b c' : Int) = true := by simp [Utf8.valid]; omega
              have n1 : ¬ three a b c' < 128 := by omega
              have n2 : ¬ three a b c' < 2048 := by omega
              have he : Utf8.encode (three a b c' : Int) = ⟨#[a, b, c']⟩ := by
                simp only [Utf8.encode, hv, if_true, Int.toNat_natCast, if_neg n1, if_neg n2, if_pos hl]
                rw [u8_of a (by simp only [three]; omega), u8_of b (by simp only [three]; omega), u8_of c' (by simp only [three]; omega)]
              rw [he]
              exact ⟨hv, by simp, by simp [ByteArray.size], by omega, by simp, by omega, by omega⟩
            · rw [if_neg g] at h; simp at h
        · rw [if_neg h3] at h
          by_cases h4 : 240 ≤ a.toNat ∧ a.toNat < 248
          · rw [if_pos h4] at h
            match r with
            | [] => simp at h
            | [b] => simp at h
            | [b, c'] => simp at h
            | b :: c' :: d :: r' =>
              simp only at h
              by_cases g : ctU b = true ∧ ctU c' = true ∧ ctU d = true ∧ 65536 ≤ four a b c' d ∧ four a b c' d ≤ 1114111
              · rw [if_pos g] at h
                simp only [Option.some.injEq, Prod.mk.injEq] at h
                obtain ⟨rfl, rfl⟩ := h
                obtain ⟨g1, g2, g3, g4, g5⟩ := g
                simp only [ctU, Bool.and_eq_true, decide_eq_true_eq] at g1 g2 g3
                have hv : Utf8.valid (four a b c' d : Int) = true := by simp [Utf8.valid]; omega
                have n1 : ¬ four a b c' d < 128 := by omega
                have n2 : ¬ four a b c' d < 2048 := by omega
                have n3 : ¬ four a b c' d < 65536 := by omega
                have he : Utf8.encode (four a b c' d : Int) = ⟨#[a, b, c', d]⟩ := by
                  simp only [Utf8.encode, hv, if_true, Int.toNat_natCast, if_neg n1, if_neg n2, if_neg n3]
                  rw [u8_of a (by simp only [four]; omega), u8_of b (by simp only [four]; omega), u8_of c' (by simp only [four]; omega), u8_of d (by simp only [four]; omega)]
                rw [he]
                exact ⟨hv, by simp, by simp [ByteArray.size], by omega, by simp, by omega, by omega⟩
              · rw [if_neg g] at h; simp at h
          · rw [if_neg h4] at h; simp at h

/-- A rune's bytes, whatever stands behind them, are read as that rune. -/
theorem nxL_encode (c : Nat) (h : Utf8.valid c = true) (t : List UInt8) :
    nxL ((Utf8.encode c).data.toList ++ t) = some (c, (Utf8.encode c).size) := by
  have hc : c ≤ 1114111 ∧ ¬ (55296 ≤ c ∧ c ≤ 57343) := by simp [Utf8.valid] at h; omega
  by_cases h1 : c < 128
  · have e : Utf8.encode (c : Int) = ⟨#[UInt8.ofNat c]⟩ := by simp [Utf8.encode, h, h1]
    have n : (UInt8.ofNat c).toNat = c := by simp; omega
    rw [e]
    simp only [List.cons_append, List.nil_append, nxL, n, if_pos h1]
    rfl
  · by_cases h2 : c < 2048
    · have e : Utf8.encode (c : Int) = ⟨#[UInt8.ofNat (192 + c / 64), UInt8.ofNat (128 + c % 64)]⟩ := by simp [Utf8.encode, h, h1, h2]
      have n1 : (UInt8.ofNat (192 + c / 64)).toNat = 192 + c / 64 := by simp; omega
      have n2 : (UInt8.ofNat (128 + c % 64)).toNat = 128 + c % 64 := by simp; omega
      rw [e]
      simp only [List.cons_append, List.nil_append, nxL, n1, n2, ctU, two]
      rw [if_neg (by omega), if_pos (by omega), if_pos (by simp; omega)]
      simp [ByteArray.size]; omega
    · by_cases h3 : c < 65536
      · have e : Utf8.encode (c : Int) = ⟨#[UInt8.ofNat (224 + c / 4096), UInt8.ofNat (128 + c / 64 % 64), UInt8.ofNat (128 + c % 64)]⟩ := by simp [Utf8.encode, h, h1, h2, h3]
        have n1 : (UInt8.ofNat (224 + c / 4096)).toNat = 224 + c / 4096 := by simp; omega
        have n2 : (UInt8.ofNat (128 + c / 64 % 64)).toNat = 128 + c / 64 % 64 := by simp; omega
        have n3 : (UInt8.ofNat (128 + c % 64)).toNat = 128 + c % 64 := by simp; omega
        have hv : ((224 + c / 4096 - 224) * 64 + (128 + c / 64 % 64 - 128)) * 64 + (128 + c % 64 - 128) = c := by omega
        rw [e]
        simp only [List.cons_append, List.nil_append, nxL, n1, n2, n3, ctU, three, hv]
        rw [if_neg (by omega), if_neg (by omega), if_pos (by omega), if_pos (by simp; omega)]
        simp [ByteArray.size]
      · have e : Utf8.encode (c : Int) = ⟨#[UInt8.ofNat (240 + c / 262144), UInt8.ofNat (128 + c / 4096 % 64), UInt8.ofNat (128 + c / 64 % 64), UInt8.ofNat (128 + c % 64)]⟩ := by simp [Utf8.encode, h, h1, h2, h3]
        have n1 : (UInt8.ofNat (240 + c / 262144)).toNat = 240 + c / 262144 := by simp; omega
        have n2 : (UInt8.ofNat (128 + c / 4096 % 64)).toNat = 128 + c / 4096 % 64 := by simp; omega
        have n3 : (UInt8.ofNat (128 + c / 64 % 64)).toNat = 128 + c / 64 % 64 := by simp; omega
        have n4 : (UInt8.ofNat (128 + c % 64)).toNat = 128 + c % 64 := by simp; omega
        have hv : (((240 + c / 262144 - 240) * 64 + (128 + c / 4096 % 64 - 128)) * 64 + (128 + c / 64 % 64 - 128)) * 64 + (128 + c % 64 - 128) = c := by omega
        rw [e]
        simp only [List.cons_append, List.nil_append, nxL, n1, n2, n3, n4, ctU, four, hv]
        rw [if_neg (by omega), if_neg (by omega), if_neg (by omega), if_pos (by omega), if_pos (by simp; omega)]
        simp [ByteArray.size]
end Go.Proofs.Ytfnjbbaphmmjlaa

/- What the leaf functions of package runes answer (Digit, Letter, Put, Key), at every input. -/
namespace Go.Proofs.Ytfnjbbaphmmjlaa
open Go.ChangeShapes Go.WideShapes Go.ChangeAt Go.RowKit
set_option linter.unusedVariables false
set_option maxRecDepth 20000

theorem ret_bool {a b : Bool} (h : a = b) : Ending.returned (.bool a) = .returned (.bool b) := by rw [h]
theorem ret_int {k : IntKind} {a b : Int} (h : a = b) : Ending.returned (.int k a) = .returned (.int k b) := by rw [h]
theorem ret_str {a b : ByteArray} (h : a = b) : Ending.returned (.string a) = .returned (.string b) := by rw [h]

def digB (r : Int) : Bool := decide (48 ≤ r ∧ r ≤ 57)
def letB (r : Int) : Bool := decide (97 ≤ r ∧ r ≤ 122 ∨ 65 ≤ r ∧ r ≤ 90 ∨ r = 95 ∨ (192 ≤ r ∧ r ≤ 591 ∧ r ≠ 215 ∧ r ≠ 247) ∨ (913 ≤ r ∧ r ≤ 969 ∧ r ≠ 930))
def putS (r : Int) : ByteArray := if Utf8.valid r then Utf8.encode r else ⟨#[]⟩

set_option maxHeartbeats 400000 in
theorem digit_any (r : Int) (w : World) :
    Calls Try.prog 70 #[.int .i32 r] w fun e w' => e = .returned (.bool (digB r)) ∧ w' = w := by
  go_enter Try.func70, Try.ntmps70
  go_wp2
  all_goals
    go_ret
    exact ⟨ret_bool (by simp [digB]; try omega), rfl⟩

set_option maxHeartbeats 1000000 in
theorem letter_any (r : Int) (w : World) :
    Calls Try.prog 69 #[.int .i32 r] w fun e w' => e = .returned (.bool (letB r)) ∧ w' = w := by
  go_enter Try.func69, Try.ntmps69
  go_wp2
  all_goals
    go_ret
    refine ⟨ret_bool ?_, rfl⟩
    try simp only [beq_eq_false_iff_ne, beq_iff_eq, ne_eq] at *
    rw [Bool.eq_iff_iff]
    simp [letB]
    try omega

theorem valid_iff (r : Int) : Utf8.valid r = true ↔ (0 ≤ r ∧ r ≤ 1114111 ∧ ¬ (55296 ≤ r ∧ r ≤ 57343)) := by
  simp [Utf8.valid]; omega
theorem valid_not (r : Int) : Utf8.valid r = false ↔ ¬ (0 ≤ r ∧ r ≤ 1114111 ∧ ¬ (55296 ≤ r ∧ r ≤ 57343)) := by
  rw [← valid_iff]; simp
theorem putS_yes {r : Int} (h : Utf8.valid r = true) : Utf8.encode r = putS r := by simp [putS, h]
theorem putS_no {r : Int} (h : Utf8.valid r = false) : ⟨#[]⟩ = putS r := by simp [putS, h]


/-- The thirteen words. -/
def keyB (s : ByteArray) : Bool := [[115, 99, 104, 101, 109, 97], [109, 101, 115, 115, 97, 103, 101], [101, 110, 117, 109], [99, 97, 108, 108], [114, 101, 116, 117, 114, 110, 115], [114, 101, 115, 101, 114, 118, 101, 100],
  [111, 112, 116, 105, 111, 110, 97, 108], [114, 101, 112, 101, 97, 116, 101, 100], [105, 110, 116, 51, 50], [105, 110, 116, 54, 52], [98, 111, 111, 108], [116, 101, 120, 116], [98, 121, 116, 101, 115]].any fun (k : List UInt8) => s.toList == k

end Go.Proofs.Ytfnjbbaphmmjlaa

/- What HasPrefix and stands answer, at every input. -/
namespace Go.Proofs.Ytfnjbbaphmmjlaa
open Go.ChangeShapes Go.WideShapes Go.ChangeAt Go.RowKit
set_option linter.unusedVariables false
set_option maxRecDepth 20000

theorem prefix_eq (s p : ByteArray) (h : p.size ≤ s.size) : ((s.extract 0 p.size).toList == p.toList) = p.toList.isPrefixOf s.toList := by
  obtain ⟨⟨l⟩⟩ := s
  obtain ⟨⟨q⟩⟩ := p
  simp only [ByteArray.toList_eq, ByteArray.data_extract, ByteArray.size, List.size_toArray, List.extract_toArray, List.extract_eq_take_drop, List.drop_zero, Nat.sub_zero] at *
  rw [Bool.eq_iff_iff, List.isPrefixOf_iff_prefix, List.prefix_iff_eq_take, beq_iff_eq]
  exact eq_comm
theorem prefix_short (s p : ByteArray) (h : ¬ p.size ≤ s.size) : false = p.toList.isPrefixOf s.toList := by
  obtain ⟨⟨l⟩⟩ := s
  obtain ⟨⟨q⟩⟩ := p
  simp only [ByteArray.toList_eq, ByteArray.size, List.size_toArray] at *
  cases e : q.isPrefixOf l with
  | false => rfl
  | true =>
    rw [List.isPrefixOf_iff_prefix] at e
    exact absurd e.length_le h

set_option maxHeartbeats 1000000 in
theorem hasPrefix_any (s p : ByteArray) (w : World) (hs : s.size ≤ 140737488351232) (hp : p.size ≤ 140737488351232) :
    Calls Try.prog 87 #[.string s, .string p] w fun e w' => e = .returned (.bool (p.toList.isPrefixOf s.toList)) ∧ w' = w := by
  go_enter Try.func87, Try.ntmps87
  go_wp2
  · go_ret
    exact ⟨ret_bool (prefix_eq s p ‹_›), rfl⟩
  · go_ret
    exact ⟨ret_bool (prefix_short s p ‹_›), rfl⟩

def standsB (l : List UInt8) (r : Int) : Bool := decide (r ≠ 65533) || hasErr l

theorem extract_drop (s : ByteArray) (i : Nat) : (s.extract i s.size).data.toList = s.data.toList.drop i := by
  obtain ⟨⟨l⟩⟩ := s
  simp [ByteArray.data_extract, ByteArray.size]
  exact List.take_of_length_le (by simp)

theorem hasErr_extract (s : ByteArray) (i : Nat) : [239, 191, 189].isPrefixOf (s.extract i s.size).toList = hasErr (s.data.toList.drop i) := by
  rw [ByteArray.toList_eq, extract_drop]; rfl
theorem extract_size_le (s : ByteArray) (i : Nat) (h : s.size ≤ 140737488351232) : (s.extract i s.size).size ≤ 140737488351232 := by
  simp [ByteArray.size_extract]; omega

set_option maxHeartbeats 1000000 in
theorem stands_any (s : ByteArray) (i : Int) (r : Int) (w : World) (hs : s.size ≤ 140737488351232) (hi : 0 ≤ i) (hj : i ≤ s.size) :
    Calls Try.prog 80 #[.string s, .int .i64 i, .int .i32 r] w fun e w' => e = .returned (.bool (standsB (s.data.toList.drop i.toNat) r)) ∧ w' = w := by
  by_cases h : r = 65533
  · subst h
    go_enter Try.func80, Try.ntmps80
    go_wp2_with (go_at_call 87; refine (hasPrefix_any _ _ _ (extract_size_le s _ hs) (by decide)).mono ?_; rintro e w' ⟨rfl, rfl⟩)
    go_ret
    refine ⟨ret_bool ?_, rfl⟩
    simp [standsB, ← hasErr_extract]
  · have hne : (r != 65533) = true := by simp [h]
    go_enter Try.func80, Try.ntmps80
    go_wp2_with fail
    go_ret
    refine ⟨ret_bool ?_, rfl⟩
    simp [standsB, h]

theorem drop_cons (s : ByteArray) (i : Nat) (h : i < s.size) : s.data.toList.drop i = s[i] :: s.data.toList.drop (i + 1) := by
  rw [List.drop_eq_getElem_cons (by simpa using h)]; rfl
theorem drop_none (s : ByteArray) (i : Nat) (h : s.size ≤ i) : s.data.toList.drop i = [] := by
  apply List.drop_eq_nil_of_le; simpa using h

def nxV : Option (Nat × Nat) → Value
  | none => .tuple #[.int .i32 0, .int .i64 0, .bool false]
  | some x => .tuple #[.int .i32 (x.1 : Int), .int .i64 (x.2 : Int), .bool true]
def atL (s : ByteArray) (i : Int) : List UInt8 := if i < 0 then [] else s.data.toList.drop i.toNat

theorem ret_none {x : Option (Nat × Nat)} (h : x = none) : Ending.returned (.tuple #[.int .i32 0, .int .i64 0, .bool false]) = .returned (nxV x) := by rw [h]; rfl
theorem ret_some {x : Option (Nat × Nat)} {c k : Int} (c' k' : Nat) (h : x = some (c', k')) (hc : c = c') (hk : k = k') : Ending.returned (.tuple #[.int .i32 c, .int .i64 k, .bool true]) = .returned (nxV x) := by rw [h, hc, hk]; rfl

theorem atL_out (s : ByteArray) (i : Int) (h : i < 0 ∨ (s.size : Int) ≤ i) : nxL (atL s i) = none := by
  unfold atL
  by_cases g : i < 0
  · rw [if_pos g]; rfl
  · rw [if_neg g, drop_none s _ (by omega)]; rfl
theorem atL_in (s : ByteArray) (i : Int) (h : 0 ≤ i) : atL s i = s.data.toList.drop i.toNat := by
  unfold atL; rw [if_neg (by omega)]

theorem below_iter (w : World) (s : ByteArray) (p : Nat) : Below w.heap.size w (w.iter s p) := (Below.refl _ _).alloc (Nat.le_refl _) _

theorem nx_stands {l : List UInt8} {c k : Nat} (hl : l ≠ []) (hd : Utf8.decode ⟨l.toArray⟩ 0 = (c, k)) :
    (standsB l c = true → nxL l = some (c, k)) ∧ (standsB l c = false → nxL l = none) := by
  have h := decode_nx' l hl
  rw [hd] at h
  unfold standsB
  constructor
  · intro g
    rw [h, if_neg]
    rintro ⟨g1, g2⟩
    simp only at g1
    rw [g2, g1] at g
    simp at g
  · intro g
    rw [h, if_pos]
    simp only [Bool.or_eq_false_iff, decide_eq_false_iff_not, ne_eq, Decidable.not_not] at g
    exact ⟨by show c = 65533; omega, g.2⟩

end Go.Proofs.Ytfnjbbaphmmjlaa

/- Plain facts on texts: the runes that a list of bytes is made of; what a name is. -/
namespace Go.Proofs.Ytfnjbbaphmmjlaa
open Go.RowKit
set_option linter.unusedVariables false
set_option linter.unusedSimpArgs false
set_option maxRecDepth 20000

/-- The runes of a list of bytes, at most so many; none, if it is not runes alone. -/
def allL : Nat → List UInt8 → Option (List Nat)
  | 0, l => if l.isEmpty then some [] else none
  | f + 1, l => if l.isEmpty then some [] else
    match nxL l with
    | none => none
    | some x => (allL f (l.drop x.2)).map (x.1 :: ·)
def runesOf (l : List UInt8) : Option (List Nat) := allL l.length l

theorem allL_fuel (f : Nat) : ∀ (g : Nat) (l : List UInt8), l.length ≤ f → l.length ≤ g → allL f l = allL g l := by
  induction f with
  | zero =>
    intro g l h _
    have : l = [] := List.length_eq_zero_iff.1 (by omega)
    subst this
    cases g <;> simp [allL]
  | succ f ih =>
    intro g l hf hg
    match l, g with
    | [], 0 => simp [allL]
    | [], g + 1 => simp [allL]
    | a :: r, 0 => simp at hg
    | a :: r, g + 1 =>
      simp only [allL]
      cases e : nxL (a :: r) with
      | none => simp
      | some x =>
        obtain ⟨c, k⟩ := x
        obtain ⟨_, _, _, h4, h5, _⟩ := nxL_some _ _ _ e
        have hd : ((a :: r).drop k).length ≤ f := by simp at hf h5 ⊢; omega
        have hd2 : ((a :: r).drop k).length ≤ g := by simp at hg h5 ⊢; omega
        simp [ih g ((a :: r).drop k) hd hd2]

theorem runesOf_nil : runesOf [] = some [] := rfl
theorem runesOf_bad {l : List UInt8} (hl : l ≠ []) (h : nxL l = none) : runesOf l = none := by
  match l with
  | [] => exact absurd rfl hl
  | a :: r => simp [runesOf, allL, h]
theorem runesOf_step {l : List UInt8} {c k : Nat} (h : nxL l = some (c, k)) : runesOf l = (runesOf (l.drop k)).map (c :: ·) := by
  match l with
  | [] => simp [nxL] at h
  | a :: r =>
    obtain ⟨_, _, _, h4, h5, _⟩ := nxL_some _ _ _ h
    simp only [runesOf, List.length_cons, allL, h]
    have e := allL_fuel r.length ((a :: r).drop k).length ((a :: r).drop k) (by simp; omega) (Nat.le_refl _)
    rw [if_neg (by simp)]
    simp only [e]

theorem runesOf_le (f : Nat) : ∀ l : List UInt8, l.length ≤ f → ∀ rs, runesOf l = some rs → rs.length ≤ l.length := by
  induction f with
  | zero =>
    intro l hl rs h
    have : l = [] := List.length_eq_zero_iff.1 (by omega)
    subst this
    rw [runesOf_nil] at h
    simp at h; subst h; simp
  | succ f ih =>
    intro l hl rs h
    match l with
    | [] => rw [runesOf_nil] at h; simp at h; subst h; simp
    | a :: r =>
      cases e : nxL (a :: r) with
      | none => rw [runesOf_bad (by simp) e] at h; cases h
      | some x =>
        obtain ⟨c, k⟩ := x
        obtain ⟨_, _, _, h4, h5, _⟩ := nxL_some _ _ _ e
        rw [runesOf_step e] at h
        cases e2 : runesOf ((a :: r).drop k) with
        | none => rw [e2] at h; cases h
        | some rs' =>
          rw [e2] at h
          simp at h; subst h
          have := ih _ (by simp at hl h5 ⊢; omega) _ e2
          simp at this h5 ⊢; omega

def validB (l : List UInt8) : Bool := (runesOf l).isSome
def countN (l : List UInt8) : Nat := ((runesOf l).getD []).length
theorem countN_le (l : List UInt8) : countN l ≤ l.length := by
  unfold countN
  cases e : runesOf l with
  | none => simp
  | some rs => simpa using runesOf_le l.length l (Nat.le_refl _) rs e

/-- Signs that may be in a name: the first a letter, others a letter or a digit. -/
def okFrom : Bool → List Nat → Bool
  | _, [] => true
  | b, c :: r => (letB c || (!b && digB c)) && okFrom false r
theorem okFrom_append (acc rest : List Nat) : ∀ b, okFrom b (acc ++ rest) = (okFrom b acc && okFrom (b && acc.isEmpty) rest) := by
  induction acc with
  | nil => intro b; simp [okFrom]
  | cons a r ih => intro b; simp [okFrom, ih, Bool.and_assoc]

def nameB (s : ByteArray) : Bool := decide (1 ≤ countN s.data.toList ∧ countN s.data.toList ≤ 20) && !keyB s && okFrom true ((runesOf s.data.toList).getD [])

/-- What has been gone through, and what is left. -/
def Gone (l : List UInt8) (pos : Nat) (acc : List Nat) : Prop := runesOf l = (runesOf (l.drop pos)).map (acc ++ ·)
theorem Gone.start (l : List UInt8) : Gone l 0 [] := by
  unfold Gone; simp
theorem Gone.step {l : List UInt8} {pos c k : Nat} {acc : List Nat} (h : Gone l pos acc) (hn : nxL (l.drop pos) = some (c, k)) : Gone l (pos + k) (acc ++ [c]) := by
  unfold Gone at h ⊢
  rw [h, runesOf_step hn, List.drop_drop]
  cases runesOf (l.drop (pos + k)) <;> simp
theorem Gone.bad {l : List UInt8} {pos : Nat} {acc : List Nat} (h : Gone l pos acc) (hp : pos < l.length) (hn : nxL (l.drop pos) = none) : runesOf l = none := by
  unfold Gone at h
  rw [h, runesOf_bad _ hn]; rfl
  intro e
  have : (l.drop pos).length = 0 := by rw [e]; rfl
  simp at this; omega
theorem Gone.done {l : List UInt8} {pos : Nat} {acc : List Nat} (h : Gone l pos acc) (hp : l.length ≤ pos) : runesOf l = some acc := by
  unfold Gone at h
  rw [h, List.drop_eq_nil_of_le hp, runesOf_nil]; simp
theorem Gone.len {l : List UInt8} {pos : Nat} {acc rs : List Nat} (h : Gone l pos acc) (hr : runesOf l = some rs) : ∃ rest, rs = acc ++ rest := by
  unfold Gone at h
  rw [hr] at h
  cases e : runesOf (l.drop pos) with
  | none => rw [e] at h; cases h
  | some r => rw [e] at h; simp at h; exact ⟨r, h⟩

/-- The model's decoder at a place of a text, and whether a rune stands there. -/
theorem dec_at (s : ByteArray) (pos : Nat) (h : pos < s.size) : ∃ c k, Utf8.decode s pos = (c, k) ∧
    (standsB (s.data.toList.drop pos) c = true → nxL (s.data.toList.drop pos) = some (c, k)) ∧ (standsB (s.data.toList.drop pos) c = false → nxL (s.data.toList.drop pos) = none) := by
  have hl : s.data.toList.drop pos ≠ [] := by rw [drop_cons s pos h]; exact List.cons_ne_nil _ _
  have hd := decode_drop s pos (by omega)
  rw [hd]
  generalize e : Utf8.decode ⟨(s.data.toList.drop pos).toArray⟩ 0 = d
  obtain ⟨c, k⟩ := d
  exact ⟨c, k, rfl, nx_stands hl e⟩

theorem len_data (s : ByteArray) : s.data.toList.length = s.size := by rw [Array.length_toList]; rfl
theorem nx_of_gone {l : List UInt8} {pos : Nat} {acc rs : List Nat} (h : Gone l pos acc) (hp : pos < l.length) (hr : runesOf l = some rs) : ∃ x, nxL (l.drop pos) = some x := by
  cases e : nxL (l.drop pos) with
  | none => rw [h.bad hp e] at hr; cases hr
  | some x => exact ⟨x, rfl⟩

theorem dec_of_nx {l : List UInt8} {c k : Nat} {x : Nat × Nat} (h1 : standsB l c = true → nxL l = some (c, k)) (h2 : standsB l c = false → nxL l = none) (h : nxL l = some x) : nxL l = some (c, k) := by
  cases e : standsB l c with
  | true => exact h1 e
  | false => rw [h2 e] at h; cases h

end Go.Proofs.Ytfnjbbaphmmjlaa

/- What Check answers, as a plain function of a schema; what is found in one. -/
namespace Go.Proofs.Ytfnjbbaphmmjlaa
open Go.RowKit
set_option linter.unusedVariables false
set_option linter.unusedSimpArgs false
set_option maxRecDepth 20000

def memB (x : ByteArray) (l : List ByteArray) : Bool := l.any fun y => decide (x = y)
theorem memB_iff {x : ByteArray} {l : List ByteArray} : memB x l = true ↔ x ∈ l := by simp [memB]
theorem memB_no {x : ByteArray} {l : List ByteArray} : memB x l = false ↔ x ∉ l := by rw [← memB_iff]; simp
def memI (x : Int) (l : List Int) : Bool := decide (x ∈ l)
def freshB (x : ByteArray) (l : List ByteArray) : Bool := nameB x && !memB x l
def tagR (n : Int) : Bool := decide (1 ≤ n ∧ n ≤ 500)
def tagB (n : Int) (l : List Int) : Bool := tagR n && !memI n l
def numR (n : Int) : Bool := decide (0 ≤ n ∧ n ≤ 2147483647)
def numB (n : Int) (l : List Int) : Bool := numR n && !memI n l
def labB (n : Int) : Bool := decide (1 ≤ n ∧ n ≤ 3)
def typeB (mn en : List ByteArray) (k : Int) (t : ByteArray) : Bool :=
  (decide (1 ≤ k ∧ k ≤ 5) && decide (t = ⟨#[]⟩)) || (decide (k = 6) && memB t en) || (decide (k = 7) && memB t mn)
/-- The first of two answers that is an error. -/
def orE (a b : Int) : Int := if a = 0 then b else a
def chkRes : List Int → List Int → Int
  | _, [] => 0
  | a, n :: l => if tagB n a = true then chkRes (a ++ [n]) l else 7
def chkFs (mn en : List ByteArray) : List ByteArray → List Int → List FlS → Int
  | _, _, [] => 0
  | a, t, f :: l => if freshB f.name a = false then 6 else if tagB f.tag t = false then 7 else if (labB f.label && typeB mn en f.kind f.tname) = false then 8 else chkFs mn en (a ++ [f.name]) (t ++ [f.tag]) l
def bigM (m : MsS) : Bool := decide (16 < m.fields.length ∨ 32 < m.reserved.length)
def chkMb (mn en : List ByteArray) (m : MsS) : Int := if bigM m = true then 4 else orE (chkRes [] m.reserved) (chkFs mn en [] m.reserved m.fields)
def chkMs (mn en : List ByteArray) : List ByteArray → List MsS → Int
  | _, [] => 0
  | a, m :: l => if freshB m.name a = false then 6 else orE (chkMb mn en m) (chkMs mn en (a ++ [m.name]) l)
def chkVs : List ByteArray → List Int → List NmS → Int
  | _, _, [] => 0
  | a, t, v :: l => if freshB v.name a = false then 6 else if numB v.n t = false then 11 else chkVs (a ++ [v.name]) (t ++ [v.n]) l
def zeroE (e : EnS) : Bool := e.values.any fun v => decide (v.n = 0)
def chkEb (e : EnS) : Int := if 16 < e.values.length then 4 else if zeroE e = false then 12 else chkVs [] [] e.values
def chkEs : List ByteArray → List EnS → Int
  | _, [] => 0
  | a, e :: l => if freshB e.name a = false then 6 else orE (chkEb e) (chkEs (a ++ [e.name]) l)
def chkTs (mn : List ByteArray) : List ByteArray → List MtS → Int
  | _, [] => 0
  | a, m :: l => if freshB m.name a = false then 6 else if (memB m.inn mn && memB m.out mn) = false then 8 else chkTs mn (a ++ [m.name]) l
def ScS.mn (s : ScS) : List ByteArray := s.msgs.map MsS.name
def ScS.en (s : ScS) : List ByteArray := s.enums.map EnS.name
def ScS.tn (s : ScS) : List ByteArray := s.methods.map MtS.name
def bigS (s : ScS) : Bool := decide (10 < s.msgs.length ∨ 6 < s.enums.length ∨ 6 < s.methods.length)
def wholeA (s : ScS) : Int := if nameB s.name = false then 6 else if s.msgs.length = 0 then 12 else if bigS s = true then 4 else 0
def partsA (s : ScS) : Int := orE (chkMs s.mn s.en [] s.msgs) (chkEs s.mn s.enums)
def checkA (s : ScS) : Int := orE (wholeA s) (orE (partsA s) (chkTs s.mn [] s.methods))
/-- What is found. -/
def findM (s : ScS) (nm : ByteArray) : Option MsS := s.msgs.find? fun m => decide (m.name = nm)
def findE (s : ScS) (nm : ByteArray) : Option EnS := s.enums.find? fun m => decide (m.name = nm)
def findT (s : ScS) (nm : ByteArray) : Option MtS := s.methods.find? fun m => decide (m.name = nm)
def findF (fs : List FlS) (t : Int) : Option FlS := fs.find? fun f => decide (f.tag = t)

/-! Steps, for the loops -/
theorem drop_at {α : Type} {l : List α} {k : Nat} {x : α} (h : l[k]? = some x) : l.drop k = x :: l.drop (k + 1) := by
  obtain ⟨hk, rfl⟩ := List.getElem?_eq_some_iff.1 h
  exact List.drop_eq_getElem_cons hk
theorem drop_end {α : Type} {l : List α} {k : Nat} (h : l.length ≤ k) : l.drop k = [] := List.drop_eq_nil_of_le h
theorem orE_zero (b : Int) : orE 0 b = b := by simp [orE]
theorem orE_ne {a : Int} (h : a ≠ 0) (b : Int) : orE a b = a := by simp [orE, h]
theorem memB_nil (x : ByteArray) : memB x [] = false := by simp [memB]
theorem memI_nil (x : Int) : memI x [] = false := by simp [memI]
theorem memB_snoc (x y : ByteArray) (l : List ByteArray) : memB x (l ++ [y]) = (memB x l || decide (x = y)) := by simp [memB]
theorem memI_snoc (x y : Int) (l : List Int) : memI x (l ++ [y]) = (memI x l || decide (x = y)) := by simp [memI, Bool.decide_or]
theorem memI_append (x : Int) (l m : List Int) : memI x (l ++ m) = (memI x l || memI x m) := by simp [memI, Bool.decide_or]
theorem memB_append (x : ByteArray) (l m : List ByteArray) : memB x (l ++ m) = (memB x l || memB x m) := by simp [memB]
theorem bytes_eq_iff (a b : ByteArray) : a = b ↔ a.data.toList = b.data.toList :=
  ⟨fun h => by rw [h], fun h => by obtain ⟨⟨l⟩⟩ := a; obtain ⟨⟨m⟩⟩ := b; simp at h; subst h; rfl⟩
theorem beq_bytes (a b : ByteArray) : (a.data.toList == b.data.toList) = decide (a = b) := by
  rw [Bool.eq_iff_iff, beq_iff_eq, decide_eq_true_iff, bytes_eq_iff]

/-! When Check answers OK -/
theorem orE_ok {a b : Int} : orE a b = 0 ↔ a = 0 ∧ b = 0 := by unfold orE; split <;> omega
theorem freshB_iff {x : ByteArray} {l : List ByteArray} : freshB x l = true ↔ nameB x = true ∧ x ∉ l := by unfold freshB; rw [Bool.and_eq_true, Bool.not_eq_true', memB_no]
theorem tagB_iff {x : Int} {l : List Int} : tagB x l = true ↔ tagR x = true ∧ x ∉ l := by simp [tagB, memI]
theorem numB_iff {x : Int} {l : List Int} : numB x l = true ↔ numR x = true ∧ x ∉ l := by simp [numB, memI]
theorem chkRes_ok : ∀ (l a : List Int), chkRes a l = 0 ↔ (∀ n ∈ l, tagR n = true ∧ n ∉ a) ∧ l.Nodup
  | [], a => by simp [chkRes]
  | n :: l, a => by
    unfold chkRes
    by_cases h : tagB n a = true
    · rw [if_pos h, chkRes_ok l]
      rw [tagB_iff] at h
      simp only [List.mem_append, List.mem_singleton, not_or, List.forall_mem_cons, List.nodup_cons]
      constructor
      · rintro ⟨h1, h2⟩
        exact ⟨⟨h, fun m hm => ⟨(h1 m hm).1, (h1 m hm).2.1⟩⟩, fun hn => (h1 n hn).2.2 rfl, h2⟩
      · rintro ⟨⟨_, h1⟩, h2, h3⟩
        exact ⟨fun m hm => ⟨(h1 m hm).1, (h1 m hm).2, fun e => h2 (e ▸ hm)⟩, h3⟩
    · rw [if_neg h]
      rw [tagB_iff] at h
      simp only [List.mem_cons, forall_eq_or_imp]
      constructor
      · intro e; omega
      · rintro ⟨⟨h1, _⟩, _⟩; exact absurd h1 h
def fieldOk (mn en : List ByteArray) (f : FlS) : Prop := nameB f.name = true ∧ tagR f.tag = true ∧ labB f.label = true ∧ typeB mn en f.kind f.tname = true
theorem chkFs_ok (mn en : List ByteArray) : ∀ (l : List FlS) (a : List ByteArray) (t : List Int), chkFs mn en a t l = 0 ↔ (∀ f ∈ l, fieldOk mn en f ∧ f.name ∉ a ∧ f.tag ∉ t) ∧ (l.map FlS.name).Nodup ∧ (l.map FlS.tag).Nodup
  | [], a, t => by simp [chkFs]
  | f :: l, a, t => by
    unfold chkFs
    simp only [List.mem_cons, forall_eq_or_imp, List.map_cons, List.nodup_cons, List.mem_map, not_exists, not_and]
    by_cases h1 : freshB f.name a = true
    · rw [if_neg (by rw [h1]; decide)]
      by_cases h2 : tagB f.tag t = true
      · rw [if_neg (by rw [h2]; decide)]
        by_cases h3 : (labB f.label && typeB mn en f.kind f.tname) = true
        · rw [if_neg (by rw [h3]; decide), chkFs_ok mn en l]
          rw [freshB_iff] at h1
          rw [tagB_iff] at h2
          rw [Bool.and_eq_true] at h3
          simp only [List.mem_append, List.mem_singleton, not_or]
          constructor
          · rintro ⟨g1, g2, g3⟩
            exact ⟨⟨⟨⟨h1.1, h2.1, h3.1, h3.2⟩, h1.2, h2.2⟩, fun m hm => ⟨(g1 m hm).1, (g1 m hm).2.1.1, (g1 m hm).2.2.1⟩⟩, ⟨fun m hm => (g1 m hm).2.1.2, g2⟩, ⟨fun m hm => (g1 m hm).2.2.2, g3⟩⟩
          · rintro ⟨⟨_, g1⟩, ⟨g2, g3⟩, ⟨g4, g5⟩⟩
            exact ⟨fun m hm => ⟨(g1 m hm).1, ⟨(g1 m hm).2.1, g2 m hm⟩, ⟨(g1 m hm).2.2, g4 m hm⟩⟩, g3, g5⟩
        · rw [if_pos (by simpa using h3)]
          constructor
          · intro e; omega
          · rintro ⟨⟨⟨⟨_, _, g1, g2⟩, _⟩, _⟩, _⟩; rw [g1, g2] at h3; exact absurd rfl h3
      · rw [if_pos (by simpa using h2)]
        constructor
        · intro e; omega
        · rintro ⟨⟨⟨⟨_, g1, _⟩, _, g2⟩, _⟩, _⟩; exact absurd (tagB_iff.2 ⟨g1, g2⟩) h2
    · rw [if_pos (by simpa using h1)]
      constructor
      · intro e; omega
      · rintro ⟨⟨⟨⟨g1, _⟩, g2, _⟩, _⟩, _⟩; exact absurd (freshB_iff.2 ⟨g1, g2⟩) h1
def msgOk (mn en : List ByteArray) (m : MsS) : Prop := bigM m = false ∧ (∀ n ∈ m.reserved, tagR n = true) ∧ m.reserved.Nodup ∧ (∀ f ∈ m.fields, fieldOk mn en f ∧ f.tag ∉ m.reserved) ∧ (m.fields.map FlS.name).Nodup ∧ (m.fields.map FlS.tag).Nodup
theorem chkMb_ok (mn en : List ByteArray) (m : MsS) : chkMb mn en m = 0 ↔ msgOk mn en m := by
  unfold chkMb msgOk
  cases h : bigM m
  · rw [if_neg (by decide), orE_ok, chkRes_ok, chkFs_ok]
    simp only [List.not_mem_nil, not_false_eq_true, and_true, true_and]
    constructor
    · rintro ⟨⟨h1, h2⟩, h3, h4, h5⟩; exact ⟨h1, h2, h3, h4, h5⟩
    · rintro ⟨h1, h2, h3, h4, h5⟩; exact ⟨⟨h1, h2⟩, h3, h4, h5⟩
  · rw [if_pos rfl]; constructor
    · intro e; omega
    · rintro ⟨e, _⟩; cases e
theorem chkMs_ok (mn en : List ByteArray) : ∀ (l : List MsS) (a : List ByteArray), chkMs mn en a l = 0 ↔ (∀ m ∈ l, nameB m.name = true ∧ m.name ∉ a ∧ msgOk mn en m) ∧ (l.map MsS.name).Nodup
  | [], a => by simp [chkMs]
  | m :: l, a => by
    unfold chkMs
    simp only [List.mem_cons, forall_eq_or_imp, List.map_cons, List.nodup_cons, List.mem_map, not_exists, not_and]
    by_cases h1 : freshB m.name a = true
    · rw [if_neg (by rw [h1]; decide), orE_ok, chkMs_ok mn en l, chkMb_ok]
      rw [freshB_iff] at h1
      simp only [List.mem_append, List.mem_singleton, not_or]
      constructor
      · rintro ⟨g0, g1, g2⟩
        exact ⟨⟨⟨h1.1, h1.2, g0⟩, fun x hx => ⟨(g1 x hx).1, (g1 x hx).2.1.1, (g1 x hx).2.2⟩⟩, fun x hx => (g1 x hx).2.1.2, g2⟩
      · rintro ⟨⟨⟨_, _, g0⟩, g1⟩, g2, g3⟩
        exact ⟨g0, fun x hx => ⟨(g1 x hx).1, ⟨(g1 x hx).2.1, g2 x hx⟩, (g1 x hx).2.2⟩, g3⟩
    · rw [if_pos (by simpa using h1)]
      constructor
      · intro e; omega
      · rintro ⟨⟨⟨g1, g2, _⟩, _⟩, _⟩; exact absurd (freshB_iff.2 ⟨g1, g2⟩) h1
theorem chkVs_ok : ∀ (l : List NmS) (a : List ByteArray) (t : List Int), chkVs a t l = 0 ↔ (∀ v ∈ l, nameB v.name = true ∧ v.name ∉ a ∧ numR v.n = true ∧ v.n ∉ t) ∧ (l.map NmS.name).Nodup ∧ (l.map NmS.n).Nodup
  | [], a, t => by simp [chkVs]
  | f :: l, a, t => by
    unfold chkVs
    simp only [List.mem_cons, forall_eq_or_imp, List.map_cons, List.nodup_cons, List.mem_map, not_exists, not_and]
    by_cases h1 : freshB f.name a = true
    · rw [if_neg (by rw [h1]; decide)]
      by_cases h2 : numB f.n t = true
      · rw [if_neg (by rw [h2]; decide), chkVs_ok l]
        rw [freshB_iff] at h1
        rw [numB_iff] at h2
        simp only [List.mem_append, List.mem_singleton, not_or]
        constructor
        · rintro ⟨g1, g2, g3⟩
          exact ⟨⟨⟨h1.1, h1.2, h2.1, h2.2⟩, fun m hm => ⟨(g1 m hm).1, (g1 m hm).2.1.1, (g1 m hm).2.2.1, (g1 m hm).2.2.2.1⟩⟩, ⟨fun m hm => (g1 m hm).2.1.2, g2⟩, ⟨fun m hm => (g1 m hm).2.2.2.2, g3⟩⟩
        · rintro ⟨⟨_, g1⟩, ⟨g2, g3⟩, ⟨g4, g5⟩⟩
          exact ⟨fun m hm => ⟨(g1 m hm).1, ⟨(g1 m hm).2.1, g2 m hm⟩, (g1 m hm).2.2.1, ⟨(g1 m hm).2.2.2, g4 m hm⟩⟩, g3, g5⟩
      · rw [if_pos (by simpa using h2)]
        constructor
        · intro e; omega
        · rintro ⟨⟨⟨_, _, g1, g2⟩, _⟩, _⟩; exact absurd (numB_iff.2 ⟨g1, g2⟩) h2
    · rw [if_pos (by simpa using h1)]
      constructor
      · intro e; omega
      · rintro ⟨⟨⟨g1, g2, _⟩, _⟩, _⟩; exact absurd (freshB_iff.2 ⟨g1, g2⟩) h1
theorem chkEs_ok : ∀ (l : List EnS) (a : List ByteArray), chkEs a l = 0 ↔ (∀ e ∈ l, nameB e.name = true ∧ e.name ∉ a ∧ chkEb e = 0) ∧ (l.map EnS.name).Nodup
  | [], a => by simp [chkEs]
  | m :: l, a => by
    unfold chkEs
    simp only [List.mem_cons, forall_eq_or_imp, List.map_cons, List.nodup_cons, List.mem_map, not_exists, not_and]
    by_cases h1 : freshB m.name a = true
    · rw [if_neg (by rw [h1]; decide), orE_ok, chkEs_ok l]
      rw [freshB_iff] at h1
      simp only [List.mem_append, List.mem_singleton, not_or]
      constructor
      · rintro ⟨g0, g1, g2⟩
        exact ⟨⟨⟨h1.1, h1.2, g0⟩, fun x hx => ⟨(g1 x hx).1, (g1 x hx).2.1.1, (g1 x hx).2.2⟩⟩, fun x hx => (g1 x hx).2.1.2, g2⟩
      · rintro ⟨⟨⟨_, _, g0⟩, g1⟩, g2, g3⟩
        exact ⟨g0, fun x hx => ⟨(g1 x hx).1, ⟨(g1 x hx).2.1, g2 x hx⟩, (g1 x hx).2.2⟩, g3⟩
    · rw [if_pos (by simpa using h1)]
      constructor
      · intro e; omega
      · rintro ⟨⟨⟨g1, g2, _⟩, _⟩, _⟩; exact absurd (freshB_iff.2 ⟨g1, g2⟩) h1
theorem chkTs_ok (mn : List ByteArray) : ∀ (l : List MtS) (a : List ByteArray), chkTs mn a l = 0 ↔ (∀ e ∈ l, nameB e.name = true ∧ e.name ∉ a ∧ e.inn ∈ mn ∧ e.out ∈ mn) ∧ (l.map MtS.name).Nodup
  | [], a => by simp [chkTs]
  | m :: l, a => by
    unfold chkTs
    simp only [List.mem_cons, forall_eq_or_imp, List.map_cons, List.nodup_cons, List.mem_map, not_exists, not_and]
    by_cases h1 : freshB m.name a = true
    · rw [if_neg (by rw [h1]; decide)]
      by_cases h2 : (memB m.inn mn && memB m.out mn) = true
      · rw [if_neg (by rw [h2]; decide), chkTs_ok mn l]
        rw [freshB_iff] at h1
        have h2' : m.inn ∈ mn ∧ m.out ∈ mn := by rw [Bool.and_eq_true, memB_iff, memB_iff] at h2; exact h2
        simp only [List.mem_append, List.mem_singleton, not_or]
        constructor
        · rintro ⟨g1, g2⟩
          exact ⟨⟨⟨h1.1, h1.2, h2'⟩, fun x hx => ⟨(g1 x hx).1, (g1 x hx).2.1.1, (g1 x hx).2.2⟩⟩, fun x hx => (g1 x hx).2.1.2, g2⟩
        · rintro ⟨⟨_, g1⟩, g2, g3⟩
          exact ⟨fun x hx => ⟨(g1 x hx).1, ⟨(g1 x hx).2.1, g2 x hx⟩, (g1 x hx).2.2⟩, g3⟩
      · rw [if_pos (by simpa using h2)]
        constructor
        · intro e; omega
        · rintro ⟨⟨⟨_, _, g1, g2⟩, _⟩, _⟩
          exact absurd (by rw [Bool.and_eq_true, memB_iff, memB_iff]; exact ⟨g1, g2⟩) h2
    · rw [if_pos (by simpa using h1)]
      constructor
      · intro e; omega
      · rintro ⟨⟨⟨g1, g2, _⟩, _⟩, _⟩; exact absurd (freshB_iff.2 ⟨g1, g2⟩) h1
/-- A schema that may be. -/
structure OkS (s : ScS) : Prop where
  name : nameB s.name = true
  some : 0 < s.msgs.length
  big : bigS s = false
  msgs : ∀ m ∈ s.msgs, nameB m.name = true ∧ msgOk s.mn s.en m
  enums : ∀ e ∈ s.enums, nameB e.name = true ∧ chkEb e = 0
  meths : ∀ t ∈ s.methods, nameB t.name = true ∧ t.inn ∈ s.mn ∧ t.out ∈ s.mn
  names : s.mn.Nodup
  enms : s.en.Nodup
  apart : ∀ x ∈ s.en, x ∉ s.mn
  tns : s.tn.Nodup
theorem wholeA_ok (s : ScS) : wholeA s = 0 ↔ nameB s.name = true ∧ 0 < s.msgs.length ∧ bigS s = false := by
  unfold wholeA
  cases h1 : nameB s.name
  · simp
  · by_cases h2 : s.msgs.length = 0
    · rw [if_neg (by decide), if_pos h2]; simp [h2]
    · rw [if_neg (by decide), if_neg h2]
      cases h3 : bigS s
      · simp; omega
      · simp
theorem checkA_ok (s : ScS) : checkA s = 0 ↔ OkS s := by
  unfold checkA partsA
  rw [orE_ok, orE_ok, orE_ok, wholeA_ok, chkMs_ok, chkEs_ok, chkTs_ok]
  constructor
  · rintro ⟨⟨h1, h2, h3⟩, ⟨⟨h4, h5⟩, h6, h7⟩, h8, h9⟩
    exact ⟨h1, h2, h3, fun m hm => ⟨(h4 m hm).1, (h4 m hm).2.2⟩, fun e he => ⟨(h6 e he).1, (h6 e he).2.2⟩, fun t ht => ⟨(h8 t ht).1, (h8 t ht).2.2⟩, h5, h7,
      fun x hx => by obtain ⟨e, he, rfl⟩ := List.mem_map.1 hx; exact (h6 e he).2.1, h9⟩
  · rintro ⟨h1, h2, h3, h4, h5, h6, h7, h8, h9, h10⟩
    exact ⟨⟨h1, h2, h3⟩, ⟨⟨fun m hm => ⟨(h4 m hm).1, by simp, (h4 m hm).2⟩, h7⟩, fun e he => ⟨(h5 e he).1, h9 _ (List.mem_map_of_mem he), (h5 e he).2⟩, h8⟩, fun t ht => ⟨(h6 t ht).1, by simp, (h6 t ht).2⟩, h10⟩
end Go.Proofs.Ytfnjbbaphmmjlaa
