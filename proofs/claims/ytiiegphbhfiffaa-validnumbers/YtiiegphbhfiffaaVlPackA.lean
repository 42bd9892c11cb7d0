/- Values that fit a schema, in plain words. Trees whose lists lie in plain blocks; what keeps all cells keeps them. Claims as a map's keys: a name, and by what a tree is known again. What Number, kindOf, Zero, placeOf, identityOf, hasField answer. What placeOf, identityOf, hasField answer; whether a rest has a field's tag. Whether a tree is one of a type. Whether an entry is one of a message. -/
import Derived.Test.YtiiegphbhfiffaaTvMath
import Derived.Test.YtiiegphbhfiffaaCkMath
import Derived.Test.YtiiegphbhfiffaaRuAllMath
import Derived.Test.YtiiegphbhfiffaaTvPl
import Derived.Test.YtiiegphbhfiffaaScRow
import Derived.Test.YtiiegphbhfiffaaCkFindF
import Derived.Test.YtiiegphbhfiffaaRg6
import Derived.Test.YtiiegphbhfiffaaRuValid
import Derived.Test.YtiiegphbhfiffaaQb
/- Values that fit a schema, in plain words. -/
namespace Go.Proofs.Ytiiegphbhfiffaa
set_option linter.unusedVariables false
set_option linter.unusedSimpArgs false

/-- May a number be of a type's kind? -/
def nmrB (k n : Int) : Bool :=
  if k = 3 then decide (0 ≤ n) && decide (n ≤ 1) else if k = 6 then decide (0 ≤ n) && decide (n ≤ 2147483647)
  else if k = 1 then decide (-2147483648 ≤ n) && decide (n ≤ 2147483647) else decide (k = 2)
/-- The kind of a type's trees. -/
def kindT (k : Int) : Int := if k = 1 ∨ k = 2 ∨ k = 3 ∨ k = 6 then 1 else if k = 4 ∨ k = 5 then 2 else if k = 7 then 3 else 0
/-- Is a value nothing? -/
def zroB (t : Tr) : Bool := decide (t.kind = 1 ∨ t.kind = 2 ∨ t.kind = 3) && decide (t.n = 0) && decide (t.s.size = 0) && decide (t.es.length = 0) && decide (t.rest.length = 0)
/-- The first that is not 0. -/
def errF : List Int → Int
  | [] => 0
  | a :: l => if a = 0 then errF l else a
def fldOf (fs : List FlS) (tag : Int) : Option FlS := fs.find? fun f => decide (f.tag = tag)
def msgOf (s : ScS) (nm : ByteArray) : Option MsS := s.msgs.find? fun m => decide (m.name = nm)
def zMs : MsS := ⟨⟨#[]⟩, [], []⟩
def treeV (M : ByteArray → Tr → Int) (k : Int) (tn : ByteArray) (t : Tr) : Int :=
  if t.kind ≠ kindT k then 8 else if t.kind = 1 ∧ nmrB k t.n = false then 11 else if k = 4 ∧ validB t.s.data.toList = false then 9 else if t.kind = 3 then M tn t else 0
def oneV (M : ByteArray → Tr → Int) (f : FlS) (t : Tr) : Int :=
  if treeV M f.kind f.tname t ≠ 0 then treeV M f.kind f.tname t else if f.label = 1 ∧ zroB t = true then 12 else 0
def entV (M : ByteArray → Tr → Int) (fs : List FlS) (e : Int × List Tr) : Int :=
  match fldOf fs e.1 with
  | none => 7
  | some f => if f.label ≠ 3 ∧ 1 < e.2.length then 4 else errF (e.2.map (oneV M f))
/-- What Valid says of a message (down to n). -/
def msgV : Nat → ScS → ByteArray → Tr → Int
  | 0, _, _, _ => 0
  | n + 1, s, nm, t =>
    if errF (t.es.map (entV (msgV n s) ((msgOf s nm).getD zMs).fields)) ≠ 0 then errF (t.es.map (entV (msgV n s) ((msgOf s nm).getD zMs).fields))
    else if (t.rest.any fun f => (fldOf ((msgOf s nm).getD zMs).fields f.tag).isSome) = true then 7 else 0
def validA (n : Nat) (s : ScS) (nm : ByteArray) (t : Tr) : Int :=
  if checkA s ≠ 0 then 1 else if (msgOf s nm).isSome = false then 14 else if chkN n t = false ∨ t.kind ≠ 3 then 1 else msgV n s nm t
/-- Not deeper than n. -/
def DpN : Nat → Tr → Prop
  | 0, _ => False
  | n + 1, t => ∀ e ∈ t.es, ∀ x ∈ e.2, DpN n x
theorem errF_congr {α : Type} {f g : α → Int} {l : List α} (h : ∀ x ∈ l, f x = g x) : errF (l.map f) = errF (l.map g) := by
  rw [List.map_congr_left h]
theorem treeV_congr {M M' : ByteArray → Tr → Int} {k : Int} {tn : ByteArray} {t : Tr} (h : M tn t = M' tn t) : treeV M k tn t = treeV M' k tn t := by
  unfold treeV; rw [h]
theorem oneV_congr {M M' : ByteArray → Tr → Int} {f : FlS} {t : Tr} (h : M f.tname t = M' f.tname t) : oneV M f t = oneV M' f t := by
  unfold oneV; rw [treeV_congr h]
theorem entV_congr {M M' : ByteArray → Tr → Int} {fs : List FlS} {e : Int × List Tr} (h : ∀ x ∈ e.2, ∀ nm, M nm x = M' nm x) : entV M fs e = entV M' fs e := by
  unfold entV
  split
  · rfl
  · rename_i f _
    rw [errF_congr (g := oneV M' f) fun x hx => oneV_congr (h x hx _)]
theorem msgV_more : ∀ (n m : Nat) (s : ScS) (nm : ByteArray) (t : Tr), DpN n t → DpN m t → msgV n s nm t = msgV m s nm t
  | 0, _, _, _, _, h, _ => h.elim
  | _ + 1, 0, _, _, _, _, h => h.elim
  | n + 1, m + 1, s, nm, t, h, k => by
    have : errF (t.es.map (entV (msgV n s) ((msgOf s nm).getD zMs).fields)) = errF (t.es.map (entV (msgV m s) ((msgOf s nm).getD zMs).fields)) :=
      errF_congr fun e he => entV_congr fun x hx nm' => msgV_more n m s nm' x (h e he x hx) (k e he x hx)
    simp only [msgV, this]
theorem errF_step {l : List Int} {a : Int} : errF (l ++ [a]) = if errF l ≠ 0 then errF l else a := by
  induction l with
  | nil =>
    by_cases h : a = 0
    · simp [errF, h]
    · simp [errF, h]
  | cons b l ih =>
    by_cases h : b = 0
    · simp [errF, h, ih]
    · simp [errF, h]
theorem errF_hit {α : Type} {f : α → Int} {l : List α} {i : Nat} {x : α} (h : l[i]? = some x) (h0 : errF ((l.take i).map f) = 0) (hx : f x ≠ 0) : errF (l.map f) = f x := by
  obtain ⟨hl, rfl⟩ := List.getElem?_eq_some_iff.1 h
  have h1 : l = l.take i ++ (l[i] :: l.drop (i + 1)) := by rw [← List.drop_eq_getElem_cons hl, List.take_append_drop]
  have h2 : ∀ (a b : List Int), errF a = 0 → errF (a ++ b) = errF b := fun a b => by
    induction a with
    | nil => intro _; rfl
    | cons c a ih =>
      intro hc
      by_cases hz : c = 0
      · simp only [errF, hz, if_true, List.cons_append] at hc ⊢; exact ih hc
      · simp only [errF, if_neg hz] at hc; exact absurd hc hz
  have h3 : l.map f = (l.take i).map f ++ (f l[i] :: (l.drop (i + 1)).map f) := by
    conv => lhs; rw [h1]
    rw [List.map_append, List.map_cons]
  rw [h3, h2 _ _ h0, errF, if_neg hx]
theorem errF_on {α : Type} {f : α → Int} {l : List α} {i : Nat} {x : α} (h : l[i]? = some x) (h0 : errF ((l.take i).map f) = 0) (hx : f x = 0) : errF ((l.take (i + 1)).map f) = 0 := by
  obtain ⟨hl, rfl⟩ := List.getElem?_eq_some_iff.1 h
  rw [List.take_succ_eq_append_getElem hl, List.map_append, List.map_cons, List.map_nil, errF_step, h0]
  simp [hx]
end Go.Proofs.Ytiiegphbhfiffaa
/- Trees whose lists lie in plain blocks; what keeps all cells keeps them. -/
namespace Go.Proofs.Ytiiegphbhfiffaa
open Go.ChangeShapes Go.WideShapes Go.ChangeAt Go.RowKit
set_option linter.unusedVariables false
set_option linter.unusedSimpArgs false
set_option maxRecDepth 20000

/-- Every block of cells is as it was. -/
def Cel (w w' : World) : Prop := ∀ (k : Nat) (cs : Array Value) (t : TypeId) (fz : Nat × Nat), w.heap[k]? = some (Obj.cells cs t fz) → w'.heap[k]? = some (Obj.cells cs t fz)
theorem Cel.refl (w : World) : Cel w w := fun _ _ _ _ h => h
theorem Cel.trans {a b c : World} (h : Cel a b) (k : Cel b c) : Cel a c := fun i cs t fz e => k i cs t fz (h i cs t fz e)
theorem Cel.ofBelow {w w' : World} (h : Below w.heap.size w w') : Cel w w' := fun k cs t fz e => (h.block k (Array.getElem?_eq_some_iff.1 e).1).trans e
theorem Cel.ofKp {S : Nat → Prop} {w w' : World} (h : Kp S w w') (hs : ∀ k cs t fz, w.heap[k]? = some (.cells cs t fz) → ¬ S k) : Cel w w' := fun k cs t fz e => (h.block k (Array.getElem?_eq_some_iff.1 e).1 (hs k cs t fz e)).trans e
theorem Cel.cell {w w' : World} (h : Cel w w') {p : Addr} {u : Value} (hc : w.cell? p = some u) : w'.cell? p = some u := by
  cases hb : w.heap[p.block]? with
  | none => simp [World.cell?, hb] at hc
  | some o =>
    cases o with
    | cells cs t fz =>
      have := h _ _ _ _ hb
      simp only [World.cell?, hb] at hc
      simp only [World.cell?, this]
      exact hc
    | _ => simp [World.cell?, hb] at hc
theorem RowG.cel {w w1 : World} {v : Value} {size : Nat} {rs : List (List Value)} (h : RowG w v size rs) (hb : Cel w w1) : RowG w1 v size rs := by
  obtain ⟨a, cap, h1, h2, h3, h0, h4⟩ := h.form
  refine ⟨a, cap, h1, h2, h3, h0, fun hne => ?_⟩
  obtain ⟨g, off, h5, h6⟩ := h4 hne
  exact ⟨g, off, h5, fun i c u j hc hu => hb.cell (h6 i c u j hc hu)⟩
theorem RowP.cel {α : Type} {P Q : List Value → α → Prop} {w w1 : World} {size : Nat} {v : Value} {xs : List α} (h : RowP P w size v xs) (hb : Cel w w1) (hp : ∀ r x, x ∈ xs → P r x → Q r x) : RowP Q w1 size v xs := by
  obtain ⟨rows, h1, h2, h3⟩ := h
  refine ⟨rows, h1.cel hb, h2, fun i x hx => ?_⟩
  obtain ⟨r, g1, g2⟩ := h3 i x hx
  exact ⟨r, g1, hp r x (List.mem_of_getElem? hx) g2⟩
theorem MsIn.cel {w w1 : World} {v : Value} {ms : List MsS} (h : MsIn w v ms) (hb : Cel w w1) : MsIn w1 v ms := by
  obtain ⟨rows, h1, h2, h3⟩ := h
  refine ⟨rows, h1.cel hb, h2, fun i m hm => ?_⟩
  obtain ⟨vf, vr, g1, g2, g3⟩ := h3 i m hm
  exact ⟨vf, vr, g1, g2.cel hb, g3.cel hb⟩
theorem EnIn.cel {w w1 : World} {v : Value} {es : List EnS} (h : EnIn w v es) (hb : Cel w w1) : EnIn w1 v es := by
  obtain ⟨rows, h1, h2, h3⟩ := h
  refine ⟨rows, h1.cel hb, h2, fun i m hm => ?_⟩
  obtain ⟨vv, g1, g2⟩ := h3 i m hm
  exact ⟨vv, g1, g2.cel hb⟩
theorem ScIn.cel {w w1 : World} {v : Value} {s : ScS} (h : ScIn w v s) (hb : Cel w w1) : ScIn w1 v s := by
  obtain ⟨vm, ve, vt, h1, h2, h3, h4⟩ := h
  exact ⟨vm, ve, vt, h1, h2.cel hb, h3.cel hb, h4.cel hb⟩
theorem PlnV.cel {w w1 : World} {v : Value} (h : PlnV w v) (hb : Cel w w1) : PlnV w1 v := fun g off n cap e hn => by
  obtain ⟨cs, ty, h1⟩ := h g off n cap e hn
  exact ⟨cs, ty, hb _ _ _ _ h1⟩
theorem Blk.cel {w w' : World} {b : Nat} {cs : Array Value} {t : TypeId} (h : Blk w b cs t) (hb : Cel w w') : Blk w' b cs t := hb _ _ _ _ h
/-- A tree's cells, its lists in plain blocks. -/
def TrR : Nat → World → List Value → Tr → Prop
  | 0, _, _, _ => False
  | n + 1, w, r, t => ∃ ve vr, r = [.int .i64 t.kind, .int .i64 t.n, .string t.s, ve, vr] ∧ Is64 t.kind ∧ Is64 t.n ∧ t.s.size ≤ 140737488351232 ∧ Fd64 t.rest ∧ RowG w vr 4 (fdRows t.rest) ∧ RowP (EnC (TrR n w) w) w 2 ve t.es ∧ PlnV w ve ∧ PlnV w vr
abbrev TrsR (n : Nat) (w : World) (v : Value) (ts : List Tr) : Prop := RowP (TrR n w) w 5 v ts
abbrev EnsR (n : Nat) (w : World) (v : Value) (es : List (Int × List Tr)) : Prop := RowP (EnC (TrR n w) w) w 2 v es
theorem TrR.cel : ∀ {n : Nat} {w w1 : World} {r : List Value} {t : Tr}, TrR n w r t → Cel w w1 → TrR n w1 r t
  | 0, _, _, _, _, h, _ => h
  | n + 1, w, w1, r, t, h, hb => by
    obtain ⟨ve, vr, h1, h2, h3, h4, h5, h6, h7, h8, h9⟩ := h
    refine ⟨ve, vr, h1, h2, h3, h4, h5, h6.cel hb, h7.cel hb fun r x hx hp => ?_, h8.cel hb, h9.cel hb⟩
    obtain ⟨vt, g1, g2, g3⟩ := hp
    exact ⟨vt, g1, g2, RowP.cel g3 hb fun r x hx hp => hp.cel hb⟩
theorem RowP.celT {n : Nat} {w w1 : World} {v : Value} {ts : List Tr} (h : TrsR n w v ts) (hb : Cel w w1) : TrsR n w1 v ts := RowP.cel h hb fun _ _ _ hp => hp.cel hb
theorem RowP.celE {n : Nat} {w w1 : World} {v : Value} {es : List (Int × List Tr)} (h : EnsR n w v es) (hb : Cel w w1) : EnsR n w1 v es :=
  RowP.cel h hb fun _ _ _ hp => by
    obtain ⟨vt, g1, g2, g3⟩ := hp
    exact ⟨vt, g1, g2, g3.celT hb⟩
theorem TrR.trQ : ∀ {n : Nat} {w : World} {r : List Value} {t : Tr}, TrR n w r t → TrQ n w r t
  | 0, _, _, _, h => h
  | n + 1, w, r, t, h => by
    obtain ⟨ve, vr, h1, h2, h3, h4, h5, h6, h7, h8, h9⟩ := h
    refine ⟨ve, vr, h1, h2, h3, h4, h5, h6, h7.imp fun r x hx hp => ?_, h8⟩
    obtain ⟨vt, g1, g2, g3⟩ := hp
    exact ⟨vt, g1, g2, g3.imp fun r x hx hp => hp.trQ⟩
theorem TrO.trR : ∀ {n B : Nat} {w : World} {r : List Value} {t : Tr} {bs : List Nat}, TrO n B w r t bs → TrR n w r t
  | 0, _, _, _, _, _, h => h
  | n + 1, B, w, r, t, bs, h => by
    obtain ⟨ve, vr, rows, bss, h1, h2, h3, h4, h5, h6, h7, rfl⟩ := h
    refine ⟨ve, vr, h1, h2, h3, h4, h5, own_rest h6, h7.rowP (by decide) (fun r x b hx hp => ?_), own_pln h7.own, own_pln h6⟩
    obtain ⟨vt, rows', bss', g1, g2, g3, rfl⟩ := hp
    exact ⟨vt, g1, g2, g3.rowP (by decide) fun r x b hx hp => hp.trR⟩
theorem RowP.all {α : Type} {P : List Value → α → Prop} {w : World} {size : Nat} {v : Value} {xs : List α} (h : RowP P w size v xs) : ∀ x ∈ xs, ∃ r, P r x := fun x hx => by
  obtain ⟨rows, h1, h2, h3⟩ := h
  obtain ⟨i, hi, e⟩ := List.getElem_of_mem hx
  obtain ⟨r, _, g2⟩ := h3 i x (by rw [List.getElem?_eq_getElem hi, e])
  exact ⟨r, g2⟩
theorem TrR.dp : ∀ {n : Nat} {w : World} {r : List Value} {t : Tr}, TrR n w r t → DpN n t
  | 0, _, _, _, h => h
  | n + 1, w, r, t, h => by
    obtain ⟨ve, vr, h1, h2, h3, h4, h5, h6, h7, h8, h9⟩ := h
    intro e he x hx
    obtain ⟨r', vt, _, _, g3⟩ := h7.all e he
    obtain ⟨r'', hp⟩ := RowP.all g3 x hx
    exact hp.dp
/-- A tree's value. -/
def TrW (n : Nat) (w : World) (v : Value) (t : Tr) : Prop := ∃ r, v = .agg r.toArray ∧ TrR n w r t
theorem TrW.cel {n : Nat} {w w1 : World} {v : Value} {t : Tr} (h : TrW n w v t) (hb : Cel w w1) : TrW n w1 v t := by
  obtain ⟨r, h1, h2⟩ := h
  exact ⟨r, h1, h2.cel hb⟩
theorem TrV.trW {n B : Nat} {w : World} {v : Value} {t : Tr} {bs : List Nat} (h : TrV n B w v t bs) : TrW n w v t := by
  obtain ⟨r, h1, h2, _⟩ := h
  exact ⟨r, h1, h2.trR⟩
/-- A tree, opened. -/
theorem TrW.open {n : Nat} {w : World} {v : Value} {t : Tr} (h : TrW n w v t) : ∃ m a1 c1 a2 c2, n = m + 1 ∧ v = .agg #[.int .i64 t.kind, .int .i64 t.n, .string t.s, .slice a1 t.es.length c1, .slice a2 t.rest.length c2] ∧ Is64 t.kind ∧ Is64 t.n ∧ t.s.size ≤ 140737488351232 ∧ t.es.length ≤ c1 ∧ c1 ≤ maxLen ∧ t.rest.length ≤ c2 ∧ c2 ≤ maxLen ∧
    (t.es.length = 0 ∨ ∃ g off, a1 = some ⟨g, off, none⟩) ∧ (t.rest.length = 0 ∨ ∃ g off, a2 = some ⟨g, off, none⟩) ∧ RowG w (.slice a2 t.rest.length c2) 4 (fdRows t.rest) ∧ EnsR m w (.slice a1 t.es.length c1) t.es ∧ PlnV w (.slice a1 t.es.length c1) ∧ PlnV w (.slice a2 t.rest.length c2) := by
  obtain ⟨r, rfl, h⟩ := h
  cases n with
  | zero => exact h.elim
  | succ m =>
    obtain ⟨ve, vr, rfl, h2, h3, h4, h5, h6, h7, h8, h9⟩ := h
    obtain ⟨a1, c1, rfl, u1, u2, u3, -⟩ := RowP.open h7
    obtain ⟨a2, c2, rfl, x1, x2, x3, -⟩ := rest_holds h6
    exact ⟨m, a1, c1, a2, c2, rfl, rfl, h2, h3, h4, u1, u2, x1, x2, u3.imp (fun h => by rw [h]; rfl) id, x3.imp (fun h => by rw [h]; rfl) id, h6, h7, h8, h9⟩
/-- A row of trees: an element. -/
theorem trsR_get {n : Nat} {w : World} {a : Option Addr} {N cap : Nat} {ts : List Tr} (h : TrsR n w (.slice a N cap) ts) {i : Nat} {t : Tr} (hi : ts[i]? = some t) :
    ∃ g off a1 n1 c1 a2 n2 c2, a = some ⟨g, off, none⟩ ∧ w.cell? ⟨g, off + i * 5, none⟩ = some (.int .i64 t.kind) ∧ w.cell? ⟨g, off + i * 5 + 1, none⟩ = some (.int .i64 t.n) ∧ w.cell? ⟨g, off + i * 5 + 2, none⟩ = some (.string t.s) ∧ w.cell? ⟨g, off + i * 5 + 3, none⟩ = some (.slice a1 n1 c1) ∧ w.cell? ⟨g, off + i * 5 + 4, none⟩ = some (.slice a2 n2 c2) ∧
      TrW n w (.agg #[.int .i64 t.kind, .int .i64 t.n, .string t.s, .slice a1 n1 c1, .slice a2 n2 c2]) t := by
  obtain ⟨g, off, ha, r, hr, hc⟩ := RowP.get h hi
  obtain ⟨m, a1, c1, a2, c2, rfl, e, _⟩ := TrW.open ⟨r, rfl, hr⟩
  have e1 : r = [.int .i64 t.kind, .int .i64 t.n, .string t.s, .slice a1 t.es.length c1, .slice a2 t.rest.length c2] := by simpa using e
  subst e1
  exact ⟨g, off, a1, _, c1, a2, _, c2, ha, hc 0 _ rfl, hc 1 _ rfl, hc 2 _ rfl, hc 3 _ rfl, hc 4 _ rfl, _, rfl, hr⟩
/-- A row of entries: an element. -/
theorem ensR_get {n : Nat} {w : World} {a : Option Addr} {N cap : Nat} {es : List (Int × List Tr)} (h : EnsR n w (.slice a N cap) es) {i : Nat} {e : Int × List Tr} (hi : es[i]? = some e) :
    ∃ g off a1 c1, a = some ⟨g, off, none⟩ ∧ w.cell? ⟨g, off + i * 2, none⟩ = some (.int .i64 e.1) ∧ w.cell? ⟨g, off + i * 2 + 1, none⟩ = some (.slice a1 e.2.length c1) ∧ Is64 e.1 ∧ TrsR n w (.slice a1 e.2.length c1) e.2 ∧ e.2.length ≤ c1 ∧ c1 ≤ maxLen := by
  obtain ⟨g, off, ha, r, ⟨vt, rfl, h2, h3⟩, hc⟩ := RowP.get h hi
  obtain ⟨a1, c1, rfl, u1, u2, -⟩ := RowP.open h3
  exact ⟨g, off, a1, c1, ha, hc 0 _ rfl, hc 1 _ rfl, h2, h3, u1, u2⟩
/-- A tree's parts by its value. -/
theorem TrW.parts {n : Nat} {w : World} {t : Tr} {K N : Int} {S : ByteArray} {a1 a2 : Option Addr} {n1 c1 n2 c2 : Nat} (h : TrW n w (.agg #[.int .i64 K, .int .i64 N, .string S, .slice a1 n1 c1, .slice a2 n2 c2]) t) : t.kind = K ∧ t.n = N ∧ t.s = S ∧ t.es.length = n1 ∧ t.rest.length = n2 := by
  obtain ⟨m, a1', c1', a2', c2', -, e, -⟩ := h.open
  simp only [Value.agg.injEq, Array.mk.injEq, List.cons.injEq, Value.int.injEq, Value.string.injEq, Value.slice.injEq, and_true, true_and] at e
  obtain ⟨e1, e2, e3, ⟨-, e4, -⟩, -, e5, -⟩ := e
  exact ⟨e1.symm, e2.symm, e3.symm, e4.symm, e5.symm⟩
end Go.Proofs.Ytiiegphbhfiffaa
/- Claims as a map's keys: a name, and by what a tree is known again. -/
namespace Go.Proofs.Ytiiegphbhfiffaa
open Go.ChangeShapes Go.WideShapes Go.ChangeAt Go.RowKit
set_option linter.unusedVariables false
set_option linter.unusedSimpArgs false
set_option maxRecDepth 20000

/-- By what a tree is known again. -/
structure Idn where
  kind : Int
  n : Int
  s : ByteArray
  e : Pl
  r : Pl
def idC (x : Idn) : List Value := [.int .i64 x.kind, .int .i64 x.n, .string x.s, .pointer x.e.1, .int .i64 (x.e.2 : Int), .pointer x.r.1, .int .i64 (x.r.2 : Int)]
def clV (nm : ByteArray) (x : Idn) : Value := .agg (.string nm :: idC x).toArray
def IdOk (w : World) (x : Idn) : Prop := PlOk w x.e ∧ PlOk w x.r
theorem eql_ptrR (w : World) (d : Nat) (p q : Option Addr) (hp : ∀ a, p = some a → ∃ cs ty, w.heap[a.block]? = some (.cells cs ty (0, 0))) (hq : ∀ a, q = some a → ∃ cs ty, w.heap[a.block]? = some (.cells cs ty (0, 0))) :
    (Op.equalIn (d + 1) 87 (.pointer p) (.pointer q)).run Try.prog w = .ok (decide (p = q)) w := by
  have hu : Try.prog.underlying 87 = some (.pointer 70) := by kernel_rfl
  have hi : (Try.prog.info? 70).map (fun i => i.size) = some 4 := by kernel_rfl
  obtain ⟨j, hj, hs⟩ : ∃ j, Try.prog.info? 70 = some j ∧ j.size = 4 := by
    cases h : Try.prog.info? 70 with
    | none => rw [h] at hi; cases hi
    | some j => rw [h] at hi; exact ⟨j, rfl, by simpa using hi⟩
  cases p with
  | none => cases q <;> simp [Op.equalIn, run_underlying hu]
  | some a =>
    cases q with
    | none => simp [Op.equalIn, run_underlying hu]
    | some b =>
      by_cases e : a = b
      · subst e
        simp [Op.equalIn, run_underlying hu, sizeOf, typeInfo, hj, hs, run_sameAddr_same]
      · obtain ⟨ca, ta, ha⟩ := hp a rfl
        obtain ⟨cb, tb, hb⟩ := hq b rfl
        simp [Op.equalIn, run_underlying hu, sizeOf, typeInfo, hj, hs, run_sameAddr_other w e ha hb, e]
theorem clV_inj {nm nm' : ByteArray} {x y : Idn} : clV nm x = clV nm' y ↔ nm = nm' ∧ x = y := by
  obtain ⟨k, n, s, ⟨p1, c1⟩, ⟨p2, c2⟩⟩ := x
  obtain ⟨k', n', s', ⟨p1', c1'⟩, ⟨p2', c2'⟩⟩ := y
  simp [clV, idC]
  intro _ _ _ _
  constructor
  · rintro ⟨h4, h5, h6, h7⟩; exact ⟨⟨h4, by omega⟩, h6, by omega⟩
  · rintro ⟨⟨h4, h5⟩, h6, h7⟩; exact ⟨h4, by omega, h6, by omega⟩
theorem toList_ne {a b : ByteArray} (h : ¬ a = b) : ¬ a.toList = b.toList := fun e => h (by
  rw [ByteArray.toList_eq, ByteArray.toList_eq] at e
  obtain ⟨⟨l⟩⟩ := a
  obtain ⟨⟨m⟩⟩ := b
  simp only at e
  subst e
  rfl)
set_option maxHeartbeats 2000000 in
theorem eql_cl (w : World) (nm nm' : ByteArray) (x y : Idn) (hx : IdOk w x) (hy : IdOk w y) : (Op.equal 111 (clV nm x) (clV nm' y)).run Try.prog w = .ok (decide (nm = nm' ∧ x.kind = y.kind ∧ x.n = y.n ∧ x.s = y.s ∧ x.e = y.e ∧ x.r = y.r)) w := by
  obtain ⟨k, n, s, ⟨p1, c1⟩, ⟨p2, c2⟩⟩ := x
  obtain ⟨k', n', s', ⟨p1', c1'⟩, ⟨p2', c2'⟩⟩ := y
  have h1 := fun d => eql_ptr w d p1 p1' hx.1 hy.1
  have h2 := fun d => eql_ptrR w d p2 p2' hx.2 hy.2
  by_cases e1 : nm = nm'
  · by_cases e2 : k = k'
    · by_cases e3 : n = n'
      · by_cases e4 : s = s'
        · by_cases e5 : p1 = p1'
          · by_cases e6 : c1 = c1'
            · by_cases e7 : p2 = p2'
              · by_cases e8 : c2 = c2'
                · subst e1 e2 e3 e4 e5 e6 e7 e8
                  simp [clV, idC, Op.equal, Op.maxDepth, go_sem, h1, h2]
                · have e9 : ¬ (c2 : Int) = (c2' : Int) := by omega
                  subst e1 e2 e3 e4 e5 e6 e7
                  simp [clV, idC, Op.equal, Op.maxDepth, go_sem, h1, h2, e8, e9]
              · subst e1 e2 e3 e4 e5 e6
                simp [clV, idC, Op.equal, Op.maxDepth, go_sem, h1, h2, e7]
            · have e9 : ¬ (c1 : Int) = (c1' : Int) := by omega
              subst e1 e2 e3 e4 e5
              simp [clV, idC, Op.equal, Op.maxDepth, go_sem, h1, h2, e6, e9]
          · subst e1 e2 e3 e4
            simp [clV, idC, Op.equal, Op.maxDepth, go_sem, h1, h2, e5]
        · have e9 := toList_ne e4
          subst e1 e2 e3
          simp [clV, idC, Op.equal, Op.maxDepth, go_sem, h1, h2, e4, e9]
      · subst e1 e2
        simp [clV, idC, Op.equal, Op.maxDepth, go_sem, h1, h2, e3]
    · subst e1
      simp [clV, idC, Op.equal, Op.maxDepth, go_sem, h1, h2, e2]
  · have e9 := toList_ne e1
    simp [clV, idC, Op.equal, Op.maxDepth, go_sem, h1, h2, e1, e9]
theorem check_cl (w : World) (b : Bool) (nm : ByteArray) (x : Idn) : (Instr.checkKey b 10000 111 (clV nm x)).run Try.prog w = .ok () w := by kernel_rfl
theorem same_cl (n : Nat) (nm : ByteArray) (x : Idn) : Instr.sameBits (n + 1) (clV nm x) (clV nm x) = true := by
  simp [clV, idC, Instr.sameBits]
  have hb : ∀ s : ByteArray, (s == s) = true := fun ⟨d⟩ => by show (d == d) = true; simp
  exact ⟨hb _, hb _⟩
theorem uClaim : Try.prog.underlying 74 = some (.map 111 112) := by kernel_rfl
theorem zeroEl (w : World) : (zeroValue 112).run Try.prog w = .ok (.agg #[]) w := by kernel_rfl
theorem told_cl {w : World} {nm : ByteArray} {x : Idn} {L : List (ByteArray × Idn)} (hx : IdOk w x) (hL : ∀ y ∈ L, IdOk w y.2) : Told 111 w (clV nm x) (L.map fun y => clV y.1 y.2) := by
  intro q hq
  obtain ⟨y, hy, rfl⟩ := List.mem_map.1 hq
  have h := eql_cl w nm y.1 x y.2 hx (hL y hy)
  constructor
  · intro e
    obtain ⟨e1, e2⟩ := clV_inj.1 e
    rw [h, decide_eq_true ⟨e1, by rw [e2], by rw [e2], by rw [e2], by rw [e2], by rw [e2]⟩]
  · intro e
    rw [h, decide_eq_false]
    rintro ⟨e1, e2, e3, e4, e5, e6⟩
    refine e (clV_inj.2 ⟨e1, ?_⟩)
    obtain ⟨nm', y⟩ := y
    cases x; cases y; simp_all
theorem mem_clV {nm : ByteArray} {x : Idn} {L : List (ByteArray × Idn)} : clV nm x ∈ (L.map fun y => clV y.1 y.2) ↔ (nm, x) ∈ L := by
  constructor
  · intro h
    obtain ⟨⟨nm', y⟩, hy, e⟩ := List.mem_map.1 h
    obtain ⟨rfl, rfl⟩ := clV_inj.1 e
    exact hy
  · intro h
    exact List.mem_map.2 ⟨(nm, x), h, rfl⟩
/-- A key that is there: where. -/
theorem find_askI {T : TypeId} {w : World} {k : Value} : ∀ (l : List MapEntry) (i : Nat), Told T w k (l.map MapEntry.key) → (∀ e ∈ l, e.val = .agg #[]) → k ∈ l.map MapEntry.key →
    ∃ j e, (Instr.findAsking T k l i).run Try.prog w = .ok (some (i + j, .agg #[])) w ∧ l[j]? = some e ∧ e.key = k
  | [], i, _, _, h => by cases h
  | e :: l, i, ht, hv, hm => by
    obtain ⟨h1, h2⟩ := ht e.key (List.mem_cons_self ..)
    have h3 := hv e (List.mem_cons_self ..)
    by_cases hke : k = e.key
    · refine ⟨0, e, ?_, rfl, hke.symm⟩
      unfold Instr.findAsking
      rw [Sem.run_bind, h1 hke]
      simp [Result.andThen, h3]
    · have hrun : (Instr.findAsking T k (e :: l) i).run Try.prog w = (Instr.findAsking T k l (i + 1)).run Try.prog w := by
        conv => lhs; unfold Instr.findAsking
        rw [Sem.run_bind, h2 hke]
        simp [Result.andThen]
      rcases List.mem_cons.1 hm with h | h
      · exact absurd h hke
      · obtain ⟨j, e', g1, g2, g3⟩ := find_askI l (i + 1) (fun q hq => ht q (List.mem_cons_of_mem _ hq)) (fun x hx => hv x (List.mem_cons_of_mem _ hx)) h
        exact ⟨j + 1, e', by rw [hrun, g1]; congr 3; omega, by simpa using g2, g3⟩
/-- A key that is there is put once more. -/
theorem again_pl {T MT E : TypeId} {w : World} {k : Value} {L : List Value} {b : Nat} (hm : Try.prog.underlying MT = some (.map T E)) {fs : TypeDesc} (hu : Try.prog.underlying T = some fs) (hf : ∀ k q, Instr.sameNow fs (.agg k) q = none) {ks : Array Value} (hk : k = .agg ks) (hsb : Instr.sameBits 10000 k k = true)
    (hc : ∀ e, (Instr.checkKey e 10000 T k).run Try.prog w = .ok () w) (hs : PlSet w b L) (ht : Told T w k L) (hn : k ∈ L) :
    ∃ w', (Instr.mapUpdate MT (.map (some b)) k (.agg #[])).run Try.prog w = .ok () w' ∧ PlSet w' b L ∧ Kp (fun q => q = b) w w' := by
  have hs0 := hs
  obtain ⟨es, c, h1, rfl, h3⟩ := hs
  obtain ⟨j, e, g1, g2, g3⟩ := find_askI es.toList 0 ht h3 hn
  have hne : ∃ a l, es.toList = a :: l := by
    cases h : es.toList with
    | nil => rw [h] at hn; cases hn
    | cons a l => exact ⟨a, l, rfl⟩
  obtain ⟨a, l, hal⟩ := hne
  have hj : (Instr.findKey T k es.toList).run Try.prog w = .ok (some (j, .agg #[])) w := by
    rw [hal] at g1 ⊢
    have h1 : Instr.findNow fs k (a :: l) 0 = none := by rw [hk]; simp [Instr.findNow, hf]
    rw [Nat.zero_add] at g1
    rw [← g1]
    simp [Instr.findKey, run_underlying hu, h1]
  have hgo : (getObj b).run Try.prog w = .ok (.map es c) w := by simp [getObj, Sem.run, h1]
  have hse : ∀ o, (setObj b o).run Try.prog w = .ok () { w with heap := w.heap.setIfInBounds b o } := fun o => by simp [setObj, Sem.run, h1]
  have hej : es[j]? = some e := by simpa using g2
  have hkt : (Instr.keyThatStays (((es[j]?).map (·.key)).getD k) k).run Try.prog w = .ok k w := by
    rw [hej]
    simp [Instr.keyThatStays, g3, hsb]
  have hmod : (es.modify j fun e => { e with key := k, val := .agg #[] }) = es := by
    have hv := h3 e (List.mem_of_getElem? g2)
    refine Array.ext_getElem? fun i => ?_
    rw [Array.getElem?_modify]
    by_cases hij : j = i
    · subst hij
      rw [if_pos rfl, hej]
      simp [← g3, ← hv]
    · rw [if_neg hij]
  refine ⟨{ w with heap := w.heap.setIfInBounds b (.map es c) }, ?_, ?_, ?_⟩
  · simp [Instr.mapUpdate, run_underlying hm, hgo, hc, hj, hkt, hse, hmod]
  · refine ⟨es, c, ?_, rfl, h3⟩
    have := (Array.getElem?_eq_some_iff.1 h1).1
    simp [this]
  · refine ⟨rfl, rfl, rfl, by simp, fun q hq hs => ?_⟩
    simp only
    rw [Array.getElem?_setIfInBounds_ne (Ne.symm hs)]
/-- By what a tree's cells are known again. -/
def idOf (t : Tr) (ve vr : Value) : Idn := ⟨t.kind, t.n, t.s, plOf ve, plOf vr⟩
theorem plOf_ok4 {w : World} {v : Value} {l : List Fd} (h : PlnV w v) (hr : RowG w v 4 (fdRows l)) : PlOk w (plOf v) := by
  obtain ⟨a, cap, rfl, _, _, h4, _⟩ := rest_holds hr
  intro b hb
  unfold plOf at hb
  simp only at hb
  split at hb
  · cases hb
  · rename_i hne
    simp only at hb
    subst hb
    rcases h4 with rfl | ⟨g, off, e⟩
    · exact absurd rfl hne
    · simp at e
      subst e
      exact h g off _ cap rfl hne
theorem pl_uniq4 {w : World} {v v' : Value} {l l' : List Fd} (h : RowG w v 4 (fdRows l)) (k : RowG w v' 4 (fdRows l')) (e : plOf v = plOf v') : l = l' := by
  obtain ⟨a, cap, rfl, _, _, h4, _⟩ := rest_holds h
  obtain ⟨a', cap', rfl, _, _, h4', _⟩ := rest_holds k
  unfold plOf at e
  simp only at e
  by_cases hn : l.length = 0
  · rw [if_pos hn] at e
    by_cases hn' : l'.length = 0
    · rw [List.eq_nil_of_length_eq_zero hn, List.eq_nil_of_length_eq_zero hn']
    · rw [if_neg hn'] at e
      simp at e
      exact absurd (e.2.symm ▸ rfl) hn'
  · rw [if_neg hn] at e
    by_cases hn' : l'.length = 0
    · rw [if_pos hn'] at e
      simp at e
      exact absurd e.2 (by intro h0; rw [h0] at hn; exact hn rfl)
    · rw [if_neg hn'] at e
      simp only [Prod.mk.injEq] at e
      obtain ⟨rfl, e2⟩ := e
      rw [← e2] at k
      exact fd_uniq h k
/-- A tree with its identity. -/
def TrI (n : Nat) (w : World) (x : Idn) (t : Tr) : Prop := ∃ ve vr, x = idOf t ve vr ∧ TrR n w [.int .i64 t.kind, .int .i64 t.n, .string t.s, ve, vr] t
theorem TrI.cel {n : Nat} {w w1 : World} {x : Idn} {t : Tr} (h : TrI n w x t) (hb : Cel w w1) : TrI n w1 x t := by
  obtain ⟨ve, vr, h1, h2⟩ := h
  exact ⟨ve, vr, h1, h2.cel hb⟩
theorem EnC.trQ {n : Nat} {w : World} {v : Value} {es : List (Int × List Tr)} (h : EnsR n w v es) : EnsQ n w v es := RowP.imp h fun r x hx hp => by
  obtain ⟨vt, g1, g2, g3⟩ := hp
  exact ⟨vt, g1, g2, g3.imp fun r x hx hp => hp.trQ⟩
theorem TrI.ok {n : Nat} {w : World} {x : Idn} {t : Tr} (h : TrI n w x t) : IdOk w x := by
  obtain ⟨ve, vr, rfl, h⟩ := h
  cases n with
  | zero => exact h.elim
  | succ n =>
    obtain ⟨ve', vr', e, h2, h3, h4, h5, h6, h7, h8, h9⟩ := h
    simp only [List.cons.injEq, and_true] at e
    obtain ⟨-, -, -, rfl, rfl⟩ := e
    exact ⟨plOf_ok h8 h7, plOf_ok4 h9 h6⟩
/-- One identity, one tree. -/
theorem TrI.uniq {n m : Nat} {w : World} {x : Idn} {t u : Tr} (h : TrI n w x t) (k : TrI m w x u) : t = u := by
  obtain ⟨ve, vr, e, h⟩ := h
  obtain ⟨ve', vr', e', k⟩ := k
  cases n with
  | zero => exact h.elim
  | succ n =>
    cases m with
    | zero => exact k.elim
    | succ m =>
      obtain ⟨q1, q2, e1, _, _, _, _, h6, h7, _, _⟩ := h
      obtain ⟨q1', q2', e1', _, _, _, _, k6, k7, _, _⟩ := k
      simp only [List.cons.injEq, and_true] at e1 e1'
      obtain ⟨-, -, -, rfl, rfl⟩ := e1
      obtain ⟨-, -, -, rfl, rfl⟩ := e1'
      rw [e] at e'
      simp only [idOf, Idn.mk.injEq] at e'
      obtain ⟨i1, i2, i3, i4, i5⟩ := e'
      have hes : t.es = u.es := pl_uniq (EnC.trQ h7) (EnC.trQ k7) i4
      have hrs : t.rest = u.rest := pl_uniq4 h6 k6 i5
      cases t; cases u; simp_all
/-- What is known, in block b: claims that hold. -/
def KnS (s : ScS) (w : World) (b : Nat) : Prop := ∃ L : List (ByteArray × Idn), PlSet w b (L.map fun y => clV y.1 y.2) ∧ ∀ y ∈ L, ∃ n t, TrI n w y.2 t ∧ msgV n s y.1 t = 0
theorem KnS.lt {s : ScS} {w : World} {b : Nat} (h : KnS s w b) : b < w.heap.size := by
  obtain ⟨L, h1, _⟩ := h
  exact h1.lt
theorem KnS.below {s : ScS} {w w1 : World} {b : Nat} (h : KnS s w b) (hb : Below w.heap.size w w1) : KnS s w1 b := by
  obtain ⟨L, h1, h2⟩ := h
  refine ⟨L, h1.below hb, fun y hy => ?_⟩
  obtain ⟨n, t, g1, g2⟩ := h2 y hy
  exact ⟨n, t, g1.cel (Cel.ofBelow hb), g2⟩
theorem KnS.neB {s : ScS} {w : World} {b : Nat} (h : KnS s w b) {g : Nat} {cs : Array Value} {t : TypeId} {fz : Nat × Nat} (hc : w.heap[g]? = some (.cells cs t fz)) : g ≠ b := by
  obtain ⟨L, h1, _⟩ := h
  exact h1.neB hc
theorem KnS.cel {s : ScS} {w w' : World} {b : Nat} (h : KnS s w b) (hk : Kp (fun q => q = b) w w') : Cel w w' := Cel.ofKp hk fun k cs t fz e => h.neB e
theorem KnS.made (s : ScS) (w : World) : KnS s (w.alloc (.map #[] 0)) w.heap.size := ⟨[], PlSet.made w, by simp⟩
/-- A look at what is known. -/
theorem KnS.look {s : ScS} {w : World} {b n : Nat} (h : KnS s w b) {nm : ByteArray} {x : Idn} {t : Tr} (hx : TrI n w x t) :
    ∃ R : Bool, (Instr.lookup 74 (.map (some b)) (clV nm x) true).run Try.prog w = .ok (.tuple #[.agg #[], .bool R]) w ∧ (R = true → msgV n s nm t = 0) := by
  obtain ⟨L, h1, h2⟩ := h
  have hT : Told 111 w (clV nm x) (L.map fun y => clV y.1 y.2) := told_cl hx.ok fun y hy => by
    obtain ⟨n, t, g1, g2⟩ := h2 y hy
    exact g1.ok
  by_cases hm : (nm, x) ∈ L
  · refine ⟨true, look_pl uClaim zeroEl Try.underlying111 (fun _ _ => rfl) rfl (fun e => check_cl _ e nm x) h1 hT true ⟨fun _ => mem_clV.2 hm, fun _ => rfl⟩, fun _ => ?_⟩
    obtain ⟨m, u, g1, g2⟩ := h2 _ hm
    obtain rfl := hx.uniq g1
    obtain ⟨ve, vr, _, q⟩ := hx
    obtain ⟨ve', vr', _, q'⟩ := g1
    rw [msgV_more n m s nm t q.dp q'.dp]
    exact g2
  · exact ⟨false, look_pl uClaim zeroEl Try.underlying111 (fun _ _ => rfl) rfl (fun e => check_cl _ e nm x) h1 hT false ⟨(fun h => by cases h), fun h => absurd (mem_clV.1 h) hm⟩, fun h => by cases h⟩
/-- One claim more. -/
theorem KnS.update {s : ScS} {w : World} {b n : Nat} (h : KnS s w b) {nm : ByteArray} {x : Idn} {t : Tr} (hx : TrI n w x t) (hv : msgV n s nm t = 0) :
    ∃ w', (Instr.mapUpdate 74 (.map (some b)) (clV nm x) (.agg #[])).run Try.prog w = .ok () w' ∧ KnS s w' b ∧ Kp (fun q => q = b) w w' := by
  have hK := h
  obtain ⟨L, h1, h2⟩ := h
  have hT : Told 111 w (clV nm x) (L.map fun y => clV y.1 y.2) := told_cl hx.ok fun y hy => by
    obtain ⟨n, t, g1, g2⟩ := h2 y hy
    exact g1.ok
  have hsb : Instr.sameBits 10000 (clV nm x) (clV nm x) = true := same_cl 9999 nm x
  by_cases hm : (nm, x) ∈ L
  · obtain ⟨w', e1, e2, e3⟩ := again_pl (k := clV nm x) uClaim Try.underlying111 (fun _ _ => rfl) (ks := (.string nm :: idC x).toArray) rfl hsb (fun e => check_cl w e nm x) h1 hT (mem_clV.2 hm)
    refine ⟨w', e1, ⟨L, e2, fun y hy => ?_⟩, e3⟩
    obtain ⟨n, t, g1, g2⟩ := h2 y hy
    exact ⟨n, t, g1.cel (hK.cel e3), g2⟩
  · obtain ⟨w', e1, e2, e3, _⟩ := update_pl (k := clV nm x) uClaim Try.underlying111 (fun _ _ => rfl) (ks := (.string nm :: idC x).toArray) rfl (fun e => check_cl w e nm x) h1 hT (fun h => hm (mem_clV.1 h))
    refine ⟨w', e1, ⟨L ++ [(nm, x)], by simpa using e2, fun y hy => ?_⟩, e3⟩
    rcases List.mem_append.1 hy with hy | hy
    · obtain ⟨n, t, g1, g2⟩ := h2 y hy
      exact ⟨n, t, g1.cel (hK.cel e3), g2⟩
    · obtain rfl : y = (nm, x) := by simpa using hy
      exact ⟨n, t, hx.cel (hK.cel e3), hv⟩
end Go.Proofs.Ytiiegphbhfiffaa
/- What Number, kindOf, Zero, placeOf, identityOf, hasField answer. -/
namespace Go.Proofs.Ytiiegphbhfiffaa
open Go.ChangeShapes Go.WideShapes Go.ChangeAt Go.RowKit
set_option linter.unusedVariables false
set_option linter.unusedSimpArgs false
set_option maxRecDepth 20000

set_option maxHeartbeats 1000000 in
theorem kindOf_any (k : Int) (nm : ByteArray) (w : World) : Calls Try.prog 48 #[.agg #[.int .i64 k, .string nm]] w fun e w' => e = .returned (.int .i64 (kindT k)) ∧ Below w.heap.size w w' := by
  have hb : Below w.heap.size w (w.alloc (Obj.cells #[.int .i64 k, .string nm] 41)) := (Below.refl _ _).alloc (Nat.le_refl _) _
  have key : ∀ (a : Int), k = a → (a = 1 ∨ a = 2 ∨ a = 3 ∨ a = 4 ∨ a = 5 ∨ a = 6 ∨ a = 7) → Calls Try.prog 48 #[.agg #[.int .i64 k, .string nm]] w fun e w' => e = .returned (.int .i64 (kindT k)) ∧ Below w.heap.size w w' := by
    intro a ha hc
    subst ha
    rcases hc with rfl | rfl | rfl | rfl | rfl | rfl | rfl <;>
    · go_enter Try.func48, Try.ntmps48
      go_wp2_with fail
      go_ret
      exact ⟨rfl, hb⟩
  by_cases h1 : k = 1
  · exact key 1 h1 (by simp)
  by_cases h2 : k = 2
  · exact key 2 h2 (by simp)
  by_cases h3 : k = 3
  · exact key 3 h3 (by simp)
  by_cases h4 : k = 4
  · exact key 4 h4 (by simp)
  by_cases h5 : k = 5
  · exact key 5 h5 (by simp)
  by_cases h6 : k = 6
  · exact key 6 h6 (by simp)
  by_cases h7 : k = 7
  · exact key 7 h7 (by simp)
  have hk : kindT k = 0 := by simp [kindT, h1, h2, h3, h4, h5, h6, h7]
  rw [hk]
  have d1 : (k == 1) = false := by simpa using h1
  have d2 : (k == 2) = false := by simpa using h2
  have d3 : (k == 3) = false := by simpa using h3
  have d4 : (k == 4) = false := by simpa using h4
  have d5 : (k == 5) = false := by simpa using h5
  have d6 : (k == 6) = false := by simpa using h6
  have d7 : (k == 7) = false := by simpa using h7
  clear key h1 h2 h3 h4 h5 h6 h7 hk
  go_enter Try.func48, Try.ntmps48
  go_wp2_with fail
  go_ret
  exact ⟨rfl, hb⟩
set_option maxHeartbeats 4000000 in
theorem number_any (k n : Int) (nm : ByteArray) (w : World) : Calls Try.prog 14 #[.agg #[.int .i64 k, .string nm], .int .i64 n] w fun e w' => e = .returned (.bool (nmrB k n)) ∧ Below w.heap.size w w' := by
  have hb : Below w.heap.size w (w.alloc (Obj.cells #[.int .i64 k, .string nm] 41)) := (Below.refl _ _).alloc (Nat.le_refl _) _
  have rng : n < -2147483648 ∨ (-2147483648 ≤ n ∧ n < 0) ∨ (0 ≤ n ∧ n ≤ 1) ∨ (1 < n ∧ n ≤ 2147483647) ∨ 2147483647 < n := by omega
  have kk : k = 3 ∨ k = 6 ∨ k = 1 ∨ k = 2 ∨ (¬ k = 3 ∧ ¬ k = 6 ∧ ¬ k = 1 ∧ ¬ k = 2) := by omega
  rcases rng with g | g | g | g | g
  · have f1 : decide (1 < n) = false := by simp; omega
    have f2 : decide (n < 0) = true := by simp; omega
    have f3 : decide (n < -2147483648) = true := by simp; omega
    have f4 : decide (2147483647 < n) = false := by simp; omega
    rcases kk with rfl | rfl | rfl | rfl | ⟨h3, h6, h1, h2⟩
    · have hr : nmrB 3 n = false := by simp [nmrB]; omega
      rw [hr]
      clear hr g
      go_enter Try.func14, Try.ntmps14
      go_wp2_with fail
      go_ret
      exact ⟨rfl, hb⟩
    · have hr : nmrB 6 n = false := by simp [nmrB]; omega
      rw [hr]
      clear hr g
      go_enter Try.func14, Try.ntmps14
      go_wp2_with fail
      go_ret
      exact ⟨rfl, hb⟩
    · have hr : nmrB 1 n = false := by simp [nmrB]; omega
      rw [hr]
      clear hr g
      go_enter Try.func14, Try.ntmps14
      go_wp2_with fail
      go_ret
      exact ⟨rfl, hb⟩
    · have hr : nmrB 2 n = true := by simp [nmrB]
      rw [hr]
      clear hr g
      go_enter Try.func14, Try.ntmps14
      go_wp2_with fail
      go_ret
      exact ⟨rfl, hb⟩
    · have e1 : (k == 1) = false := by simpa using h1
      have e2 : (k == 2) = false := by simpa using h2
      have e3 : (k == 3) = false := by simpa using h3
      have e6 : (k == 6) = false := by simpa using h6
      have hr : nmrB k n = false := by simp [nmrB, h3, h6, h1, h2]
      rw [hr]
      clear h1 h2 h3 h6 hr g
      go_enter Try.func14, Try.ntmps14
      go_wp2_with fail
      go_ret
      exact ⟨rfl, hb⟩
  · have f1 : decide (1 < n) = false := by simp; omega
    have f2 : decide (n < 0) = true := by simp; omega
    have f3 : decide (n < -2147483648) = false := by simp; omega
    have f4 : decide (2147483647 < n) = false := by simp; omega
    rcases kk with rfl | rfl | rfl | rfl | ⟨h3, h6, h1, h2⟩
    · have hr : nmrB 3 n = false := by simp [nmrB]; omega
      rw [hr]
      clear hr g
      go_enter Try.func14, Try.ntmps14
      go_wp2_with fail
      go_ret
      exact ⟨rfl, hb⟩
    · have hr : nmrB 6 n = false := by simp [nmrB]; omega
      rw [hr]
      clear hr g
      go_enter Try.func14, Try.ntmps14
      go_wp2_with fail
      go_ret
      exact ⟨rfl, hb⟩
    · have hr : nmrB 1 n = true := by simp [nmrB]; omega
      rw [hr]
      clear hr g
      go_enter Try.func14, Try.ntmps14
      go_wp2_with fail
      go_ret
      exact ⟨rfl, hb⟩
    · have hr : nmrB 2 n = true := by simp [nmrB]
      rw [hr]
      clear hr g
      go_enter Try.func14, Try.ntmps14
      go_wp2_with fail
      go_ret
      exact ⟨rfl, hb⟩
    · have e1 : (k == 1) = false := by simpa using h1
      have e2 : (k == 2) = false := by simpa using h2
      have e3 : (k == 3) = false := by simpa using h3
      have e6 : (k == 6) = false := by simpa using h6
      have hr : nmrB k n = false := by simp [nmrB, h3, h6, h1, h2]
      rw [hr]
      clear h1 h2 h3 h6 hr g
      go_enter Try.func14, Try.ntmps14
      go_wp2_with fail
      go_ret
      exact ⟨rfl, hb⟩
  · have f1 : decide (1 < n) = false := by simp; omega
    have f2 : decide (n < 0) = false := by simp; omega
    have f3 : decide (n < -2147483648) = false := by simp; omega
    have f4 : decide (2147483647 < n) = false := by simp; omega
    rcases kk with rfl | rfl | rfl | rfl | ⟨h3, h6, h1, h2⟩
    · have hr : nmrB 3 n = true := by simp [nmrB]; omega
      rw [hr]
      clear hr g
      go_enter Try.func14, Try.ntmps14
      go_wp2_with fail
      go_ret
      exact ⟨rfl, hb⟩
    · have hr : nmrB 6 n = true := by simp [nmrB]; omega
      rw [hr]
      clear hr g
      go_enter Try.func14, Try.ntmps14
      go_wp2_with fail
      go_ret
      exact ⟨rfl, hb⟩
    · have hr : nmrB 1 n = true := by simp [nmrB]; omega
      rw [hr]
      clear hr g
      go_enter Try.func14, Try.ntmps14
      go_wp2_with fail
      go_ret
      exact ⟨rfl, hb⟩
    · have hr : nmrB 2 n = true := by simp [nmrB]
      rw [hr]
      clear hr g
      go_enter Try.func14, Try.ntmps14
      go_wp2_with fail
      go_ret
      exact ⟨rfl, hb⟩
    · have e1 : (k == 1) = false := by simpa using h1
      have e2 : (k == 2) = false := by simpa using h2
      have e3 : (k == 3) = false := by simpa using h3
      have e6 : (k == 6) = false := by simpa using h6
      have hr : nmrB k n = false := by simp [nmrB, h3, h6, h1, h2]
      rw [hr]
      clear h1 h2 h3 h6 hr g
      go_enter Try.func14, Try.ntmps14
      go_wp2_with fail
      go_ret
      exact ⟨rfl, hb⟩
  · have f1 : decide (1 < n) = true := by simp; omega
    have f2 : decide (n < 0) = false := by simp; omega
    have f3 : decide (n < -2147483648) = false := by simp; omega
    have f4 : decide (2147483647 < n) = false := by simp; omega
    rcases kk with rfl | rfl | rfl | rfl | ⟨h3, h6, h1, h2⟩
    · have hr : nmrB 3 n = false := by simp [nmrB]; omega
      rw [hr]
      clear hr g
      go_enter Try.func14, Try.ntmps14
      go_wp2_with fail
      go_ret
      exact ⟨rfl, hb⟩
    · have hr : nmrB 6 n = true := by simp [nmrB]; omega
      rw [hr]
      clear hr g
      go_enter Try.func14, Try.ntmps14
      go_wp2_with fail
      go_ret
      exact ⟨rfl, hb⟩
    · have hr : nmrB 1 n = true := by simp [nmrB]; omega
      rw [hr]
      clear hr g
      go_enter Try.func14, Try.ntmps14
      go_wp2_with fail
      go_ret
      exact ⟨rfl, hb⟩
    · have hr : nmrB 2 n = true := by simp [nmrB]
      rw [hr]
      clear hr g
      go_enter Try.func14, Try.ntmps14
      go_wp2_with fail
      go_ret
      exact ⟨rfl, hb⟩
    · have e1 : (k == 1) = false := by simpa using h1
      have e2 : (k == 2) = false := by simpa using h2
      have e3 : (k == 3) = false := by simpa using h3
      have e6 : (k == 6) = false := by simpa using h6
      have hr : nmrB k n = false := by simp [nmrB, h3, h6, h1, h2]
      rw [hr]
      clear h1 h2 h3 h6 hr g
      go_enter Try.func14, Try.ntmps14
      go_wp2_with fail
      go_ret
      exact ⟨rfl, hb⟩
  · have f1 : decide (1 < n) = true := by simp; omega
    have f2 : decide (n < 0) = false := by simp; omega
    have f3 : decide (n < -2147483648) = false := by simp; omega
    have f4 : decide (2147483647 < n) = true := by simp; omega
    rcases kk with rfl | rfl | rfl | rfl | ⟨h3, h6, h1, h2⟩
    · have hr : nmrB 3 n = false := by simp [nmrB]; omega
      rw [hr]
      clear hr g
      go_enter Try.func14, Try.ntmps14
      go_wp2_with fail
      go_ret
      exact ⟨rfl, hb⟩
    · have hr : nmrB 6 n = false := by simp [nmrB]; omega
      rw [hr]
      clear hr g
      go_enter Try.func14, Try.ntmps14
      go_wp2_with fail
      go_ret
      exact ⟨rfl, hb⟩
    · have hr : nmrB 1 n = false := by simp [nmrB]; omega
      rw [hr]
      clear hr g
      go_enter Try.func14, Try.ntmps14
      go_wp2_with fail
      go_ret
      exact ⟨rfl, hb⟩
    · have hr : nmrB 2 n = true := by simp [nmrB]
      rw [hr]
      clear hr g
      go_enter Try.func14, Try.ntmps14
      go_wp2_with fail
      go_ret
      exact ⟨rfl, hb⟩
    · have e1 : (k == 1) = false := by simpa using h1
      have e2 : (k == 2) = false := by simpa using h2
      have e3 : (k == 3) = false := by simpa using h3
      have e6 : (k == 6) = false := by simpa using h6
      have hr : nmrB k n = false := by simp [nmrB, h3, h6, h1, h2]
      rw [hr]
      clear h1 h2 h3 h6 hr g
      go_enter Try.func14, Try.ntmps14
      go_wp2_with fail
      go_ret
      exact ⟨rfl, hb⟩
theorem size_empty {s : ByteArray} (h : s.size = 0) : s = ⟨#[]⟩ := by
  obtain ⟨⟨l⟩⟩ := s
  cases l with
  | nil => rfl
  | cons a l => simp [ByteArray.size] at h
set_option maxHeartbeats 2000000 in
theorem zero_any (t : Tr) (a1 a2 : Option Addr) (n1 c1 n2 c2 : Nat) (w : World) (h1 : n1 = t.es.length) (h2 : n2 = t.rest.length) : Calls Try.prog 65 #[.agg #[.int .i64 t.kind, .int .i64 t.n, .string t.s, .slice a1 n1 c1, .slice a2 n2 c2]] w fun e w' => e = .returned (.bool (zroB t)) ∧ Below w.heap.size w w' := by
  have hb : Below w.heap.size w (w.alloc (Obj.cells #[.int .i64 t.kind, .int .i64 t.n, .string t.s, .slice a1 n1 c1, .slice a2 n2 c2] 30)) := (Below.refl _ _).alloc (Nat.le_refl _) _
  have hz : zroB t = (decide (t.kind = 1 ∨ t.kind = 2 ∨ t.kind = 3) && decide (t.n = 0) && decide (t.s.size = 0) && decide (n1 = 0) && decide (n2 = 0)) := by rw [zroB, h1, h2]
  rw [hz]
  clear hz h1 h2
  generalize t.kind = K at *
  generalize t.n = N at *
  generalize t.s = S at *
  have kk : K = 1 ∨ K = 2 ∨ K = 3 ∨ (¬ K = 1 ∧ ¬ K = 2 ∧ ¬ K = 3) := by omega
  rcases kk with rfl | rfl | rfl | ⟨h1, h2, h3⟩
  · by_cases hN : N = 0
    · subst hN
      by_cases hS : S.size = 0
      · obtain rfl := size_empty hS
        by_cases h1 : n1 = 0
        · subst h1
          by_cases h2 : n2 = 0
          · subst h2
            go_enter Try.func65, Try.ntmps65
            go_wp2_with fail
            go_ret
            exact ⟨rfl, hb⟩
          · have d2 : ((n2 : Int) == 0) = false := by simp; omega
            simp only [decide_eq_false h2, Bool.and_false]
            clear h2
            go_enter Try.func65, Try.ntmps65
            go_wp2_with fail
            go_ret
            exact ⟨rfl, hb⟩
        · have d1 : ((n1 : Int) == 0) = false := by simp; omega
          simp only [decide_eq_false h1, Bool.and_false, Bool.false_and]
          clear h1
          go_enter Try.func65, Try.ntmps65
          go_wp2_with fail
          go_ret
          exact ⟨rfl, hb⟩
      · have dS : (S.toList == ([] : List UInt8)) = false := by rw [ByteArray.toList_eq]; simp; intro e; exact hS (by rw [← ByteArray.size_data, e]; rfl)
        simp only [decide_eq_false hS, Bool.and_false, Bool.false_and]
        clear hS
        go_enter Try.func65, Try.ntmps65
        go_wp2_with fail
        go_ret
        exact ⟨rfl, hb⟩
    · have dN : (N == 0) = false := by simpa using hN
      simp only [decide_eq_false hN, Bool.and_false, Bool.false_and]
      clear hN
      go_enter Try.func65, Try.ntmps65
      go_wp2_with fail
      go_ret
      exact ⟨rfl, hb⟩
  · by_cases hN : N = 0
    · subst hN
      by_cases hS : S.size = 0
      · obtain rfl := size_empty hS
        by_cases h1 : n1 = 0
        · subst h1
          by_cases h2 : n2 = 0
          · subst h2
            go_enter Try.func65, Try.ntmps65
            go_wp2_with fail
            go_ret
            exact ⟨rfl, hb⟩
          · have d2 : ((n2 : Int) == 0) = false := by simp; omega
            simp only [decide_eq_false h2, Bool.and_false]
            clear h2
            go_enter Try.func65, Try.ntmps65
            go_wp2_with fail
            go_ret
            exact ⟨rfl, hb⟩
        · have d1 : ((n1 : Int) == 0) = false := by simp; omega
          simp only [decide_eq_false h1, Bool.and_false, Bool.false_and]
          clear h1
          go_enter Try.func65, Try.ntmps65
          go_wp2_with fail
          go_ret
          exact ⟨rfl, hb⟩
      · have dS : (S.toList == ([] : List UInt8)) = false := by rw [ByteArray.toList_eq]; simp; intro e; exact hS (by rw [← ByteArray.size_data, e]; rfl)
        simp only [decide_eq_false hS, Bool.and_false, Bool.false_and]
        clear hS
        go_enter Try.func65, Try.ntmps65
        go_wp2_with fail
        go_ret
        exact ⟨rfl, hb⟩
    · have dN : (N == 0) = false := by simpa using hN
      simp only [decide_eq_false hN, Bool.and_false, Bool.false_and]
      clear hN
      go_enter Try.func65, Try.ntmps65
      go_wp2_with fail
      go_ret
      exact ⟨rfl, hb⟩
  · by_cases hN : N = 0
    · subst hN
      by_cases hS : S.size = 0
      · obtain rfl := size_empty hS
        by_cases h1 : n1 = 0
        · subst h1
          by_cases h2 : n2 = 0
          · subst h2
            go_enter Try.func65, Try.ntmps65
            go_wp2_with fail
            go_ret
            exact ⟨rfl, hb⟩
          · have d2 : ((n2 : Int) == 0) = false := by simp; omega
            simp only [decide_eq_false h2, Bool.and_false]
            clear h2
            go_enter Try.func65, Try.ntmps65
            go_wp2_with fail
            go_ret
            exact ⟨rfl, hb⟩
        · have d1 : ((n1 : Int) == 0) = false := by simp; omega
          simp only [decide_eq_false h1, Bool.and_false, Bool.false_and]
          clear h1
          go_enter Try.func65, Try.ntmps65
          go_wp2_with fail
          go_ret
          exact ⟨rfl, hb⟩
      · have dS : (S.toList == ([] : List UInt8)) = false := by rw [ByteArray.toList_eq]; simp; intro e; exact hS (by rw [← ByteArray.size_data, e]; rfl)
        simp only [decide_eq_false hS, Bool.and_false, Bool.false_and]
        clear hS
        go_enter Try.func65, Try.ntmps65
        go_wp2_with fail
        go_ret
        exact ⟨rfl, hb⟩
    · have dN : (N == 0) = false := by simpa using hN
      simp only [decide_eq_false hN, Bool.and_false, Bool.false_and]
      clear hN
      go_enter Try.func65, Try.ntmps65
      go_wp2_with fail
      go_ret
      exact ⟨rfl, hb⟩
  · have e1 : (K == 1) = false := by simpa using h1
    have e2 : (K == 2) = false := by simpa using h2
    have e3 : (K == 3) = false := by simpa using h3
    have hk : decide (K = 1 ∨ K = 2 ∨ K = 3) = false := by simp [h1, h2, h3]
    simp only [hk, Bool.false_and]
    clear h1 h2 h3 hk
    go_enter Try.func65, Try.ntmps65
    go_wp2_with fail
    go_ret
    exact ⟨rfl, hb⟩
end Go.Proofs.Ytiiegphbhfiffaa
/- What placeOf, identityOf, hasField answer; whether a rest has a field's tag. -/
namespace Go.Proofs.Ytiiegphbhfiffaa
open Go.ChangeShapes Go.WideShapes Go.ChangeAt Go.RowKit
set_option linter.unusedVariables false
set_option linter.unusedSimpArgs false
set_option maxRecDepth 20000

set_option maxHeartbeats 1000000 in
theorem placeE_any (a : Option Addr) (N cap : Nat) (w : World) (h1 : N ≤ cap) (h2 : cap ≤ maxLen) (h3 : N = 0 ∨ ∃ g off, a = some ⟨g, off, none⟩) :
    Calls Try.prog 49 #[.slice a N cap] w fun e w' => e = .returned (plV (plOf (.slice a N cap))) ∧ Below w.heap.size w w' := by
  unfold maxLen at h2
  by_cases hN : N = 0
  · subst hN
    go_enter Try.func49, Try.ntmps49
    go_wp2_with fail
    refine bodyPost_ret (results_cell rfl _ _ _ ⟨w.heap.size, 0, none⟩ (.agg #[.pointer none, .int .i64 0]) (by go_simp) (by go_simp)) rfl ⟨by simp [plV, plOf], (Below.refl _ _).alloc (Nat.le_refl _) _⟩
  · obtain ⟨g, off, rfl⟩ : ∃ g off, a = some ⟨g, off, none⟩ := by
      rcases h3 with h | h
      · exact absurd h hN
      · exact h
    have hd : ((N : Int) == 0) = false := by simp; omega
    have hp : 0 < N := by omega
    go_enter Try.func49, Try.ntmps49
    go_wp2_with fail
    refine bodyPost_ret (results_cell rfl _ _ _ ⟨w.heap.size, 0, none⟩ (.agg #[.pointer (some ⟨g, off, none⟩), .int .i64 (N : Int)]) (by go_simp) (by go_simp)) rfl ⟨by simp [plV, plOf, hN], (Below.refl _ _).alloc (Nat.le_refl _) _⟩
set_option maxHeartbeats 1000000 in
theorem placeR_any (a : Option Addr) (N cap : Nat) (w : World) (h1 : N ≤ cap) (h2 : cap ≤ maxLen) (h3 : N = 0 ∨ ∃ g off, a = some ⟨g, off, none⟩) :
    Calls Try.prog 50 #[.slice a N cap] w fun e w' => e = .returned (plV (plOf (.slice a N cap))) ∧ Below w.heap.size w w' := by
  unfold maxLen at h2
  by_cases hN : N = 0
  · subst hN
    go_enter Try.func50, Try.ntmps50
    go_wp2_with fail
    refine bodyPost_ret (results_cell rfl _ _ _ ⟨w.heap.size, 0, none⟩ (.agg #[.pointer none, .int .i64 0]) (by go_simp) (by go_simp)) rfl ⟨by simp [plV, plOf], (Below.refl _ _).alloc (Nat.le_refl _) _⟩
  · obtain ⟨g, off, rfl⟩ : ∃ g off, a = some ⟨g, off, none⟩ := by
      rcases h3 with h | h
      · exact absurd h hN
      · exact h
    have hd : ((N : Int) == 0) = false := by simp; omega
    have hp : 0 < N := by omega
    go_enter Try.func50, Try.ntmps50
    go_wp2_with fail
    refine bodyPost_ret (results_cell rfl _ _ _ ⟨w.heap.size, 0, none⟩ (.agg #[.pointer (some ⟨g, off, none⟩), .int .i64 (N : Int)]) (by go_simp) (by go_simp)) rfl ⟨by simp [plV, plOf, hN], (Below.refl _ _).alloc (Nat.le_refl _) _⟩
set_option maxHeartbeats 2000000 in
theorem identity_any (K N : Int) (S : ByteArray) (a1 a2 : Option Addr) (n1 c1 n2 c2 : Nat) (w : World) (h1 : n1 ≤ c1) (h2 : c1 ≤ maxLen) (h3 : n1 = 0 ∨ ∃ g off, a1 = some ⟨g, off, none⟩) (h4 : n2 ≤ c2) (h5 : c2 ≤ maxLen) (h6 : n2 = 0 ∨ ∃ g off, a2 = some ⟨g, off, none⟩) :
    Calls Try.prog 28 #[.agg #[.int .i64 K, .int .i64 N, .string S, .slice a1 n1 c1, .slice a2 n2 c2]] w fun e w' => e = .returned (.agg (idC ⟨K, N, S, plOf (.slice a1 n1 c1), plOf (.slice a2 n2 c2)⟩).toArray) ∧ Below w.heap.size w w' := by
  obtain ⟨⟨p1, m1⟩, hp1⟩ : ∃ x, plOf (.slice a1 n1 c1) = x := ⟨_, rfl⟩
  obtain ⟨⟨p2, m2⟩, hp2⟩ : ∃ x, plOf (.slice a2 n2 c2) = x := ⟨_, rfl⟩
  have HE : Hid (∀ W, Calls Try.prog 49 #[.slice a1 n1 c1] W fun e w' => e = .returned (.agg #[.pointer p1, .int .i64 (m1 : Int)]) ∧ Below W.heap.size W w') := fun W => by
    have := placeE_any a1 n1 c1 W h1 h2 h3
    rw [hp1] at this
    exact this
  have HR : Hid (∀ W, Calls Try.prog 50 #[.slice a2 n2 c2] W fun e w' => e = .returned (.agg #[.pointer p2, .int .i64 (m2 : Int)]) ∧ Below W.heap.size W w') := fun W => by
    have := placeR_any a2 n2 c2 W h4 h5 h6
    rw [hp2] at this
    exact this
  rw [hp1, hp2]
  clear hp1 hp2 h1 h2 h3 h4 h5 h6
  have B0 : Blk ((w.alloc (Obj.cells #[.int .i64 K, .int .i64 N, .string S, .slice a1 n1 c1, .slice a2 n2 c2] 30)).alloc (Obj.cells #[.int .i64 0, .int .i64 0, .string ⟨#[]⟩, .pointer none, .int .i64 0, .pointer none, .int .i64 0] 91)) w.heap.size #[.int .i64 K, .int .i64 N, .string S, .slice a1 n1 c1, .slice a2 n2 c2] 30 := (Blk.new w _ _).below ((Below.refl _ _).alloc (Nat.le_refl _) _)
  have B1 : Blk ((w.alloc (Obj.cells #[.int .i64 K, .int .i64 N, .string S, .slice a1 n1 c1, .slice a2 n2 c2] 30)).alloc (Obj.cells #[.int .i64 0, .int .i64 0, .string ⟨#[]⟩, .pointer none, .int .i64 0, .pointer none, .int .i64 0] 91)) (w.heap.size + 1) #[.int .i64 0, .int .i64 0, .string ⟨#[]⟩, .pointer none, .int .i64 0, .pointer none, .int .i64 0] 91 := by
    have := Blk.new (w.alloc (Obj.cells #[.int .i64 K, .int .i64 N, .string S, .slice a1 n1 c1, .slice a2 n2 c2] 30)) #[.int .i64 0, .int .i64 0, .string ⟨#[]⟩, .pointer none, .int .i64 0, .pointer none, .int .i64 0] 91
    rwa [show (w.alloc (Obj.cells #[.int .i64 K, .int .i64 N, .string S, .slice a1 n1 c1, .slice a2 n2 c2] 30)).heap.size = w.heap.size + 1 from by simp] at this
  have hb : Below w.heap.size w ((w.alloc (Obj.cells #[.int .i64 K, .int .i64 N, .string S, .slice a1 n1 c1, .slice a2 n2 c2] 30)).alloc (Obj.cells #[.int .i64 0, .int .i64 0, .string ⟨#[]⟩, .pointer none, .int .i64 0, .pointer none, .int .i64 0] 91)) := ((Below.refl _ _).alloc (Nat.le_refl _) _).alloc (by simp) _
  go_enter Try.func28, Try.ntmps28
  go_wp2_with fail
  generalize ((w.alloc (Obj.cells #[.int .i64 K, .int .i64 N, .string S, .slice a1 n1 c1, .slice a2 n2 c2] 30)).alloc (Obj.cells #[.int .i64 0, .int .i64 0, .string ⟨#[]⟩, .pointer none, .int .i64 0, .pointer none, .int .i64 0] 91)) = W0 at *
  obtain ⟨b0, hb0⟩ : ∃ b, w.heap.size = b := ⟨_, rfl⟩
  have HBZ : Hid (w.heap.size = b0) := hb0
  rw [hb0] at B0 B1
  simp only [hb0]
  clear hb0
  have hTb : ∀ W, Below W0.heap.size W0 W → W.cell? ⟨b0, 0, none⟩ = some (.int .i64 K) ∧ W.cell? ⟨b0, 1, none⟩ = some (.int .i64 N) ∧ W.cell? ⟨b0, 2, none⟩ = some (.string S) ∧ W.cell? ⟨b0, 3, none⟩ = some (.slice a1 n1 c1) ∧ W.cell? ⟨b0, 4, none⟩ = some (.slice a2 n2 c2) := fun W hW => ⟨(B0.below hW).cell 0, (B0.below hW).cell 1, (B0.below hW).cell 2, (B0.below hW).cell 3, (B0.below hW).cell 4⟩
  refine M_region (T := fun W => W.cell? ⟨b0, 0, none⟩ = some (.int .i64 K) ∧ W.cell? ⟨b0, 1, none⟩ = some (.int .i64 N) ∧ W.cell? ⟨b0, 2, none⟩ = some (.string S) ∧ W.cell? ⟨b0, 3, none⟩ = some (.slice a1 n1 c1) ∧ W.cell? ⟨b0, 4, none⟩ = some (.slice a2 n2 c2)) (m := 13) (by kernel_rfl) ?_
  have hd : Below W0.heap.size W0 W0.drew := (Below.refl _ _).drew
  have hS := hTb _ hd
  refine M_take 0 3 (.pointer (some ⟨b0, 0, none⟩)) _ rfl rfl (by kernel_rfl) (by kernel_rfl) (by kernel_rfl) (by kernel_rfl) (by kernel_rfl) (fun _ _ _ h => h) (by rfl) (fun w' hw' => ?_) hS (listed' := #[true, false, false, false, false, false, false, false, false, false, false, false, false, false]) (by kernel_rfl) rfl ?_
  · go_simp
  simp only [List.setIfInBounds_toArray, List.set_cons_zero, List.set_cons_succ]
  refine M_take 1 4 (.int .i64 K) _ rfl rfl (by kernel_rfl) (by kernel_rfl) (by kernel_rfl) (by kernel_rfl) (by kernel_rfl) (fun _ _ _ h => h) (by rfl) (fun w' hw' => ?_) hS (listed' := #[true, true, false, false, false, false, false, false, false, false, false, false, false, false]) (by kernel_rfl) rfl ?_
  · obtain ⟨f0, f1, f2, f3, f4⟩ := hw'; go_simp
  simp only [List.setIfInBounds_toArray, List.set_cons_zero, List.set_cons_succ]
  refine M_take 2 5 (.pointer (some ⟨b0, 1, none⟩)) _ rfl rfl (by kernel_rfl) (by kernel_rfl) (by kernel_rfl) (by kernel_rfl) (by kernel_rfl) (fun _ _ _ h => h) (by rfl) (fun w' hw' => ?_) hS (listed' := #[true, true, true, false, false, false, false, false, false, false, false, false, false, false]) (by kernel_rfl) rfl ?_
  · go_simp
  simp only [List.setIfInBounds_toArray, List.set_cons_zero, List.set_cons_succ]
  refine M_take 3 6 (.int .i64 N) _ rfl rfl (by kernel_rfl) (by kernel_rfl) (by kernel_rfl) (by kernel_rfl) (by kernel_rfl) (fun _ _ _ h => h) (by rfl) (fun w' hw' => ?_) hS (listed' := #[true, true, true, true, false, false, false, false, false, false, false, false, false, false]) (by kernel_rfl) rfl ?_
  · obtain ⟨f0, f1, f2, f3, f4⟩ := hw'; go_simp
  simp only [List.setIfInBounds_toArray, List.set_cons_zero, List.set_cons_succ]
  refine M_take 4 7 (.pointer (some ⟨b0, 2, none⟩)) _ rfl rfl (by kernel_rfl) (by kernel_rfl) (by kernel_rfl) (by kernel_rfl) (by kernel_rfl) (fun _ _ _ h => h) (by rfl) (fun w' hw' => ?_) hS (listed' := #[true, true, true, true, true, false, false, false, false, false, false, false, false, false]) (by kernel_rfl) rfl ?_
  · go_simp
  simp only [List.setIfInBounds_toArray, List.set_cons_zero, List.set_cons_succ]
  refine M_take 5 8 (.string S) _ rfl rfl (by kernel_rfl) (by kernel_rfl) (by kernel_rfl) (by kernel_rfl) (by kernel_rfl) (fun _ _ _ h => h) (by rfl) (fun w' hw' => ?_) hS (listed' := #[true, true, true, true, true, true, false, false, false, false, false, false, false, false]) (by kernel_rfl) rfl ?_
  · obtain ⟨f0, f1, f2, f3, f4⟩ := hw'; go_simp
  simp only [List.setIfInBounds_toArray, List.set_cons_zero, List.set_cons_succ]
  refine M_take 6 9 (.pointer (some ⟨b0, 3, none⟩)) _ rfl rfl (by kernel_rfl) (by kernel_rfl) (by kernel_rfl) (by kernel_rfl) (by kernel_rfl) (fun _ _ _ h => h) (by rfl) (fun w' hw' => ?_) hS (listed' := #[true, true, true, true, true, true, true, false, false, false, false, false, false, false]) (by kernel_rfl) rfl ?_
  · go_simp
  simp only [List.setIfInBounds_toArray, List.set_cons_zero, List.set_cons_succ]
  refine M_take 7 10 (.slice a1 n1 c1) _ rfl rfl (by kernel_rfl) (by kernel_rfl) (by kernel_rfl) (by kernel_rfl) (by kernel_rfl) (fun _ _ _ h => h) (by rfl) (fun w' hw' => ?_) hS (listed' := #[true, true, true, true, true, true, true, true, false, false, false, false, false, false]) (by kernel_rfl) rfl ?_
  · obtain ⟨f0, f1, f2, f3, f4⟩ := hw'; go_simp
  simp only [List.setIfInBounds_toArray, List.set_cons_zero, List.set_cons_succ]
  refine M_take 9 12 (.pointer (some ⟨b0, 4, none⟩)) _ rfl rfl (by kernel_rfl) (by kernel_rfl) (by kernel_rfl) (by kernel_rfl) (by kernel_rfl) (fun _ _ _ h => h) (by rfl) (fun w' hw' => ?_) hS (listed' := #[true, true, true, true, true, true, true, true, false, true, false, false, false, false]) (by kernel_rfl) rfl ?_
  · go_simp
  simp only [List.setIfInBounds_toArray, List.set_cons_zero, List.set_cons_succ]
  refine M_take 10 13 (.slice a2 n2 c2) _ rfl rfl (by kernel_rfl) (by kernel_rfl) (by kernel_rfl) (by kernel_rfl) (by kernel_rfl) (fun _ _ _ h => h) (by rfl) (fun w' hw' => ?_) hS (listed' := #[true, true, true, true, true, true, true, true, false, true, true, false, false, false]) (by kernel_rfl) rfl ?_
  · obtain ⟨f0, f1, f2, f3, f4⟩ := hw'; go_simp
  simp only [List.setIfInBounds_toArray, List.set_cons_zero, List.set_cons_succ]
  refine M_call 8 11 49 #[.slice a1 n1 c1] rfl rfl (by kernel_rfl) (by rfl) (listed' := #[true, true, true, true, true, true, true, true, true, true, true, false, false, false]) (by kernel_rfl) (fun W => by go_simp) ?_
  refine (HE.out _).mono ?_
  rintro e W1 ⟨rfl, hb1⟩
  have hd1 : Below W0.heap.size W0 W1 := hd.trans (hb1.mono hd.size)
  have hS := hTb _ hd1
  refine ⟨_, rfl, hS, ?_⟩
  simp only [List.setIfInBounds_toArray, List.set_cons_zero, List.set_cons_succ]
  refine M_call 11 14 50 #[.slice a2 n2 c2] rfl rfl (by kernel_rfl) (by rfl) (listed' := #[true, true, true, true, true, true, true, true, true, true, true, true, false, false]) (by kernel_rfl) (fun W => by go_simp) ?_
  refine (HR.out _).mono ?_
  rintro e W2 ⟨rfl, hb2⟩
  have hd2 : Below W0.heap.size W0 W2 := hd1.trans (hb2.mono hd1.size)
  have hS := hTb _ hd2
  refine ⟨_, rfl, hS, ?_⟩
  simp only [List.setIfInBounds_toArray, List.set_cons_zero, List.set_cons_succ]
  refine M_take 12 15 (.agg #[.int .i64 K, .int .i64 N, .string S, .pointer p1, .int .i64 (m1 : Int), .pointer p2, .int .i64 (m2 : Int)]) _ rfl rfl (by kernel_rfl) (by kernel_rfl) (by kernel_rfl) (by kernel_rfl) (by kernel_rfl) (fun _ _ _ h => h) (by rfl) (fun w' hw' => ?_) hS (listed' := #[true, true, true, true, true, true, true, true, true, true, true, true, true, false]) (by kernel_rfl) rfl ?_
  · go_simp
  simp only [List.setIfInBounds_toArray, List.set_cons_zero, List.set_cons_succ]
  have BR := B1.below hd2
  have r0 := (BR.cell 0).trans rfl
  have z0 := BR.froz 0
  have r1 := (BR.cell 1).trans rfl
  have z1 := BR.froz 1
  have r2 := (BR.cell 2).trans rfl
  have z2 := BR.froz 2
  have r3 := (BR.cell 3).trans rfl
  have z3 := BR.froz 3
  have r4 := (BR.cell 4).trans rfl
  have z4 := BR.froz 4
  have r5 := (BR.cell 5).trans rfl
  have z5 := BR.froz 5
  have r6 := (BR.cell 6).trans rfl
  have z6 := BR.froz 6
  refine M_store 13 (((((((W2.setCell ⟨b0 + 1, 0, none⟩ (.int .i64 K)).setCell ⟨b0 + 1, 1, none⟩ (.int .i64 N)).setCell ⟨b0 + 1, 2, none⟩ (.string S)).setCell ⟨b0 + 1, 3, none⟩ (.pointer p1)).setCell ⟨b0 + 1, 4, none⟩ (.int .i64 (m1 : Int))).setCell ⟨b0 + 1, 5, none⟩ (.pointer p2)).setCell ⟨b0 + 1, 6, none⟩ (.int .i64 (m2 : Int))) rfl rfl (by kernel_rfl) (by rfl) (listed' := #[true, true, true, true, true, true, true, true, true, true, true, true, true, true]) (by kernel_rfl) (by go_simp) (by kernel_rfl) ?_
  refine M_done (by kernel_rfl) ?_ _
  have BR0 : Blk (W2.setCell ⟨b0 + 1, 0, none⟩ (.int .i64 K)) (b0 + 1) #[.int .i64 K, .int .i64 0, .string ⟨#[]⟩, .pointer none, .int .i64 0, .pointer none, .int .i64 0] 91 := BR.set 0 _ rfl
  have BR1 : Blk ((W2.setCell ⟨b0 + 1, 0, none⟩ (.int .i64 K)).setCell ⟨b0 + 1, 1, none⟩ (.int .i64 N)) (b0 + 1) #[.int .i64 K, .int .i64 N, .string ⟨#[]⟩, .pointer none, .int .i64 0, .pointer none, .int .i64 0] 91 := BR0.set 1 _ rfl
  have BR2 : Blk (((W2.setCell ⟨b0 + 1, 0, none⟩ (.int .i64 K)).setCell ⟨b0 + 1, 1, none⟩ (.int .i64 N)).setCell ⟨b0 + 1, 2, none⟩ (.string S)) (b0 + 1) #[.int .i64 K, .int .i64 N, .string S, .pointer none, .int .i64 0, .pointer none, .int .i64 0] 91 := BR1.set 2 _ rfl
  have BR3 : Blk ((((W2.setCell ⟨b0 + 1, 0, none⟩ (.int .i64 K)).setCell ⟨b0 + 1, 1, none⟩ (.int .i64 N)).setCell ⟨b0 + 1, 2, none⟩ (.string S)).setCell ⟨b0 + 1, 3, none⟩ (.pointer p1)) (b0 + 1) #[.int .i64 K, .int .i64 N, .string S, .pointer p1, .int .i64 0, .pointer none, .int .i64 0] 91 := BR2.set 3 _ rfl
  have BR4 : Blk (((((W2.setCell ⟨b0 + 1, 0, none⟩ (.int .i64 K)).setCell ⟨b0 + 1, 1, none⟩ (.int .i64 N)).setCell ⟨b0 + 1, 2, none⟩ (.string S)).setCell ⟨b0 + 1, 3, none⟩ (.pointer p1)).setCell ⟨b0 + 1, 4, none⟩ (.int .i64 (m1 : Int))) (b0 + 1) #[.int .i64 K, .int .i64 N, .string S, .pointer p1, .int .i64 (m1 : Int), .pointer none, .int .i64 0] 91 := BR3.set 4 _ rfl
  have BR5 : Blk ((((((W2.setCell ⟨b0 + 1, 0, none⟩ (.int .i64 K)).setCell ⟨b0 + 1, 1, none⟩ (.int .i64 N)).setCell ⟨b0 + 1, 2, none⟩ (.string S)).setCell ⟨b0 + 1, 3, none⟩ (.pointer p1)).setCell ⟨b0 + 1, 4, none⟩ (.int .i64 (m1 : Int))).setCell ⟨b0 + 1, 5, none⟩ (.pointer p2)) (b0 + 1) #[.int .i64 K, .int .i64 N, .string S, .pointer p1, .int .i64 (m1 : Int), .pointer p2, .int .i64 0] 91 := BR4.set 5 _ rfl
  have BR6 : Blk (((((((W2.setCell ⟨b0 + 1, 0, none⟩ (.int .i64 K)).setCell ⟨b0 + 1, 1, none⟩ (.int .i64 N)).setCell ⟨b0 + 1, 2, none⟩ (.string S)).setCell ⟨b0 + 1, 3, none⟩ (.pointer p1)).setCell ⟨b0 + 1, 4, none⟩ (.int .i64 (m1 : Int))).setCell ⟨b0 + 1, 5, none⟩ (.pointer p2)).setCell ⟨b0 + 1, 6, none⟩ (.int .i64 (m2 : Int))) (b0 + 1) #[.int .i64 K, .int .i64 N, .string S, .pointer p1, .int .i64 (m1 : Int), .pointer p2, .int .i64 (m2 : Int)] 91 := BR5.set 6 _ rfl
  have hbe : Below w.heap.size w W2 := hb.trans (hd2.mono hb.size)
  have hbe0 : Below w.heap.size w (W2.setCell ⟨b0 + 1, 0, none⟩ (.int .i64 K)) := Below.setCell (p := ⟨b0 + 1, 0, none⟩) hbe (by have := HBZ.out; show w.heap.size ≤ b0 + 1; omega) _
  have hbe1 : Below w.heap.size w ((W2.setCell ⟨b0 + 1, 0, none⟩ (.int .i64 K)).setCell ⟨b0 + 1, 1, none⟩ (.int .i64 N)) := Below.setCell (p := ⟨b0 + 1, 1, none⟩) hbe0 (by have := HBZ.out; show w.heap.size ≤ b0 + 1; omega) _
  have hbe2 : Below w.heap.size w (((W2.setCell ⟨b0 + 1, 0, none⟩ (.int .i64 K)).setCell ⟨b0 + 1, 1, none⟩ (.int .i64 N)).setCell ⟨b0 + 1, 2, none⟩ (.string S)) := Below.setCell (p := ⟨b0 + 1, 2, none⟩) hbe1 (by have := HBZ.out; show w.heap.size ≤ b0 + 1; omega) _
  have hbe3 : Below w.heap.size w ((((W2.setCell ⟨b0 + 1, 0, none⟩ (.int .i64 K)).setCell ⟨b0 + 1, 1, none⟩ (.int .i64 N)).setCell ⟨b0 + 1, 2, none⟩ (.string S)).setCell ⟨b0 + 1, 3, none⟩ (.pointer p1)) := Below.setCell (p := ⟨b0 + 1, 3, none⟩) hbe2 (by have := HBZ.out; show w.heap.size ≤ b0 + 1; omega) _
  have hbe4 : Below w.heap.size w (((((W2.setCell ⟨b0 + 1, 0, none⟩ (.int .i64 K)).setCell ⟨b0 + 1, 1, none⟩ (.int .i64 N)).setCell ⟨b0 + 1, 2, none⟩ (.string S)).setCell ⟨b0 + 1, 3, none⟩ (.pointer p1)).setCell ⟨b0 + 1, 4, none⟩ (.int .i64 (m1 : Int))) := Below.setCell (p := ⟨b0 + 1, 4, none⟩) hbe3 (by have := HBZ.out; show w.heap.size ≤ b0 + 1; omega) _
  have hbe5 : Below w.heap.size w ((((((W2.setCell ⟨b0 + 1, 0, none⟩ (.int .i64 K)).setCell ⟨b0 + 1, 1, none⟩ (.int .i64 N)).setCell ⟨b0 + 1, 2, none⟩ (.string S)).setCell ⟨b0 + 1, 3, none⟩ (.pointer p1)).setCell ⟨b0 + 1, 4, none⟩ (.int .i64 (m1 : Int))).setCell ⟨b0 + 1, 5, none⟩ (.pointer p2)) := Below.setCell (p := ⟨b0 + 1, 5, none⟩) hbe4 (by have := HBZ.out; show w.heap.size ≤ b0 + 1; omega) _
  have hbe6 : Below w.heap.size w (((((((W2.setCell ⟨b0 + 1, 0, none⟩ (.int .i64 K)).setCell ⟨b0 + 1, 1, none⟩ (.int .i64 N)).setCell ⟨b0 + 1, 2, none⟩ (.string S)).setCell ⟨b0 + 1, 3, none⟩ (.pointer p1)).setCell ⟨b0 + 1, 4, none⟩ (.int .i64 (m1 : Int))).setCell ⟨b0 + 1, 5, none⟩ (.pointer p2)).setCell ⟨b0 + 1, 6, none⟩ (.int .i64 (m2 : Int))) := Below.setCell (p := ⟨b0 + 1, 6, none⟩) hbe5 (by have := HBZ.out; show w.heap.size ≤ b0 + 1; omega) _
  clear r0 z0 r1 z1 r2 z2 r3 z3 r4 z4 r5 z5 r6 z6 BR0 hbe0 BR1 hbe1 BR2 hbe2 BR3 hbe3 BR4 hbe4 BR5 hbe5 BR hbe hS
  generalize (((((((W2.setCell ⟨b0 + 1, 0, none⟩ (.int .i64 K)).setCell ⟨b0 + 1, 1, none⟩ (.int .i64 N)).setCell ⟨b0 + 1, 2, none⟩ (.string S)).setCell ⟨b0 + 1, 3, none⟩ (.pointer p1)).setCell ⟨b0 + 1, 4, none⟩ (.int .i64 (m1 : Int))).setCell ⟨b0 + 1, 5, none⟩ (.pointer p2)).setCell ⟨b0 + 1, 6, none⟩ (.int .i64 (m2 : Int))) = W3 at *
  have r0 := (BR6.cell 0).trans rfl
  have r1 := (BR6.cell 1).trans rfl
  have r2 := (BR6.cell 2).trans rfl
  have r3 := (BR6.cell 3).trans rfl
  have r4 := (BR6.cell 4).trans rfl
  have r5 := (BR6.cell 5).trans rfl
  have r6 := (BR6.cell 6).trans rfl
  go_wp2_with fail
  refine bodyPost_ret (results_cell rfl _ _ _ ⟨b0 + 1, 0, none⟩ (.agg #[.int .i64 K, .int .i64 N, .string S, .pointer p1, .int .i64 (m1 : Int), .pointer p2, .int .i64 (m2 : Int)]) (by go_simp) (by go_simp)) rfl ⟨rfl, hbe6⟩
/-- A message's value. -/
def MsV (w : World) (m : MsS) (vf vr : Value) : Prop := RowG w vf 5 (flRows m.fields) ∧ RowG w vr 1 (inRows m.reserved)
theorem row_slice {w : World} {v : Value} {size : Nat} {rs : List (List Value)} (h : RowG w v size rs) : ∃ a n c, v = .slice a n c := by
  obtain ⟨a, c, e, _⟩ := h.form
  exact ⟨a, _, c, e⟩
set_option maxHeartbeats 1000000 in
theorem hasField_any {w : World} {snm : ByteArray} {vf vr : Value} {fs : List FlS} {tag : Int} (hf : RowG w vf 5 (flRows fs)) (hr : ∃ a n c, vr = .slice a n c) :
    Calls Try.prog 46 #[.agg #[.string snm, vf, vr], .int .i64 tag] w fun e w' => e = .returned (.bool (fldOf fs tag).isSome) ∧ Below w.heap.size w w' := by
  obtain ⟨ra, rn, rc, rfl⟩ := hr
  obtain ⟨fa, fnn, fc, rfl⟩ := row_slice hf
  have al : Below w.heap.size w (w.alloc (Obj.cells #[.string snm, .slice fa fnn fc, .slice ra rn rc] 47)) := (Below.refl _ _).alloc (Nat.le_refl _) _
  have HC : Hid (Calls Try.prog 47 #[.agg #[.string snm, .slice fa fnn fc, .slice ra rn rc], .int .i64 tag] (w.alloc (Obj.cells #[.string snm, .slice fa fnn fc, .slice ra rn rc] 47)) fun e w' => e = .returned (.tuple #[flV ((fldOf fs tag).getD zeroF), .bool (fldOf fs tag).isSome]) ∧ Below (w.alloc (Obj.cells #[.string snm, .slice fa fnn fc, .slice ra rn rc] 47)).heap.size (w.alloc (Obj.cells #[.string snm, .slice fa fnn fc, .slice ra rn rc] 47)) w') := cfield_any (hf.below al)
  clear hf
  generalize fldOf fs tag = X at *
  generalize X.getD zeroF = Y at *
  generalize X.isSome = B at *
  obtain ⟨y1, y2, y3, y4, y5⟩ := Y
  simp only [flV] at HC
  go_enter Try.func46, Try.ntmps46
  go_wp2_with fail
  refine HC.out.mono ?_
  rintro e w1 ⟨rfl, hb1⟩
  have hbw : Below w.heap.size w w1 := al.trans (hb1.mono al.size)
  clear HC hb1 al
  have hbe : Below w.heap.size w (w1.alloc (Obj.cells #[.string y1, .int .i64 y2, .int .i64 y3, .int .i64 y4, .string y5] 49)) := hbw.alloc hbw.size _
  go_wp2_with fail
  go_ret
  exact ⟨rfl, hbe⟩
set_option maxHeartbeats 1000000 in
theorem restc_any {W : World} {b : Nat} {snm : ByteArray} {vf vr : Value} {fs : List FlS} (x : Fd) (hB : Blk W b #[.string snm, vf, vr] 47) (hf : RowG W vf 5 (flRows fs)) (hr : ∃ a n c, vr = .slice a n c) :
    Calls Try.prog 45 #[.agg #[.int .i64 x.tag, .int .i64 x.wire, .int .i64 x.n, .string x.b], .pointer (some ⟨b, 0, none⟩)] W fun e w' => e = .returned (.bool (fldOf fs x.tag).isSome) ∧ Below W.heap.size W w' := by
  obtain ⟨ra, rn, rc, rfl⟩ := hr
  obtain ⟨fa, fnn, fc, rfl⟩ := row_slice hf
  have al : Below W.heap.size W (W.alloc (Obj.cells #[.int .i64 x.tag, .int .i64 x.wire, .int .i64 x.n, .string x.b] 70)) := (Below.refl _ _).alloc (Nat.le_refl _) _
  have q0 := (hB.cell 0).trans rfl
  have q1 := (hB.cell 1).trans rfl
  have q2 := (hB.cell 2).trans rfl
  have hlt := hB.lt
  have HC : Hid (Calls Try.prog 46 #[.agg #[.string snm, .slice fa fnn fc, .slice ra rn rc], .int .i64 x.tag] (W.alloc (Obj.cells #[.int .i64 x.tag, .int .i64 x.wire, .int .i64 x.n, .string x.b] 70)) fun e w' => e = .returned (.bool (fldOf fs x.tag).isSome) ∧ Below (W.alloc (Obj.cells #[.int .i64 x.tag, .int .i64 x.wire, .int .i64 x.n, .string x.b] 70)).heap.size (W.alloc (Obj.cells #[.int .i64 x.tag, .int .i64 x.wire, .int .i64 x.n, .string x.b] 70)) w') := hasField_any (hf.below al) ⟨_, _, _, rfl⟩
  clear hf hB
  generalize (fldOf fs x.tag).isSome = R at *
  generalize x.tag = x1 at *
  generalize x.wire = x2 at *
  generalize x.n = x3 at *
  generalize x.b = x4 at *
  go_enter Try.func45, Try.ntmps45
  go_wp2_with fail
  refine HC.out.mono ?_
  rintro e w1 ⟨rfl, hb1⟩
  have hbw : Below W.heap.size W w1 := al.trans (hb1.mono al.size)
  clear HC hb1 al q0 q1 q2
  go_wp2_with fail
  go_ret
  exact ⟨rfl, hbw⟩
set_option maxHeartbeats 2000000 in
theorem indexR_any (b : Nat) (v : Value) (l : List Fd) (w : World) (p : Fd → Bool) (h : RowG w v 4 (fdRows l)) (hf : ∀ (W : World) (x : Fd), Below w.heap.size w W → x ∈ l → Calls Try.prog 45 #[.agg #[.int .i64 x.tag, .int .i64 x.wire, .int .i64 x.n, .string x.b], .pointer (some ⟨b, 0, none⟩)] W fun e w' => e = .returned (.bool (p x)) ∧ Below W.heap.size W w') :
    Calls Try.prog 66 #[v, .func (.func 45) #[] #[.pointer (some ⟨b, 0, none⟩)]] w fun e w' => (∃ k : Int, e = .returned (.int .i64 k) ∧ (0 ≤ k ↔ l.any p = true)) ∧ Below w.heap.size w w' := by
  have h0 := h
  obtain ⟨a, cap, rfl, h1, h2, h3, -, h5⟩ := rest_holds h
  obtain ⟨N, hN⟩ : ∃ N, l.length = N := ⟨_, rfl⟩
  rw [hN] at h1 h0 ⊢
  have HH : Hid (∀ g off, a = some ⟨g, off, none⟩ → ∀ (i : Nat) (f : Fd), l[i]? = some f → w.cell? ⟨g, off + i * 4, none⟩ = some (.int .i64 f.tag) ∧ w.cell? ⟨g, off + i * 4 + 1, none⟩ = some (.int .i64 f.wire) ∧ w.cell? ⟨g, off + i * 4 + 2, none⟩ = some (.int .i64 f.n) ∧ w.cell? ⟨g, off + i * 4 + 3, none⟩ = some (.string f.b)) := h5
  have H3 : Hid (l = [] ∨ ∃ g off, a = some ⟨g, off, none⟩) := h3
  have HN : Hid (l.length = N) := hN
  have HF : Hid (∀ (W : World) (x : Fd), Below w.heap.size w W → x ∈ l → Calls Try.prog 45 #[.agg #[.int .i64 x.tag, .int .i64 x.wire, .int .i64 x.n, .string x.b], .pointer (some ⟨b, 0, none⟩)] W fun e w' => e = .returned (.bool (p x)) ∧ Below W.heap.size W w') := hf
  unfold maxLen at h2
  clear h h0 hN hf h3 h5
  go_enter Try.func66, Try.ntmps66
  go_wp2_with fail
  go_loopw [8] (fun iv wr => ∃ i : Nat, iv = .int .i64 (i : Int) ∧ i ≤ N ∧ Hid (∀ x ∈ l.take i, p x = false) ∧ Below w.heap.size w wr) (fun iv _ => N - (intOf iv).toNat)
  case atStart => exact ⟨0, rfl, by omega, (by simp : ∀ x ∈ l.take 0, p x = false), Below.refl _ _⟩
  case round =>
    obtain ⟨i, rfl, hi, HI, hbel⟩ := hrel
    by_cases hlt : i < N
    · obtain ⟨t, ht⟩ : ∃ r, l[i]? = some r := ⟨_, List.getElem?_eq_getElem (by rw [HN.out]; exact hlt)⟩
      obtain ⟨g, off, rfl⟩ : ∃ g off, a = some ⟨g, off, none⟩ := by
        rcases H3.out with h | h
        · rw [h] at ht; simp at ht
        · exact h
      obtain ⟨p0, p1, p2, p3⟩ := HH.out g off rfl i t ht
      have c0 := (hbel.cell (World.block_lt_of_cell? _ _ p0)).trans p0
      have c1 := (hbel.cell (World.block_lt_of_cell? _ _ p1)).trans p1
      have c2 := (hbel.cell (World.block_lt_of_cell? _ _ p2)).trans p2
      have c3 := (hbel.cell (World.block_lt_of_cell? _ _ p3)).trans p3
      have HCC : Hid (Calls Try.prog 45 #[.agg #[.int .i64 t.tag, .int .i64 t.wire, .int .i64 t.n, .string t.b], .pointer (some ⟨b, 0, none⟩)] wr fun e w' => e = .returned (.bool (p t)) ∧ Below wr.heap.size wr w') := HF.out wr t hbel (List.mem_of_getElem? ht)
      have HT : Hid (l.take (i + 1) = l.take i ++ [t]) := (by obtain ⟨hl', e⟩ := List.getElem?_eq_some_iff.1 ht; rw [List.take_succ_eq_append_getElem hl', e] : l.take (i + 1) = l.take i ++ [t])
      have HTM : Hid (t ∈ l) := List.mem_of_getElem? ht
      clear ht p0 p1 p2 p3
      obtain ⟨R, hR⟩ : ∃ R, p t = R := ⟨_, rfl⟩
      have HR : Hid (p t = R) := hR
      rw [hR] at HCC
      clear hR
      generalize t.tag = x1 at *
      generalize t.wire = x2 at *
      generalize t.n = x3 at *
      generalize t.b = x4 at *
      go_wp2_with fail
      refine Calls.mono HCC.out ?_
      rintro e w2 ⟨rfl, hb2⟩
      have hbw : Below w.heap.size w w2 := hbel.trans (hb2.mono hbel.size)
      clear HCC hb2 c0 c1 c2 c3 hbel
      cases R with
      | true =>
        go_wp2_with fail
        go_ret
        exact ⟨⟨_, rfl, by simp only [Int.natCast_nonneg, true_iff]; exact List.any_eq_true.2 ⟨t, HTM.out, HR.out⟩⟩, hbw⟩
      | false =>
        go_wp2_with fail
        go_roundw
        case rel => exact ⟨i + 1, by go_num, by omega, (by
          rw [HT.out]
          intro x hx
          rcases List.mem_append.1 hx with hx | hx
          · exact HI.out x hx
          · obtain rfl : x = t := by simpa using hx
            exact HR.out : ∀ x ∈ l.take (i + 1), p x = false), hbw⟩
        case measure => simp [intOf]; omega
    · go_wp2_with fail
      go_ret
      have h5 := HI.out
      rw [List.take_of_length_le (by rw [HN.out]; omega)] at h5
      refine ⟨⟨-1, rfl, ?_⟩, hbel⟩
      have : l.any p = false := by rw [List.any_eq_false]; intro x hx; rw [h5 x hx]; simp
      rw [this]
      simp
theorem containsR_any (b : Nat) (v : Value) (l : List Fd) (w : World) (p : Fd → Bool) (h : RowG w v 4 (fdRows l)) (hf : ∀ (W : World) (x : Fd), Below w.heap.size w W → x ∈ l → Calls Try.prog 45 #[.agg #[.int .i64 x.tag, .int .i64 x.wire, .int .i64 x.n, .string x.b], .pointer (some ⟨b, 0, none⟩)] W fun e w' => e = .returned (.bool (p x)) ∧ Below W.heap.size W w') :
    Calls Try.prog 44 #[v, .func (.func 45) #[] #[.pointer (some ⟨b, 0, none⟩)]] w fun e w' => e = .returned (.bool (l.any p)) ∧ Below w.heap.size w w' := by
  have HI : Hid (Calls Try.prog 66 #[v, .func (.func 45) #[] #[.pointer (some ⟨b, 0, none⟩)]] w fun e w' => (∃ k : Int, e = .returned (.int .i64 k) ∧ (0 ≤ k ↔ l.any p = true)) ∧ Below w.heap.size w w') := indexR_any b v l w p h hf
  obtain ⟨a, n, cap, rfl⟩ := row_slice h
  clear h hf
  obtain ⟨R, hR⟩ : ∃ R, l.any p = R := ⟨_, rfl⟩
  rw [hR] at HI ⊢
  clear hR
  go_enter Try.func44, Try.ntmps44
  go_wp2_with fail
  refine Calls.mono HI.out ?_
  rintro e w2 ⟨⟨k, rfl, hk⟩, hb⟩
  clear HI
  have hd : decide (0 ≤ k) = R := by
    cases R
    · simpa using hk
    · simpa using hk
  clear hk
  go_wp2_with fail
  go_ret
  exact ⟨rfl, hb⟩
end Go.Proofs.Ytiiegphbhfiffaa
/- Whether a tree is one of a type. -/
namespace Go.Proofs.Ytiiegphbhfiffaa
open Go.ChangeShapes Go.WideShapes Go.ChangeAt Go.RowKit
set_option linter.unusedVariables false
set_option linter.unusedSimpArgs false
set_option maxRecDepth 20000

/-- What the walk answers. -/
def MesP (s : ScS) (X : Int) (b : Nat) (w : World) (e : Ending) (w' : World) : Prop := e = .returned (.int .i64 X) ∧ Kp (fun q => q = b) w w' ∧ KnS s w' b
theorem MesP.of {s : ScS} {X Y : Int} {b : Nat} {w w' : World} (hX : Y = X) (h : Kp (fun q => q = b) w w') (hk : KnS s w' b) : MesP s X b w (.returned (.int .i64 Y)) w' := ⟨by rw [hX], h, hk⟩
theorem kept_cellW {w : World} {a : Addr} {u : Value} (h : w.cell? a = some u) (x : Kept w.heap.size w) : x.w.cell? a = some u := by
  rw [x.below.cell (World.block_lt_of_cell? _ _ h)]; exact h
theorem blk3a (w : World) (c1 c2 c3 : Array Value) (t1 t2 t3 : TypeId) : Blk (((w.alloc (Obj.cells c1 t1)).alloc (Obj.cells c2 t2)).alloc (Obj.cells c3 t3)) w.heap.size c1 t1 := ((Blk.new w _ _).below ((Below.refl _ _).alloc (Nat.le_refl _) _)).below ((Below.refl _ _).alloc (Nat.le_refl _) _)
theorem blk3b (w : World) (c1 c2 c3 : Array Value) (t1 t2 t3 : TypeId) : Blk (((w.alloc (Obj.cells c1 t1)).alloc (Obj.cells c2 t2)).alloc (Obj.cells c3 t3)) (w.heap.size + 1) c2 t2 := by
  have := (Blk.new (w.alloc (Obj.cells c1 t1)) c2 t2).below ((Below.refl _ _).alloc (Nat.le_refl _) (Obj.cells c3 t3))
  rwa [show (w.alloc (Obj.cells c1 t1)).heap.size = w.heap.size + 1 from by simp] at this
theorem blk3c (w : World) (c1 c2 c3 : Array Value) (t1 t2 t3 : TypeId) : Blk (((w.alloc (Obj.cells c1 t1)).alloc (Obj.cells c2 t2)).alloc (Obj.cells c3 t3)) (w.heap.size + 2) c3 t3 := by
  have := Blk.new ((w.alloc (Obj.cells c1 t1)).alloc (Obj.cells c2 t2)) c3 t3
  rwa [show ((w.alloc (Obj.cells c1 t1)).alloc (Obj.cells c2 t2)).heap.size = w.heap.size + 2 from by simp] at this
theorem blk3w (w : World) (c1 c2 c3 : Array Value) (t1 t2 t3 : TypeId) : Below w.heap.size w (((w.alloc (Obj.cells c1 t1)).alloc (Obj.cells c2 t2)).alloc (Obj.cells c3 t3)) := (((Below.refl _ _).alloc (Nat.le_refl _) _).alloc (by simp) _).alloc (by simp; omega) _
set_option maxHeartbeats 4000000 in
theorem tree_step (s : ScS) (sn : ByteArray) (ma ea ta : Option Addr) (mn mc en ec tn tc b : Nat) (n : Nat) (IH : ∀ t nm v w, TrW n w v t → KnS s w b → ScIn w (.agg #[.string sn, .slice ma mn mc, .slice ea en ec, .slice ta tn tc]) s → Calls Try.prog 23 #[.agg #[.string sn, .slice ma mn mc, .slice ea en ec, .slice ta tn tc, .map (some b)], .string nm, v] w (MesP s (msgV n s nm t) b w))
    (t : Tr) (k : Int) (tnm : ByteArray) (v : Value) (w : World) (ht : TrW n w v t) (hk : KnS s w b) (hs : ScIn w (.agg #[.string sn, .slice ma mn mc, .slice ea en ec, .slice ta tn tc]) s) : Calls Try.prog 64 #[.agg #[.string sn, .slice ma mn mc, .slice ea en ec, .slice ta tn tc, .map (some b)], .agg #[.int .i64 k, .string tnm], v] w (MesP s (treeV (msgV n s) k tnm t) b w) := by
  obtain ⟨m, a1, c1, a2, c2, -, rfl, -, -, hsz, -⟩ := ht.open
  have HM : Hid (∀ W, Below w.heap.size w W → Calls Try.prog 23 #[.agg #[.string sn, .slice ma mn mc, .slice ea en ec, .slice ta tn tc, .map (some b)], .string tnm, .agg #[.int .i64 t.kind, .int .i64 t.n, .string t.s, .slice a1 t.es.length c1, .slice a2 t.rest.length c2]] W (MesP s (msgV n s tnm t) b W)) := fun W hW => IH t tnm _ W (ht.cel (Cel.ofBelow hW)) (hk.below hW) (hs.below hW)
  have HK : Hid (KnS s w b) := hk
  have HX : Hid (∃ X, treeV (msgV n s) k tnm t = X) := ⟨_, rfl⟩
  obtain ⟨X, hX⟩ := HX.out
  have HV : Hid (treeV (msgV n s) k tnm t = X) := hX
  rw [hX]
  clear hX HX ht hk hs
  generalize t.es.length = n1 at *
  generalize t.rest.length = n2 at *
  obtain ⟨K, hK⟩ : ∃ z, t.kind = z := ⟨_, rfl⟩
  obtain ⟨N, hN⟩ : ∃ z, t.n = z := ⟨_, rfl⟩
  obtain ⟨S, hS⟩ : ∃ z, t.s = z := ⟨_, rfl⟩
  have HT : Hid (t.kind = K ∧ t.n = N ∧ t.s = S) := ⟨hK, hN, hS⟩
  rw [hK, hN, hS] at HM
  rw [hS] at hsz
  rw [hK, hN, hS]
  clear hK hN hS
  have BF := blk3a w #[.string sn, .slice ma mn mc, .slice ea en ec, .slice ta tn tc, .map (some b)] #[.int .i64 k, .string tnm] #[.int .i64 K, .int .i64 N, .string S, .slice a1 n1 c1, .slice a2 n2 c2] 76 41 30
  have BY := blk3b w #[.string sn, .slice ma mn mc, .slice ea en ec, .slice ta tn tc, .map (some b)] #[.int .i64 k, .string tnm] #[.int .i64 K, .int .i64 N, .string S, .slice a1 n1 c1, .slice a2 n2 c2] 76 41 30
  have BT := blk3c w #[.string sn, .slice ma mn mc, .slice ea en ec, .slice ta tn tc, .map (some b)] #[.int .i64 k, .string tnm] #[.int .i64 K, .int .i64 N, .string S, .slice a1 n1 c1, .slice a2 n2 c2] 76 41 30
  have hbw := blk3w w #[.string sn, .slice ma mn mc, .slice ea en ec, .slice ta tn tc, .map (some b)] #[.int .i64 k, .string tnm] #[.int .i64 K, .int .i64 N, .string S, .slice a1 n1 c1, .slice a2 n2 c2] 76 41 30
  obtain ⟨kt, hkt⟩ : ∃ z, kindT k = z := ⟨_, rfl⟩
  have HKT : Hid (kindT k = kt) := hkt
  have HKC : Hid (∀ W, Calls Try.prog 48 #[.agg #[.int .i64 k, .string tnm]] W fun e w' => e = .returned (.int .i64 kt) ∧ Below W.heap.size W w') := fun W => by
    have h1 := kindOf_any k tnm W
    rw [hkt] at h1
    exact h1
  clear hkt
  go_enter Try.func64, Try.ntmps64
  go_wp2_with fail
  obtain ⟨b0, hb0⟩ : ∃ z, w.heap.size = z := ⟨_, rfl⟩
  have HBZ : Hid (w.heap.size = b0) := hb0
  generalize (((w.alloc (Obj.cells #[.string sn, .slice ma mn mc, .slice ea en ec, .slice ta tn tc, .map (some b)] 76)).alloc (Obj.cells #[.int .i64 k, .string tnm] 41)).alloc (Obj.cells #[.int .i64 K, .int .i64 N, .string S, .slice a1 n1 c1, .slice a2 n2 c2] 30)) = WA at *
  rw [hb0] at BF BY BT
  simp only [hb0]
  clear hb0
  have t0 := (BT.cell 0).trans rfl
  have y0 := (BY.cell 0).trans rfl
  have y1 := (BY.cell 1).trans rfl
  have k0 := kept_cellW t0
  have k1 := kept_cellW y0
  have k2 := kept_cellW y1
  clear t0 y0 y1
  have HKD : Hid (∀ W1, Below WA.heap.size WA W1 → Calls Try.prog 48 #[.agg #[.int .i64 k, .string tnm]] W1 fun e w' => e = .returned (.int .i64 kt) ∧ Below WA.heap.size WA w') := fun W1 hW1 => by
    refine (HKC.out W1).mono ?_
    rintro e W' ⟨rfl, hb⟩
    exact ⟨rfl, hW1.trans (hb.mono hW1.size)⟩
  have FIN : Hid (∀ (W : World) (Y : Int), Below WA.heap.size WA W → X = Y → MesP s X b w (.returned (.int .i64 Y)) W) := fun W Y hW hY => by
    have h1 : Below w.heap.size w W := hbw.trans (hW.mono hbw.size)
    exact MesP.of hY.symm (Kp.ofBelow h1) (HK.out.below h1)
  haveI := nonempty_qb (Below.refl WA.heap.size WA)
  refine wp_region_qb (Below.refl WA.heap.size WA) (by kernel_rfl) (by kernel_rfl) ?_
  repeat (go_big_quiet_step (first | (go_at_call 48; exact qb_call HKD.out)))
  refine wpQuiet_nil ?_
  rintro W1 ⟨⟨_, hW1⟩, rfl⟩
  clear k0 k1 k2 HKD HKC
  have BF1 := BF.below hW1
  have BY1 := BY.below hW1
  have BT1 := BT.below hW1
  have f0 := (BF1.cell 0).trans rfl
  have f1 := (BF1.cell 1).trans rfl
  have f2 := (BF1.cell 2).trans rfl
  have f3 := (BF1.cell 3).trans rfl
  have f4 := (BF1.cell 4).trans rfl
  have y0 := (BY1.cell 0).trans rfl
  have y1 := (BY1.cell 1).trans rfl
  have t0 := (BT1.cell 0).trans rfl
  have t1 := (BT1.cell 1).trans rfl
  have t2 := (BT1.cell 2).trans rfl
  have t3 := (BT1.cell 3).trans rfl
  have t4 := (BT1.cell 4).trans rfl
  clear BF BY BT BF1 BY1 BT1
  by_cases hne : K = kt
  rotate_left
  · have hq : (K != kt) = true := by simpa using hne
    have hX : X = 8 := by rw [← HV.out, treeV, HT.out.1, HKT.out, if_pos hne]
    have HX : Hid (X = 8) := hX
    clear hne hX
    go_wp2_with fail
    go_ret
    exact FIN.out _ _ hW1 HX.out
  · have hq : (K != kt) = false := by simpa using hne
    by_cases hK1 : K = 1
    · subst hK1
      have hk4 : ¬ k = 4 := fun h => by have := HKT.out; rw [h, ← hne] at this; revert this; decide
      have e4 : (k == 4) = false := by simpa using hk4
      cases hR : nmrB k N with
      | false =>
        have HX : Hid (X = 11) := (by rw [← HV.out, treeV, HT.out.1, HKT.out, if_neg (by simpa using hne), if_pos ⟨rfl, by rw [HT.out.2.1]; exact hR⟩] : X = 11)
        have HN : Hid (Calls Try.prog 14 #[.agg #[.int .i64 k, .string tnm], .int .i64 N] W1 fun e w' => e = .returned (.bool false) ∧ Below W1.heap.size W1 w') := (by have h1 := number_any k N tnm W1; rw [hR] at h1; exact h1 : Calls Try.prog _ _ W1 _)
        clear hR hne hk4
        go_wp2_with fail
        refine HN.out.mono ?_
        rintro e W2 ⟨rfl, hb2⟩
        have hW2 := hW1.trans (hb2.mono hW1.size)
        clear HN hb2 f0 f1 f2 f3 f4 y0 y1 t0 t1 t2 t3 t4
        go_wp2_with fail
        go_ret
        exact FIN.out _ _ hW2 HX.out
      | true =>
        have HX : Hid (X = 0) := (by rw [← HV.out, treeV, HT.out.1, HKT.out, if_neg (by simpa using hne), if_neg (by rw [HT.out.2.1, hR]; simp), if_neg (by simp [hk4]), if_neg (by decide)] : X = 0)
        have HN : Hid (Calls Try.prog 14 #[.agg #[.int .i64 k, .string tnm], .int .i64 N] W1 fun e w' => e = .returned (.bool true) ∧ Below W1.heap.size W1 w') := (by have h1 := number_any k N tnm W1; rw [hR] at h1; exact h1 : Calls Try.prog _ _ W1 _)
        clear hR hne hk4
        go_wp2_with fail
        refine HN.out.mono ?_
        rintro e W2 ⟨rfl, hb2⟩
        have hW2 := hW1.trans (hb2.mono hW1.size)
        have y0 := (hb2.cell (World.block_lt_of_cell? _ _ y0)).trans y0
        have t0 := (hb2.cell (World.block_lt_of_cell? _ _ t0)).trans t0
        clear HN hb2 f0 f1 f2 f3 f4 y1 t1 t2 t3 t4
        go_wp2_with fail
        go_ret
        exact FIN.out _ _ hW2 HX.out
    · have e1 : (K == 1) = false := by simpa using hK1
      by_cases hk4 : k = 4
      · subst hk4
        have h3 : (K == 3) = false := by have := HKT.out; rw [← hne] at this; rw [← this]; decide
        cases hR : validB S.data.toList with
        | false =>
          have HX : Hid (X = 9) := (by rw [← HV.out, treeV, HT.out.1, HKT.out, if_neg (by simpa using hne), if_neg (by simp [hK1]), if_pos ⟨rfl, by rw [HT.out.2.2]; exact hR⟩] : X = 9)
          have HN : Hid (Calls Try.prog 79 #[.string S] W1 fun e w' => e = .returned (.bool false) ∧ Below W1.heap.size W1 w') := (by have h1 := valid_any S W1 hsz; rw [hR] at h1; exact h1 : Calls Try.prog _ _ W1 _)
          clear hR hne hK1
          go_wp2_with fail
          refine HN.out.mono ?_
          rintro e W2 ⟨rfl, hb2⟩
          have hW2 := hW1.trans (hb2.mono hW1.size)
          clear HN hb2 f0 f1 f2 f3 f4 y0 y1 t0 t1 t2 t3 t4
          go_wp2_with fail
          go_ret
          exact FIN.out _ _ hW2 HX.out
        | true =>
          have HX : Hid (X = 0) := (by rw [← HV.out, treeV, HT.out.1, HKT.out, if_neg (by simpa using hne), if_neg (by simp [hK1]), if_neg (by rw [HT.out.2.2, hR]; simp), if_neg (by simpa using h3)] : X = 0)
          have HN : Hid (Calls Try.prog 79 #[.string S] W1 fun e w' => e = .returned (.bool true) ∧ Below W1.heap.size W1 w') := (by have h1 := valid_any S W1 hsz; rw [hR] at h1; exact h1 : Calls Try.prog _ _ W1 _)
          clear hR hne hK1
          go_wp2_with fail
          refine HN.out.mono ?_
          rintro e W2 ⟨rfl, hb2⟩
          have hW2 := hW1.trans (hb2.mono hW1.size)
          have t0 := (hb2.cell (World.block_lt_of_cell? _ _ t0)).trans t0
          clear HN hb2 f0 f1 f2 f3 f4 y0 y1 t1 t2 t3 t4
          go_wp2_with fail
          go_ret
          exact FIN.out _ _ hW2 HX.out
      · have e4 : (k == 4) = false := by simpa using hk4
        by_cases hK3 : K = 3
        · subst hK3
          have HX : Hid (X = msgV n s tnm t) := (by rw [← HV.out, treeV, HT.out.1, HKT.out, if_neg (by simpa using hne), if_neg (by simp), if_neg (by simp [hk4]), if_pos rfl] : X = msgV n s tnm t)
          have hbW1 := hbw.trans (hW1.mono hbw.size)
          have HN := HM.out W1 hbW1
          rw [← HX.out] at HN
          have HN2 : Hid (Calls Try.prog 23 #[.agg #[.string sn, .slice ma mn mc, .slice ea en ec, .slice ta tn tc, .map (some b)], .string tnm, .agg #[.int .i64 3, .int .i64 N, .string S, .slice a1 n1 c1, .slice a2 n2 c2]] W1 (MesP s X b W1)) := HN
          clear HN hne hK1 hk4 HX
          go_wp2_with fail
          refine Calls.mono HN2.out ?_
          rintro e W2 ⟨rfl, hk2, hn2⟩
          have HF : Hid (MesP s X b w (.returned (.int .i64 X)) W2) := MesP.of rfl ((Kp.ofBelow hbW1).trans hk2) hn2
          clear HN2 hk2 hn2 f0 f1 f2 f3 f4 y0 y1 t0 t1 t2 t3 t4
          go_wp2_with fail
          go_ret
          exact HF.out
        · have e3 : (K == 3) = false := by simpa using hK3
          have HX : Hid (X = 0) := (by rw [← HV.out, treeV, HT.out.1, HKT.out, if_neg (by simpa using hne), if_neg (by simp [hK1]), if_neg (by simp [hk4]), if_neg hK3] : X = 0)
          clear hne hK1 hk4 hK3
          go_wp2_with fail
          go_ret
          exact FIN.out _ _ hW1 HX.out
end Go.Proofs.Ytiiegphbhfiffaa
/- Whether an entry is one of a message. -/
namespace Go.Proofs.Ytiiegphbhfiffaa
open Go.ChangeShapes Go.WideShapes Go.ChangeAt Go.RowKit
set_option linter.unusedVariables false
set_option linter.unusedSimpArgs false
set_option maxRecDepth 20000

set_option maxHeartbeats 8000000 in
theorem entry_step (s : ScS) (sn : ByteArray) (ma ea ta : Option Addr) (mn mc en ec tn tc b : Nat) (n : Nat) (IH : ∀ t nm v w, TrW n w v t → KnS s w b → ScIn w (.agg #[.string sn, .slice ma mn mc, .slice ea en ec, .slice ta tn tc]) s → Calls Try.prog 23 #[.agg #[.string sn, .slice ma mn mc, .slice ea en ec, .slice ta tn tc, .map (some b)], .string nm, v] w (MesP s (msgV n s nm t) b w))
    (e : Int × List Tr) (fs : List FlS) (mnm : ByteArray) (fa ra xa : Option Addr) (fl fc rl rc xc : Nat) (w : World) (hx : TrsR n w (.slice xa e.2.length xc) e.2) (hxc : e.2.length ≤ xc) (hxm : xc ≤ maxLen) (hf : RowG w (.slice fa fl fc) 5 (flRows fs)) (hk : KnS s w b) (hs : ScIn w (.agg #[.string sn, .slice ma mn mc, .slice ea en ec, .slice ta tn tc]) s) :
    Calls Try.prog 43 #[.agg #[.string sn, .slice ma mn mc, .slice ea en ec, .slice ta tn tc, .map (some b)], .agg #[.string mnm, .slice fa fl fc, .slice ra rl rc], .agg #[.int .i64 e.1, .slice xa e.2.length xc]] w (MesP s (entV (msgV n s) fs e) b w) := by
  obtain ⟨Xl, hXl⟩ : ∃ z, e.2.length = z := ⟨_, rfl⟩
  obtain ⟨e1, he1⟩ : ∃ z, e.1 = z := ⟨_, rfl⟩
  rw [hXl] at hxc hx ⊢
  rw [he1]
  unfold maxLen at hxm
  have HXL : Hid (e.2.length = Xl) := hXl
  have HE1 : Hid (e.1 = e1) := he1
  clear hXl he1
  have BF := blk3a w #[.string sn, .slice ma mn mc, .slice ea en ec, .slice ta tn tc, .map (some b)] #[.string mnm, .slice fa fl fc, .slice ra rl rc] #[.int .i64 e1, .slice xa Xl xc] 76 47 61
  have BE := blk3c w #[.string sn, .slice ma mn mc, .slice ea en ec, .slice ta tn tc, .map (some b)] #[.string mnm, .slice fa fl fc, .slice ra rl rc] #[.int .i64 e1, .slice xa Xl xc] 76 47 61
  have hbw := blk3w w #[.string sn, .slice ma mn mc, .slice ea en ec, .slice ta tn tc, .map (some b)] #[.string mnm, .slice fa fl fc, .slice ra rl rc] #[.int .i64 e1, .slice xa Xl xc] 76 47 61
  obtain ⟨X, hX⟩ : ∃ X, entV (msgV n s) fs e = X := ⟨_, rfl⟩
  have HV : Hid (entV (msgV n s) fs e = X) := hX
  rw [hX]
  clear hX
  have HK : Hid (KnS s w b) := hk
  have HX : Hid (TrsR n w (.slice xa Xl xc) e.2) := hx
  have HS : Hid (ScIn w (.agg #[.string sn, .slice ma mn mc, .slice ea en ec, .slice ta tn tc]) s) := hs
  have HFC : Hid (Calls Try.prog 47 #[.agg #[.string mnm, .slice fa fl fc, .slice ra rl rc], .int .i64 e1] (((w.alloc (Obj.cells #[.string sn, .slice ma mn mc, .slice ea en ec, .slice ta tn tc, .map (some b)] 76)).alloc (Obj.cells #[.string mnm, .slice fa fl fc, .slice ra rl rc] 47)).alloc (Obj.cells #[.int .i64 e1, .slice xa Xl xc] 61)) fun e' w' => e' = .returned (.tuple #[flV ((fldOf fs e1).getD zeroF), .bool (fldOf fs e1).isSome]) ∧ Below (((w.alloc (Obj.cells #[.string sn, .slice ma mn mc, .slice ea en ec, .slice ta tn tc, .map (some b)] 76)).alloc (Obj.cells #[.string mnm, .slice fa fl fc, .slice ra rl rc] 47)).alloc (Obj.cells #[.int .i64 e1, .slice xa Xl xc] 61)).heap.size (((w.alloc (Obj.cells #[.string sn, .slice ma mn mc, .slice ea en ec, .slice ta tn tc, .map (some b)] 76)).alloc (Obj.cells #[.string mnm, .slice fa fl fc, .slice ra rl rc] 47)).alloc (Obj.cells #[.int .i64 e1, .slice xa Xl xc] 61)) w') := cfield_any (hf.below hbw)
  clear hk hx hs hf
  cases hfo : fldOf fs e1 with
  | none =>
    have HX7 : Hid (7 = X) := (by rw [← HV.out, entV, HE1.out, hfo] : 7 = X)
    rw [hfo] at HFC
    simp only [flV, zeroF, Option.getD_none, Option.isSome_none] at HFC
    clear hfo BF BE
    go_enter Try.func43, Try.ntmps43
    go_wp2_with fail
    refine HFC.out.mono ?_
    rintro ee w1 ⟨rfl, hb1⟩
    have hbw1 : Below w.heap.size w w1 := hbw.trans (hb1.mono hbw.size)
    have hbw2 : Below w.heap.size w (w1.alloc (Obj.cells #[.string ⟨#[]⟩, .int .i64 0, .int .i64 0, .int .i64 0, .string ⟨#[]⟩] 49)) := hbw1.alloc hbw1.size _
    clear HFC hb1 hbw hbw1
    go_wp2_with fail
    go_ret
    exact MesP.of HX7.out (Kp.ofBelow hbw2) (HK.out.below hbw2)
  | some f =>
    have HFO : Hid (fldOf fs e.1 = some f) := (by rw [HE1.out]; exact hfo : fldOf fs e.1 = some f)
    rw [hfo] at HFC
    simp only [flV, Option.getD_some, Option.isSome_some] at HFC
    clear hfo
    obtain ⟨f1, f2, lb, fk, ft⟩ := f
    simp only at HFC
    obtain ⟨b0, hb0⟩ : ∃ z, w.heap.size = z := ⟨_, rfl⟩
    have HBZ : Hid (w.heap.size = b0) := hb0
    go_enter Try.func43, Try.ntmps43
    go_wp2_with fail
    refine HFC.out.mono ?_
    rintro ee w1 ⟨rfl, hb1⟩
    have hbw1 : Below w.heap.size w w1 := hbw.trans (hb1.mono hbw.size)
    have al2 : Below w1.heap.size w1 (w1.alloc (Obj.cells #[.string f1, .int .i64 f2, .int .i64 lb, .int .i64 fk, .string ft] 49)) := (Below.refl _ _).alloc (Nat.le_refl _) _
    have hbw2 : Below w.heap.size w (w1.alloc (Obj.cells #[.string f1, .int .i64 f2, .int .i64 lb, .int .i64 fk, .string ft] 49)) := hbw1.trans (al2.mono hbw1.size)
    have BF2 : Blk (w1.alloc (Obj.cells #[.string f1, .int .i64 f2, .int .i64 lb, .int .i64 fk, .string ft] 49)) w.heap.size #[.string sn, .slice ma mn mc, .slice ea en ec, .slice ta tn tc, .map (some b)] 76 := (BF.below hb1).below al2
    have BE2 : Blk (w1.alloc (Obj.cells #[.string f1, .int .i64 f2, .int .i64 lb, .int .i64 fk, .string ft] 49)) (w.heap.size + 2) #[.int .i64 e1, .slice xa Xl xc] 61 := (BE.below hb1).below al2
    have BL2 : Blk (w1.alloc (Obj.cells #[.string f1, .int .i64 f2, .int .i64 lb, .int .i64 fk, .string ft] 49)) w1.heap.size #[.string f1, .int .i64 f2, .int .i64 lb, .int .i64 fk, .string ft] 49 := Blk.new w1 _ _
    have HK2 : Hid (KnS s (w1.alloc (Obj.cells #[.string f1, .int .i64 f2, .int .i64 lb, .int .i64 fk, .string ft] 49)) b) := HK.out.below hbw2
    have HX2 : Hid (TrsR n (w1.alloc (Obj.cells #[.string f1, .int .i64 f2, .int .i64 lb, .int .i64 fk, .string ft] 49)) (.slice xa Xl xc) e.2) := HX.out.celT (Cel.ofBelow hbw2)
    have HS2 : Hid (ScIn (w1.alloc (Obj.cells #[.string f1, .int .i64 f2, .int .i64 lb, .int .i64 fk, .string ft] 49)) (.agg #[.string sn, .slice ma mn mc, .slice ea en ec, .slice ta tn tc]) s) := HS.out.below hbw2
    have HKW : Hid (Kp (fun q => q = b) w (w1.alloc (Obj.cells #[.string f1, .int .i64 f2, .int .i64 lb, .int .i64 fk, .string ft] 49))) := Kp.ofBelow hbw2
    have q1 := (BE2.cell 1).trans rfl
    have r2 := (BL2.cell 2).trans rfl
    clear HFC hb1 hbw hbw1 al2 BF BE HK HX HS
    simp only [hb0] at BF2 BE2 q1 ⊢
    clear hb0
    by_cases h4 : lb ≠ 3 ∧ 1 < Xl
    · have d1 : (lb != 3) = true := by simpa using h4.1
      have d2 : decide (1 < (Xl : Int)) = true := by simp; omega
      have HX4 : Hid (4 = X) := (by rw [← HV.out, entV, HFO.out]; simp only [HXL.out]; rw [if_pos h4] : 4 = X)
      clear h4
      go_wp2_with fail
      go_ret
      exact MesP.of HX4.out HKW.out HK2.out
    · have HXE : Hid (X = errF (e.2.map (oneV (msgV n s) ⟨f1, f2, lb, fk, ft⟩))) := (by rw [← HV.out, entV, HFO.out]; simp only [HXL.out]; rw [if_neg h4] : X = errF (e.2.map (oneV (msgV n s) ⟨f1, f2, lb, fk, ft⟩)))
      rcases Decidable.em (lb = 3) with h3 | h3
      · have d1 : (lb != 3) = false := by simpa using h3
        clear h3 h4
        go_wp2_with fail
        generalize (w1.alloc (Obj.cells #[.string f1, .int .i64 f2, .int .i64 lb, .int .i64 fk, .string ft] 49)) = W2 at *
        obtain ⟨bL, hbL⟩ : ∃ z, w1.heap.size = z := ⟨_, rfl⟩
        rw [hbL] at BL2
        simp only [hbL]
        clear hbL d1
        clear q1 r2
        go_loopw [33] (fun iv wr => ∃ i : Nat, iv = .int .i64 (i : Int) ∧ i ≤ Xl ∧ Hid (errF ((e.2.take i).map (oneV (msgV n s) ⟨f1, f2, lb, fk, ft⟩)) = 0) ∧ Kp (fun q => q = b) W2 wr ∧ Hid (KnS s wr b)) (fun iv _ => Xl - (intOf iv).toNat)
        case atStart => exact ⟨0, rfl, by omega, (by simp [errF] : errF ((e.2.take 0).map (oneV (msgV n s) ⟨f1, f2, lb, fk, ft⟩)) = 0), Kp.refl _ _, HK2⟩
        case round =>
          obtain ⟨i, rfl, hi, HI, hkp, HKR⟩ := hrel
          have hcel : Cel W2 wr := HK2.out.cel hkp
          have BFr := BF2.cel hcel
          have BLr := BL2.cel hcel
          by_cases hlt : i < Xl
          · obtain ⟨x, hx⟩ : ∃ r, e.2[i]? = some r := ⟨_, List.getElem?_eq_getElem (by rw [HXL.out]; exact hlt)⟩
            obtain ⟨gx, ox, a1, n1, c1, a2, n2, c2, rfl, x0, x1, x2, x3, x4, hxw⟩ := trsR_get (HX2.out.celT hcel) hx
            obtain ⟨K, hK⟩ : ∃ z, x.kind = z := ⟨_, rfl⟩
            obtain ⟨N, hN⟩ : ∃ z, x.n = z := ⟨_, rfl⟩
            obtain ⟨S, hS⟩ : ∃ z, x.s = z := ⟨_, rfl⟩
            rw [hK] at x0
            rw [hN] at x1
            rw [hS] at x2
            rw [hK, hN, hS] at hxw
            have al : Below wr.heap.size wr (wr.alloc (Obj.cells #[.int .i64 K, .int .i64 N, .string S, .slice a1 n1 c1, .slice a2 n2 c2] 30)) := (Below.refl _ _).alloc (Nat.le_refl _) _
            have HPT : Hid (x.kind = K ∧ x.n = N ∧ x.s = S ∧ x.es.length = n1 ∧ x.rest.length = n2) := hxw.parts
            obtain ⟨Y, hY⟩ : ∃ z, treeV (msgV n s) fk ft x = z := ⟨_, rfl⟩
            have HY : Hid (treeV (msgV n s) fk ft x = Y) := hY
            have HTC : Hid (Calls Try.prog 64 #[.agg #[.string sn, .slice ma mn mc, .slice ea en ec, .slice ta tn tc, .map (some b)], .agg #[.int .i64 fk, .string ft], .agg #[.int .i64 K, .int .i64 N, .string S, .slice a1 n1 c1, .slice a2 n2 c2]] (wr.alloc (Obj.cells #[.int .i64 K, .int .i64 N, .string S, .slice a1 n1 c1, .slice a2 n2 c2] 30)) (MesP s Y b (wr.alloc (Obj.cells #[.int .i64 K, .int .i64 N, .string S, .slice a1 n1 c1, .slice a2 n2 c2] 30)))) := (by
              have h1 := tree_step s sn ma ea ta mn mc en ec tn tc b n IH x fk ft _ (wr.alloc (Obj.cells #[.int .i64 K, .int .i64 N, .string S, .slice a1 n1 c1, .slice a2 n2 c2] 30)) (hxw.cel (Cel.ofBelow al)) (HKR.out.below al) ((HS2.out.cel hcel).below al)
              rw [hY] at h1
              exact h1 : Calls Try.prog _ _ (wr.alloc (Obj.cells #[.int .i64 K, .int .i64 N, .string S, .slice a1 n1 c1, .slice a2 n2 c2] 30)) _)
            have HIX : Hid (e.2[i]? = some x) := hx
            have BX : Blk (wr.alloc (Obj.cells #[.int .i64 K, .int .i64 N, .string S, .slice a1 n1 c1, .slice a2 n2 c2] 30)) wr.heap.size #[.int .i64 K, .int .i64 N, .string S, .slice a1 n1 c1, .slice a2 n2 c2] 30 := Blk.new wr _ _
            have BFx := BFr.below al
            have BLx := BLr.below al
            have g0 := (BFx.cell 0).trans rfl
            have g1 := (BFx.cell 1).trans rfl
            have g2 := (BFx.cell 2).trans rfl
            have g3 := (BFx.cell 3).trans rfl
            have g4 := (BFx.cell 4).trans rfl
            have l3 := (BLx.cell 3).trans rfl
            have l4 := (BLx.cell 4).trans rfl
            clear hK hN hS hY hx hxw
            go_wp2_with fail
            refine Calls.mono HTC.out ?_
            rintro ee W4 ⟨rfl, hk4, hn4⟩
            have hcx : Cel (wr.alloc (Obj.cells #[.int .i64 K, .int .i64 N, .string S, .slice a1 n1 c1, .slice a2 n2 c2] 30)) W4 := (HKR.out.below al).cel hk4
            have BX4 := BX.cel hcx
            have BL4 := BLx.cel hcx
            have hkp4 : Kp (fun q => q = b) W2 W4 := (hkp.trans (Kp.ofBelow al)).trans hk4
            have HN4 : Hid (KnS s W4 b) := hn4
            have HKW4 : Hid (Kp (fun q => q = b) w W4) := HKW.out.trans hkp4
            clear HTC hk4 hn4 hcx BX BFx BLx g0 g1 g2 g3 g4 l3 l4 x0 x1 x2 x3 x4 al BFr BLr hkp HKR
            obtain ⟨bx, hbx⟩ : ∃ z, wr.heap.size = z := ⟨_, rfl⟩
            rw [hbx] at BX4
            simp only [hbx]
            clear hbx
            have j0 := (BX4.cell 0).trans rfl
            have j1 := (BX4.cell 1).trans rfl
            have j2 := (BX4.cell 2).trans rfl
            have j3 := (BX4.cell 3).trans rfl
            have j4 := (BX4.cell 4).trans rfl
            have l2 := (BL4.cell 2).trans rfl
            by_cases hY0 : Y = 0
            · subst hY0
              by_cases hl1 : lb = 1
              · have d5 : (lb == 1) = true := by simpa using hl1
                cases hZ : zroB x with
                | true =>
                  have HZ : Hid (Calls Try.prog 65 #[.agg #[.int .i64 K, .int .i64 N, .string S, .slice a1 n1 c1, .slice a2 n2 c2]] W4 fun e w' => e = .returned (.bool true) ∧ Below W4.heap.size W4 w') := (by
                    obtain ⟨p1, p2, p3, p4, p5⟩ := HPT.out
                    have h1 := zero_any x a1 a2 n1 c1 n2 c2 W4 p4.symm p5.symm
                    rw [p1, p2, p3, hZ] at h1
                    exact h1 : Calls Try.prog _ _ W4 _)
                  have HX12 : Hid (12 = X) := (by
                    have h1 : oneV (msgV n s) ⟨f1, f2, lb, fk, ft⟩ x = 12 := by
                      rw [oneV, if_neg (by simp [HY.out]), if_pos ⟨hl1, hZ⟩]
                    rw [HXE.out, errF_hit HIX.out HI.out (by rw [h1]; decide), h1] : 12 = X)
                  clear hZ hl1
                  go_wp2_with fail
                  refine HZ.out.mono ?_
                  rintro ee W5 ⟨rfl, hb5⟩
                  have HF : Hid (MesP s X b w (.returned (.int .i64 12)) W5) := MesP.of HX12.out (HKW4.out.trans (Kp.ofBelow hb5)) (HN4.out.below hb5)
                  clear HZ hb5 j0 j1 j2 j3 j4 l2
                  go_wp2_with fail
                  go_ret
                  exact HF.out
                | false =>
                  have HZ : Hid (Calls Try.prog 65 #[.agg #[.int .i64 K, .int .i64 N, .string S, .slice a1 n1 c1, .slice a2 n2 c2]] W4 fun e w' => e = .returned (.bool false) ∧ Below W4.heap.size W4 w') := (by
                    obtain ⟨p1, p2, p3, p4, p5⟩ := HPT.out
                    have h1 := zero_any x a1 a2 n1 c1 n2 c2 W4 p4.symm p5.symm
                    rw [p1, p2, p3, hZ] at h1
                    exact h1 : Calls Try.prog _ _ W4 _)
                  have HI2 : Hid (errF ((e.2.take (i + 1)).map (oneV (msgV n s) ⟨f1, f2, lb, fk, ft⟩)) = 0) := errF_on HIX.out HI.out (by rw [oneV, if_neg (by simp [HY.out]), if_neg (by rw [hZ]; simp)])
                  clear hZ hl1
                  go_wp2_with fail
                  refine HZ.out.mono ?_
                  rintro ee W5 ⟨rfl, hb5⟩
                  have HN5 : Hid (KnS s W5 b) := HN4.out.below hb5
                  have hkp5 : Kp (fun q => q = b) W2 W5 := hkp4.trans (Kp.ofBelow hb5)
                  clear HZ hb5 j0 j1 j2 j3 j4 l2 HI HN4 hkp4 HKW4
                  go_wp2_with fail
                  go_roundw
                  case rel => exact ⟨i + 1, by go_num, by omega, HI2, hkp5, HN5⟩
                  case measure => simp [intOf]; omega
              · have d5 : (lb == 1) = false := by simpa using hl1
                have HI2 : Hid (errF ((e.2.take (i + 1)).map (oneV (msgV n s) ⟨f1, f2, lb, fk, ft⟩)) = 0) := errF_on HIX.out HI.out (by rw [oneV, if_neg (by simp [HY.out]), if_neg (by simp [hl1])])
                clear hl1
                go_wp2_with fail
                clear j0 j1 j2 j3 j4 l2 HI d5
                go_roundw
                case rel => exact ⟨i + 1, by go_num, by omega, HI2, hkp4, HN4⟩
                case measure => simp [intOf]; omega
            · have d4 : (Y != 0) = true := by simpa using hY0
              have HXY : Hid (Y = X) := (by
                have h1 : oneV (msgV n s) ⟨f1, f2, lb, fk, ft⟩ x = Y := by
                  rw [oneV, if_pos (by simpa [HY.out] using hY0)]
                  exact HY.out
                rw [HXE.out, errF_hit HIX.out HI.out (by rw [h1]; exact hY0), h1] : Y = X)
              clear hY0
              go_wp2_with fail
              go_ret
              exact MesP.of HXY.out HKW4.out HN4.out
          · have HX0 : Hid (0 = X) := (by
              have h1 := HI.out
              rw [List.take_of_length_le (by rw [HXL.out]; omega)] at h1
              rw [HXE.out, h1] : 0 = X)
            clear BFr BLr HI
            go_wp2_with fail
            go_ret
            exact MesP.of HX0.out (HKW.out.trans hkp) HKR.out
      · have d1 : (lb != 3) = true := by simpa using h3
        have d2 : decide (1 < (Xl : Int)) = false := by simp; have := fun h => h4 ⟨h3, h⟩; omega
        clear h3 h4
        go_wp2_with fail
        generalize (w1.alloc (Obj.cells #[.string f1, .int .i64 f2, .int .i64 lb, .int .i64 fk, .string ft] 49)) = W2 at *
        obtain ⟨bL, hbL⟩ : ∃ z, w1.heap.size = z := ⟨_, rfl⟩
        rw [hbL] at BL2
        simp only [hbL]
        clear hbL d1
        clear d2
        clear q1 r2
        go_loopw [33] (fun iv wr => ∃ i : Nat, iv = .int .i64 (i : Int) ∧ i ≤ Xl ∧ Hid (errF ((e.2.take i).map (oneV (msgV n s) ⟨f1, f2, lb, fk, ft⟩)) = 0) ∧ Kp (fun q => q = b) W2 wr ∧ Hid (KnS s wr b)) (fun iv _ => Xl - (intOf iv).toNat)
        case atStart => exact ⟨0, rfl, by omega, (by simp [errF] : errF ((e.2.take 0).map (oneV (msgV n s) ⟨f1, f2, lb, fk, ft⟩)) = 0), Kp.refl _ _, HK2⟩
        case round =>
          obtain ⟨i, rfl, hi, HI, hkp, HKR⟩ := hrel
          have hcel : Cel W2 wr := HK2.out.cel hkp
          have BFr := BF2.cel hcel
          have BLr := BL2.cel hcel
          by_cases hlt : i < Xl
          · obtain ⟨x, hx⟩ : ∃ r, e.2[i]? = some r := ⟨_, List.getElem?_eq_getElem (by rw [HXL.out]; exact hlt)⟩
            obtain ⟨gx, ox, a1, n1, c1, a2, n2, c2, rfl, x0, x1, x2, x3, x4, hxw⟩ := trsR_get (HX2.out.celT hcel) hx
            obtain ⟨K, hK⟩ : ∃ z, x.kind = z := ⟨_, rfl⟩
            obtain ⟨N, hN⟩ : ∃ z, x.n = z := ⟨_, rfl⟩
            obtain ⟨S, hS⟩ : ∃ z, x.s = z := ⟨_, rfl⟩
            rw [hK] at x0
            rw [hN] at x1
            rw [hS] at x2
            rw [hK, hN, hS] at hxw
            have al : Below wr.heap.size wr (wr.alloc (Obj.cells #[.int .i64 K, .int .i64 N, .string S, .slice a1 n1 c1, .slice a2 n2 c2] 30)) := (Below.refl _ _).alloc (Nat.le_refl _) _
            have HPT : Hid (x.kind = K ∧ x.n = N ∧ x.s = S ∧ x.es.length = n1 ∧ x.rest.length = n2) := hxw.parts
            obtain ⟨Y, hY⟩ : ∃ z, treeV (msgV n s) fk ft x = z := ⟨_, rfl⟩
            have HY : Hid (treeV (msgV n s) fk ft x = Y) := hY
            have HTC : Hid (Calls Try.prog 64 #[.agg #[.string sn, .slice ma mn mc, .slice ea en ec, .slice ta tn tc, .map (some b)], .agg #[.int .i64 fk, .string ft], .agg #[.int .i64 K, .int .i64 N, .string S, .slice a1 n1 c1, .slice a2 n2 c2]] (wr.alloc (Obj.cells #[.int .i64 K, .int .i64 N, .string S, .slice a1 n1 c1, .slice a2 n2 c2] 30)) (MesP s Y b (wr.alloc (Obj.cells #[.int .i64 K, .int .i64 N, .string S, .slice a1 n1 c1, .slice a2 n2 c2] 30)))) := (by
              have h1 := tree_step s sn ma ea ta mn mc en ec tn tc b n IH x fk ft _ (wr.alloc (Obj.cells #[.int .i64 K, .int .i64 N, .string S, .slice a1 n1 c1, .slice a2 n2 c2] 30)) (hxw.cel (Cel.ofBelow al)) (HKR.out.below al) ((HS2.out.cel hcel).below al)
              rw [hY] at h1
              exact h1 : Calls Try.prog _ _ (wr.alloc (Obj.cells #[.int .i64 K, .int .i64 N, .string S, .slice a1 n1 c1, .slice a2 n2 c2] 30)) _)
            have HIX : Hid (e.2[i]? = some x) := hx
            have BX : Blk (wr.alloc (Obj.cells #[.int .i64 K, .int .i64 N, .string S, .slice a1 n1 c1, .slice a2 n2 c2] 30)) wr.heap.size #[.int .i64 K, .int .i64 N, .string S, .slice a1 n1 c1, .slice a2 n2 c2] 30 := Blk.new wr _ _
            have BFx := BFr.below al
            have BLx := BLr.below al
            have g0 := (BFx.cell 0).trans rfl
            have g1 := (BFx.cell 1).trans rfl
            have g2 := (BFx.cell 2).trans rfl
            have g3 := (BFx.cell 3).trans rfl
            have g4 := (BFx.cell 4).trans rfl
            have l3 := (BLx.cell 3).trans rfl
            have l4 := (BLx.cell 4).trans rfl
            clear hK hN hS hY hx hxw
            go_wp2_with fail
            refine Calls.mono HTC.out ?_
            rintro ee W4 ⟨rfl, hk4, hn4⟩
            have hcx : Cel (wr.alloc (Obj.cells #[.int .i64 K, .int .i64 N, .string S, .slice a1 n1 c1, .slice a2 n2 c2] 30)) W4 := (HKR.out.below al).cel hk4
            have BX4 := BX.cel hcx
            have BL4 := BLx.cel hcx
            have hkp4 : Kp (fun q => q = b) W2 W4 := (hkp.trans (Kp.ofBelow al)).trans hk4
            have HN4 : Hid (KnS s W4 b) := hn4
            have HKW4 : Hid (Kp (fun q => q = b) w W4) := HKW.out.trans hkp4
            clear HTC hk4 hn4 hcx BX BFx BLx g0 g1 g2 g3 g4 l3 l4 x0 x1 x2 x3 x4 al BFr BLr hkp HKR
            obtain ⟨bx, hbx⟩ : ∃ z, wr.heap.size = z := ⟨_, rfl⟩
            rw [hbx] at BX4
            simp only [hbx]
            clear hbx
            have j0 := (BX4.cell 0).trans rfl
            have j1 := (BX4.cell 1).trans rfl
            have j2 := (BX4.cell 2).trans rfl
            have j3 := (BX4.cell 3).trans rfl
            have j4 := (BX4.cell 4).trans rfl
            have l2 := (BL4.cell 2).trans rfl
            by_cases hY0 : Y = 0
            · subst hY0
              by_cases hl1 : lb = 1
              · have d5 : (lb == 1) = true := by simpa using hl1
                cases hZ : zroB x with
                | true =>
                  have HZ : Hid (Calls Try.prog 65 #[.agg #[.int .i64 K, .int .i64 N, .string S, .slice a1 n1 c1, .slice a2 n2 c2]] W4 fun e w' => e = .returned (.bool true) ∧ Below W4.heap.size W4 w') := (by
                    obtain ⟨p1, p2, p3, p4, p5⟩ := HPT.out
                    have h1 := zero_any x a1 a2 n1 c1 n2 c2 W4 p4.symm p5.symm
                    rw [p1, p2, p3, hZ] at h1
                    exact h1 : Calls Try.prog _ _ W4 _)
                  have HX12 : Hid (12 = X) := (by
                    have h1 : oneV (msgV n s) ⟨f1, f2, lb, fk, ft⟩ x = 12 := by
                      rw [oneV, if_neg (by simp [HY.out]), if_pos ⟨hl1, hZ⟩]
                    rw [HXE.out, errF_hit HIX.out HI.out (by rw [h1]; decide), h1] : 12 = X)
                  clear hZ hl1
                  go_wp2_with fail
                  refine HZ.out.mono ?_
                  rintro ee W5 ⟨rfl, hb5⟩
                  have HF : Hid (MesP s X b w (.returned (.int .i64 12)) W5) := MesP.of HX12.out (HKW4.out.trans (Kp.ofBelow hb5)) (HN4.out.below hb5)
                  clear HZ hb5 j0 j1 j2 j3 j4 l2
                  go_wp2_with fail
                  go_ret
                  exact HF.out
                | false =>
                  have HZ : Hid (Calls Try.prog 65 #[.agg #[.int .i64 K, .int .i64 N, .string S, .slice a1 n1 c1, .slice a2 n2 c2]] W4 fun e w' => e = .returned (.bool false) ∧ Below W4.heap.size W4 w') := (by
                    obtain ⟨p1, p2, p3, p4, p5⟩ := HPT.out
                    have h1 := zero_any x a1 a2 n1 c1 n2 c2 W4 p4.symm p5.symm
                    rw [p1, p2, p3, hZ] at h1
                    exact h1 : Calls Try.prog _ _ W4 _)
                  have HI2 : Hid (errF ((e.2.take (i + 1)).map (oneV (msgV n s) ⟨f1, f2, lb, fk, ft⟩)) = 0) := errF_on HIX.out HI.out (by rw [oneV, if_neg (by simp [HY.out]), if_neg (by rw [hZ]; simp)])
                  clear hZ hl1
                  go_wp2_with fail
                  refine HZ.out.mono ?_
                  rintro ee W5 ⟨rfl, hb5⟩
                  have HN5 : Hid (KnS s W5 b) := HN4.out.below hb5
                  have hkp5 : Kp (fun q => q = b) W2 W5 := hkp4.trans (Kp.ofBelow hb5)
                  clear HZ hb5 j0 j1 j2 j3 j4 l2 HI HN4 hkp4 HKW4
                  go_wp2_with fail
                  go_roundw
                  case rel => exact ⟨i + 1, by go_num, by omega, HI2, hkp5, HN5⟩
                  case measure => simp [intOf]; omega
              · have d5 : (lb == 1) = false := by simpa using hl1
                have HI2 : Hid (errF ((e.2.take (i + 1)).map (oneV (msgV n s) ⟨f1, f2, lb, fk, ft⟩)) = 0) := errF_on HIX.out HI.out (by rw [oneV, if_neg (by simp [HY.out]), if_neg (by simp [hl1])])
                clear hl1
                go_wp2_with fail
                clear j0 j1 j2 j3 j4 l2 HI d5
                go_roundw
                case rel => exact ⟨i + 1, by go_num, by omega, HI2, hkp4, HN4⟩
                case measure => simp [intOf]; omega
            · have d4 : (Y != 0) = true := by simpa using hY0
              have HXY : Hid (Y = X) := (by
                have h1 : oneV (msgV n s) ⟨f1, f2, lb, fk, ft⟩ x = Y := by
                  rw [oneV, if_pos (by simpa [HY.out] using hY0)]
                  exact HY.out
                rw [HXE.out, errF_hit HIX.out HI.out (by rw [h1]; exact hY0), h1] : Y = X)
              clear hY0
              go_wp2_with fail
              go_ret
              exact MesP.of HXY.out HKW4.out HN4.out
          · have HX0 : Hid (0 = X) := (by
              have h1 := HI.out
              rw [List.take_of_length_le (by rw [HXL.out]; omega)] at h1
              rw [HXE.out, h1] : 0 = X)
            clear BFr BLr HI
            go_wp2_with fail
            go_ret
            exact MesP.of HX0.out (HKW.out.trans hkp) HKR.out
end Go.Proofs.Ytiiegphbhfiffaa
