/- What value.Same has still to hold against each other, and what it has seen. -/
import Derived.Test.YtgedelgdjcnogabVsKey
namespace Go.Proofs.Ytgedelgdjcnogab
open Go.ChangeShapes Go.WideShapes Go.ChangeAt Go.RowKit
set_option linter.unusedVariables false
set_option linter.unusedSimpArgs false
set_option maxRecDepth 20000

def It.ov (b : Bool) (x : It) : Value := if b then x.vb else x.va
def It.oe (b : Bool) (x : It) : Ens := if b then x.eb else x.ea
def It.key (x : It) : Pl × Pl := (plOf x.va, plOf x.vb)
def lenV (v : Value) : Nat := match v with
  | .slice _ n _ => n
  | _ => 0
/-- A list's first address may be asked for. -/
def HeadF (w : World) (v : Value) : Prop := ∀ g off n c, v = .slice (some ⟨g, off, none⟩) n c → n ≠ 0 → w.frozen? ⟨g, off, none⟩ = false
def EnsF : Nat → World → Value → Prop
  | 0, w, v => HeadF w v
  | d + 1, w, v => HeadF w v ∧ ∀ i k, i < lenV v → k < lenV (cellE w v i) → EnsF d w (cellT w (cellE w v i) k)
theorem EnsF.head : ∀ {d : Nat} {w : World} {v : Value}, EnsF d w v → HeadF w v
  | 0, _, _, h => h
  | _ + 1, _, _, h => h.1
theorem cellT_below {d : Nat} {w W : World} {v : Value} {ts : List Tr} (h : TrsIn d w v ts) (hb : Below w.heap.size w W) {k : Nat} {t : Tr} (hk : ts[k]? = some t) : cellT W v k = cellT w v k := by
  obtain ⟨a, cap, rfl, _⟩ := RowP.open h
  obtain ⟨g, off, rfl, r, hr, hc⟩ := RowP.get h hk
  cases d with
  | zero => exact hr.elim
  | succ d =>
    obtain ⟨ve, vr, rfl, _⟩ := hr
    have c3 := hc 3 _ rfl
    have c4 := (hb.cell (World.block_lt_of_cell? _ _ c3)).trans c3
    simp only [cellT, c3, c4]
theorem cellE_below {d : Nat} {w W : World} {v : Value} {es : Ens} (h : EnsIn d w v es) (hb : Below w.heap.size w W) {i : Nat} {e : Int × List Tr} (hi : es[i]? = some e) : cellE W v i = cellE w v i := by
  obtain ⟨g, off, a, n, c, rfl, h1, h2, h3, h4⟩ := cellE_of h hi
  have h5 := (hb.cell (World.block_lt_of_cell? _ _ h3)).trans h3
  simp only [cellE, h3, h5]
theorem itsE_below {d dd : Nat} {w W : World} {va vb : Value} {ea eb : Ens} (ha : EnsIn d w va ea) (hv : EnsIn d w vb eb) (hb : Below w.heap.size w W) (K : Nat) : itsE dd W va vb ea eb K = itsE dd w va vb ea eb K := by
  unfold itsE
  congr 1
  funext i
  unfold itE
  split
  · rename_i e f h1 h2
    obtain ⟨g, off, a, n, c, rfl, q1, q2, q3, q4⟩ := cellE_of ha h1
    obtain ⟨g', off', a', n', c', rfl, r1, r2, r3, r4⟩ := cellE_of hv h2
    rw [cellE_below ha hb h1, cellE_below hv hb h2, q1, r1]
    unfold itsT
    congr 1
    funext k
    unfold itT
    split
    · rename_i t u g1 g2
      rw [cellT_below q4 hb g1, cellT_below r4 hb g2]
    · rfl
  · rfl
/-- An item's key. -/
theorem key_ok {b : Bool} {B : Nat} {w : World} {x : It} {bs : List Nat} (h : EnsO x.d B w (x.ov b) (x.oe b) bs) (hn : (x.oe b).length ≠ 0) (ho : ItOk w x) (hf : b = true → EnsF x.d w x.va) : KeyOk b w x.key ∧ ∃ l, bs = hdB (ownP b x.key) :: l := by
  obtain ⟨g, cap, cs, ty, l, e1, e2, e3⟩ := h.head hn
  have hk : ownP b x.key = (some ⟨g, 0, none⟩, (x.oe b).length) := by
    cases b with
    | false =>
      simp only [ownP, It.key, Bool.false_eq_true, if_false, It.ov] at e1 ⊢
      rw [e1]
      simp [plOf, hn]
    | true =>
      simp only [ownP, It.key, if_true, It.ov] at e1 ⊢
      rw [e1]
      simp [plOf, hn]
  refine ⟨⟨⟨g, _, cs, ty, hk, e2⟩, fun hb a ha => ?_⟩, l, by rw [hk]; exact e3⟩
  subst hb
  simp only [It.oe, if_true] at hn
  obtain ⟨e, he⟩ : ∃ e, x.ea[0]? = some e := ⟨_, List.getElem?_eq_getElem (by rw [ho.2.2]; omega)⟩
  obtain ⟨g', off', a', n', c', h1, h2, h3, h4, h5⟩ := cellE_of ho.1 he
  have hfz := (hf rfl).head g' off' _ _ h1 (by rw [ho.2.2]; exact hn)
  simp only [It.key, h1, plOf, if_neg (show ¬ x.ea.length = 0 by rw [ho.2.2]; exact hn), Option.some.injEq] at ha
  subst ha
  refine ⟨hfz, ?_⟩
  have hc := h3
  unfold World.cell? at hc
  simp only at hc
  split at hc
  · rename_i cs2 t2 z2 hq
    exact ⟨_, _, _, hq⟩
  all_goals cases hc
/-- What is left, with its blocks; what was seen. -/
structure Good (b : Bool) (B : Nat) (w : World) (P : List (It × List Nat)) (S : List (Pl × Pl)) : Prop where
  each : ∀ p ∈ P, EnsO p.1.d B w (p.1.ov b) (p.1.oe b) p.2 ∧ ItOk w p.1 ∧ (b = true → EnsF p.1.d w p.1.va)
  keys : P = [] ∨ ((∀ s ∈ S, KeyOk b w s) ∧ (S.map (fun s => hdB (ownP b s)) ++ P.flatMap Prod.snd).Nodup ∧ ((∀ p ∈ P, (p.1.oe b).length ≠ 0) ∨ (S = [] ∧ P.length = 1)))
theorem Good.apart {b : Bool} {B : Nat} {w : World} {P : List (It × List Nat)} {S : List (Pl × Pl)} {x : It} {bs : List Nat} (h : Good b B w (P ++ [(x, bs)]) S) {W : World} (hb : Below w.heap.size w W) : Apart 66 W (prK x.key) (S.map prK) := by
  obtain ⟨q1, q2, q3⟩ := h.each (x, bs) (by simp)
  rcases h.keys with hk | ⟨k1, k2, k3⟩
  · exact absurd hk (by simp)
  · rcases k3 with k3 | ⟨rfl, _⟩
    · obtain ⟨g1, l, g2⟩ := key_ok q1 (k3 (x, bs) (by simp)) q2 q3
      simp only at g2
      refine apart_key (g1.below hb) fun q hq => ⟨(k1 q hq).below hb, fun e => ?_⟩
      rw [List.nodup_append] at k2
      refine k2.2.2 (hdB (ownP b q)) (List.mem_map.2 ⟨q, hq, rfl⟩) (hdB (ownP b x.key)) ?_ e.symm
      rw [List.flatMap_append]
      refine List.mem_append.2 (.inr ?_)
      simp [g2]
    · intro q hq
      simp at hq
theorem its_zero {w : World} {va vb : Value} {ea eb : Ens} (h : EnsIn 0 w va ea) (dd K : Nat) : itsE dd w va vb ea eb K = [] := by
  rcases hs : itsE dd w va vb ea eb K with _ | ⟨x, l⟩
  · rfl
  · obtain ⟨i, e, f, k, t, u, hi, h1, h2, h3, h4, h5, -⟩ := mem_itsE (show x ∈ itsE dd w va vb ea eb K by rw [hs]; simp)
    have hz := ens_zero h
    have : t ∈ subs ea := mem_subs.2 ⟨e, List.mem_of_getElem? h1, List.mem_of_getElem? h3⟩
    rw [hz] at this
    cases this
theorem its_f {d : Nat} {w : World} {va vb : Value} {ea eb : Ens} (ha : EnsIn (d + 1) w va ea) (hf : EnsF (d + 1) w va) {K : Nat} {x : It} (hx : x ∈ itsE d w va vb ea eb K) : EnsF x.d w x.va := by
  obtain ⟨i, e, f, k, t, u, hi, h1, h2, h3, h4, h5, rfl⟩ := mem_itsE hx
  obtain ⟨g, off, a, n, c, e1, e2, _, _, q⟩ := cellE_of ha h1
  refine hf.2 i k ?_ ?_
  · rw [e1]; exact (List.getElem?_eq_some_iff.1 h1).1
  · rw [e2]; exact (List.getElem?_eq_some_iff.1 h3).1
theorem nodup_step {A F L F' : List Nat} {g : Nat} (h : (A ++ (F ++ (g :: L))).Nodup) (hs : F'.Sublist L) : ((A ++ [g]) ++ (F ++ F')).Nodup := by
  have h1 : (A ++ (F ++ (g :: F'))).Nodup := h.sublist ((List.Sublist.refl A).append ((List.Sublist.refl F).append (hs.cons_cons g)))
  refine (List.Perm.nodup_iff ?_).1 h1
  rw [List.append_assoc]
  refine List.Perm.append_left A ?_
  exact (List.perm_middle (l₁ := F) (a := g) (l₂ := F'))
/-- One is held against the other: what is deeper comes in its place. -/
theorem Good.step {b : Bool} {B : Nat} {w : World} {P : List (It × List Nat)} {S : List (Pl × Pl)} {x : It} {bs : List Nat} (h : Good b B w (P ++ [(x, bs)]) S) (hok : OkC x.ea x.eb) :
    ∃ P', P'.map Prod.fst = itsE (x.d - 1) w x.va x.vb x.ea x.eb x.ea.length ∧ Good b B w (P ++ P') (S ++ [x.key]) := by
  obtain ⟨q1, q2, q3⟩ := h.each (x, bs) (by simp)
  simp only at q1 q2 q3
  obtain ⟨d, va, vb, ea, eb⟩ := x
  simp only at hok q1 q2 q3 ⊢
  have foot : ∃ P' : List (It × List Nat), P'.map Prod.fst = itsE (d - 1) w va vb ea eb ea.length ∧ (∀ p ∈ P', EnsO p.1.d B w (p.1.ov b) (p.1.oe b) p.2 ∧ ItOk w p.1 ∧ p.1.ea.length ≠ 0 ∧ (b = true → EnsF p.1.d w p.1.va)) ∧ ∃ l, bs = blkOf ((It.mk d va vb ea eb).ov b) ++ l ∧ (P'.flatMap Prod.snd).Sublist l := by
    cases d with
    | zero =>
      obtain ⟨rows, bss, _, rfl⟩ := q1
      exact ⟨[], by simp [its_zero q2.1], by simp, bss.flatten, rfl, by simp⟩
    | succ d =>
      have more : ∀ P' : List (It × List Nat), P'.map Prod.fst = itsE d w va vb ea eb ea.length → ∀ p ∈ P', ItOk w p.1 ∧ p.1.ea.length ≠ 0 ∧ (b = true → EnsF p.1.d w p.1.va) := fun P' hP p hp => by
        have hm : p.1 ∈ itsE d w va vb ea eb ea.length := by rw [← hP]; exact List.mem_map.2 ⟨p, hp, rfl⟩
        obtain ⟨g1, g2⟩ := its_ok q2.1 q2.2.1 hok hm
        exact ⟨g1, g2, fun hb => its_f q2.1 (q3 hb) hm⟩
      cases b with
      | false =>
        obtain ⟨P', g1, g2, l, g3, g4⟩ := footA (vb := vb) (eb := eb) q1 ea.length
        exact ⟨P', g1, fun p hp => ⟨g2 p hp, more P' g1 p hp⟩, l, g3, g4⟩
      | true =>
        obtain ⟨P', g1, g2, l, g3, g4⟩ := footB (va := va) (ea := ea) q1 ea.length
        exact ⟨P', g1, fun p hp => ⟨g2 p hp, more P' g1 p hp⟩, l, g3, g4⟩
  obtain ⟨P', g1, g2, l, g3, g4⟩ := foot
  refine ⟨P', g1, ⟨fun p hp => ?_, ?_⟩⟩
  · rcases List.mem_append.1 hp with hp | hp
    · exact h.each p (List.mem_append.2 (.inl hp))
    · obtain ⟨u1, u2, u3, u4⟩ := g2 p hp
      exact ⟨u1, u2, u4⟩
  · have ne' : ∀ p ∈ P', (p.1.oe b).length ≠ 0 := fun p hp => by
      obtain ⟨u1, u2, u3, u4⟩ := g2 p hp
      cases b with
      | false => exact u3
      | true => simp only [It.oe, if_true]; rw [← u2.2.2]; exact u3
    rcases h.keys with hk | ⟨k1, k2, k3⟩
    · exact absurd hk (by simp)
    · by_cases hn : ((It.mk d va vb ea eb).oe b).length = 0
      · rcases k3 with k3 | ⟨rfl, k4⟩
        · exact absurd hn (k3 (_, bs) (by simp))
        · have hP : P = [] := by
            simp only [List.length_append, List.length_cons, List.length_nil] at k4
            exact List.eq_nil_of_length_eq_zero (by omega)
          have he : ea.length = 0 := by
            cases b with
            | false => exact hn
            | true => simp only [It.oe, if_true] at hn; exact q2.2.2.trans hn
          refine .inl ?_
          rw [he] at g1
          simp only [itsE, List.range_zero, List.flatMap_nil, List.map_eq_nil_iff] at g1
          rw [hP, g1]
          rfl
      · obtain ⟨c1, l', c2⟩ := key_ok q1 hn q2 q3
        have hd : hdB (ownP b (It.mk d va vb ea eb).key) :: l' = blkOf ((It.mk d va vb ea eb).ov b) ++ l := c2.symm.trans g3
        have hl : (P'.flatMap Prod.snd).Sublist l' := by
          obtain ⟨g, cap, cs, ty, l2, e1, e2, e3⟩ := q1.head hn
          have hb2 : blkOf ((It.mk d va vb ea eb).ov b) = [g] := by rw [e1]; simp [blkOf, Value.ownBlock]
          rw [hb2] at hd
          have := (List.cons.inj hd).2
          rw [this]
          exact g4
        refine .inr ⟨fun s hs => ?_, ?_, .inl fun p hp => ?_⟩
        · rcases List.mem_append.1 hs with hs | hs
          · exact k1 s hs
          · obtain rfl : s = _ := by simpa using hs
            exact c1
        · rw [List.map_append, List.flatMap_append]
          rw [List.flatMap_append] at k2
          simp only [List.map_cons, List.map_nil, List.flatMap_cons, List.flatMap_nil, List.append_nil] at k2 ⊢
          rw [c2] at k2
          exact nodup_step k2 hl
        · rcases List.mem_append.1 hp with hp | hp
          · rcases k3 with k3 | ⟨_, k4⟩
            · exact k3 p (List.mem_append.2 (.inl hp))
            · have : P = [] := by
                simp only [List.length_append, List.length_cons, List.length_nil] at k4
                exact List.eq_nil_of_length_eq_zero (by omega)
              rw [this] at hp
              cases hp
          · exact ne' p hp
theorem its_wt {w : World} {x : It} (q2 : ItOk w x) : wts (itsE (x.d - 1) w x.va x.vb x.ea x.eb x.ea.length) + 1 ≤ x.wt := by
  obtain ⟨d, va, vb, ea, eb⟩ := x
  cases d with
  | zero =>
    rw [its_zero q2.1]
    simp [wts, It.wt, wtE]
  | succ d => exact wts_more d w va vb ea eb (Nat.le_refl _)
/-- Good, or there is one alone that is not alike. -/
def GoodD (b : Bool) (B : Nat) (w : World) (P : List (It × List Nat)) (S : List (Pl × Pl)) : Prop := Good b B w P S ∨ ∃ x bs, P = [(x, bs)] ∧ S = [] ∧ ItOk w x ∧ ¬ OkC x.ea x.eb
theorem GoodD.last {b : Bool} {B : Nat} {w : World} {P : List (It × List Nat)} {S : List (Pl × Pl)} {x : It} {bs : List Nat} (h : GoodD b B w (P ++ [(x, bs)]) S) : Good b B w (P ++ [(x, bs)]) S ∨ (S = [] ∧ ItOk w x ∧ ¬ OkC x.ea x.eb) := by
  rcases h with h | ⟨y, cs, h1, h2, h3, h4⟩
  · exact .inl h
  · have h5 := congrArg List.getLast? h1
    simp only [List.getLast?_append, List.getLast?_singleton, Option.some_or, Option.some.injEq, Prod.mk.injEq] at h5
    obtain ⟨rfl, rfl⟩ := h5
    exact .inr ⟨h2, h3, h4⟩
theorem GoodD.it {b : Bool} {B : Nat} {w : World} {P : List (It × List Nat)} {S : List (Pl × Pl)} {x : It} {bs : List Nat} (h : GoodD b B w (P ++ [(x, bs)]) S) : ItOk w x := by
  rcases h.last with h | ⟨_, h, _⟩
  · exact (h.each (x, bs) (by simp)).2.1
  · exact h
theorem GoodD.apart {b : Bool} {B : Nat} {w : World} {P : List (It × List Nat)} {S : List (Pl × Pl)} {x : It} {bs : List Nat} (h : GoodD b B w (P ++ [(x, bs)]) S) {W : World} (hb : Below w.heap.size w W) : Apart 66 W (prK x.key) (S.map prK) := by
  rcases h.last with h | ⟨h, _⟩
  · exact h.apart hb
  · subst h
    intro q hq
    simp at hq
theorem GoodD.good {b : Bool} {B : Nat} {w : World} {P : List (It × List Nat)} {S : List (Pl × Pl)} {x : It} {bs : List Nat} (h : GoodD b B w (P ++ [(x, bs)]) S) (hok : OkC x.ea x.eb) : Good b B w (P ++ [(x, bs)]) S := by
  rcases h.last with h | ⟨_, _, h⟩
  · exact h
  · exact absurd hok h
theorem least_ofV {P : Nat → Prop} (h : ∃ k, P k) : ∃ k, P k ∧ ∀ j, P j → k ≤ j := by
  obtain ⟨k, hk⟩ := h
  induction k using Nat.strongRecOn with
  | _ k ih =>
    by_cases hm : ∃ j, j < k ∧ P j
    · obtain ⟨j, h1, h2⟩ := hm
      exact ih j h1 h2
    · refine ⟨k, hk, fun j hj => ?_⟩
      by_cases hjk : k ≤ j
      · exact hjk
      · exact absurd ⟨j, by omega, hj⟩ hm
theorem own_shortV {w : World} {base e s n cap : Nat} {a : Option Addr} {xs ys : List Value} (h : w.ownsRow base e s (.slice a (n + 1) cap) (n + 1) (xs ++ ys)) (hx : xs.length = n * s) : w.ownsRow base e s (.slice a n cap) n xs := by
  rcases h.2 with ⟨e1, _⟩ | ⟨g, c, cur, e1, h1, h2, h3, h4, h5, h6⟩
  · simp at e1
  · simp only [Value.slice.injEq, true_and] at e1
    obtain ⟨rfl, rfl⟩ := e1
    refine ⟨hx, .inr ⟨g, cap, cur, rfl, h1, h2, by omega, h4, h5, ?_⟩⟩
    have h7 := congrArg (List.take (n * s)) h6
    rw [List.take_take, Nat.min_eq_left (Nat.mul_le_mul_right _ (by omega)), List.take_left' hx] at h7
    exact h7
/-- The loop's state: k is what is left. -/
def SameS (b : Bool) (B : Nat) (w : World) (mb : Nat) (ea eb : Ens) (lv : Value) (W : World) (k : Nat) : Prop :=
  ∃ (P : List (It × List Nat)) (S : List (Pl × Pl)), GoodD b B w P S ∧ (ea = eb ↔ ∀ p ∈ P, p.1.ea = p.1.eb) ∧ PlSet W mb (S.map prK) ∧
    W.ownsRow w.heap.size 60 2 lv P.length (rowsOf (P.map Prod.fst)) ∧ Below w.heap.size w W ∧ wts (P.map Prod.fst) = k ∧ k ≤ 500
theorem rowsOf_len (l : List It) : (rowsOf l).length = l.length * 2 := by
  unfold rowsOf
  rw [flat_len (size := 2) _ (fun r hr => by obtain ⟨x, _, rfl⟩ := List.mem_map.1 hr; rfl), List.length_map]
theorem own_neMap {w : World} {B e s n : Nat} {v : Value} {xs : List Value} (h : w.ownsRow B e s v n xs) {b : Nat} {L : List Value} (hp : PlSet w b L) : ¬ v.ownBlock = some b := by
  intro hk
  rcases h.2 with ⟨rfl, _⟩ | ⟨g, cap, cur, rfl, _, h3, _⟩
  · cases hk
  · obtain rfl : g = b := by simpa [Value.ownBlock] using hk
    exact hp.neB h3 rfl
/-- The row that stands behind what compare answered. -/
theorem SameS.next {b : Bool} {B : Nat} {w W : World} {mb : Nat} {ea eb : Ens} {P : List (It × List Nat)} {S : List (Pl × Pl)} {x : It} {bs : List Nat} {k0 : Nat} {lv : Value} (hG0 : GoodD b B w (P ++ [(x, bs)]) S) (hif : ea = eb ↔ ∀ p ∈ P ++ [(x, bs)], p.1.ea = p.1.eb) (hw : wts ((P ++ [(x, bs)]).map Prod.fst) = k0 ∧ k0 ≤ 500) (hok : OkC x.ea x.eb)
    (hset : PlSet W mb ((S ++ [x.key]).map prK)) (hown : W.ownsRow w.heap.size 60 2 lv (P.length + (itsE (x.d - 1) w x.va x.vb x.ea x.eb x.ea.length).length) (rowsOf (P.map Prod.fst) ++ rowsOf (itsE (x.d - 1) w x.va x.vb x.ea x.eb x.ea.length))) (hb : Below w.heap.size w W) :
    ∃ j, SameS b B w mb ea eb lv W j ∧ j < k0 := by
  have hG := hG0.good hok
  obtain ⟨P', g1, g2⟩ := hG.step hok
  have hwt := its_wt hG0.it
  obtain ⟨q1, q2, q3⟩ := hG.each (x, bs) (by simp)
  rw [List.map_append, wts_append] at hw
  simp only [List.map_cons, List.map_nil] at hw
  have hx1 : wts [x] = x.wt := by simp [wts]
  rw [hx1] at hw
  have hlt : wts ((P ++ P').map Prod.fst) < k0 := by
    rw [List.map_append, wts_append, g1]
    omega
  refine ⟨wts ((P ++ P').map Prod.fst), ⟨P ++ P', S ++ [x.key], .inl g2, ?_, hset, ?_, hb, rfl, by omega⟩, hlt⟩
  · rw [hif]
    have he := es_iff (d := x.d - 1) (w := w) (va := x.va) (vb := x.vb) q2.2.2
    constructor
    · intro h p hp
      rcases List.mem_append.1 hp with hp | hp
      · exact h p (List.mem_append.2 (.inl hp))
      · exact (he.1 (h (x, bs) (by simp))).2 p.1 (by rw [← g1]; exact List.mem_map.2 ⟨p, hp, rfl⟩)
    · intro h p hp
      rcases List.mem_append.1 hp with hp | hp
      · exact h p (List.mem_append.2 (.inl hp))
      · obtain rfl := List.mem_singleton.1 hp
        refine he.2 ⟨hok, fun y hy => ?_⟩
        rw [← g1] at hy
        obtain ⟨p, hp, rfl⟩ := List.mem_map.1 hy
        exact h p (List.mem_append.2 (.inr hp))
  · rw [← g1, ← rowsOf_append, ← List.map_append, List.length_map, ← List.length_append] at hown
    exact hown
end Go.Proofs.Ytgedelgdjcnogab
