/- A schema whose parts are put in another order. -/
import Derived.Test.YtomeppgmmlaibaaCkMath
import Derived.Test.YtomeppgmmlaibaaCkCheck
import Derived.Test.YtomeppgmmlaibaaMsOwn
import Derived.Test.YtomeppgmmlaibaaMsSetF
namespace Go.Proofs.Ytomeppgmmlaibaa
open Go.ChangeShapes Go.WideShapes Go.ChangeAt Go.RowKit
set_option linter.unusedVariables false
set_option linter.unusedSimpArgs false
set_option maxRecDepth 20000

theorem memB_perm {l l' : List ByteArray} (h : l.Perm l') (x : ByteArray) : memB x l = memB x l' := by
  rw [Bool.eq_iff_iff, memB_iff, memB_iff]; exact h.mem_iff
theorem typeB_perm {mn mn' en en' : List ByteArray} (h1 : mn.Perm mn') (h2 : en.Perm en') (k : Int) (t : ByteArray) : typeB mn en k t = typeB mn' en' k t := by
  unfold typeB; rw [memB_perm h1, memB_perm h2]
theorem msgOk_perm {mn mn' en en' : List ByteArray} (h1 : mn.Perm mn') (h2 : en.Perm en') {m : MsS} (h : msgOk mn en m) : msgOk mn' en' m := by
  obtain ⟨g1, g2, g3, g4, g5⟩ := h
  refine ⟨g1, g2, g3, fun f hf => ?_, g5⟩
  obtain ⟨⟨k1, k2, k3, k4⟩, k5⟩ := g4 f hf
  exact ⟨⟨k1, k2, k3, by rw [← typeB_perm h1 h2]; exact k4⟩, k5⟩
theorem ok_perm {s t : ScS} (h : OkS s) (hn : t.name = s.name) (pm : t.msgs.Perm s.msgs) (pe : t.enums.Perm s.enums) (pt : t.methods.Perm s.methods) : OkS t := by
  have m1 : t.mn.Perm s.mn := pm.map _
  have e1 : t.en.Perm s.en := pe.map _
  have t1 : t.tn.Perm s.tn := pt.map _
  refine ⟨by rw [hn]; exact h.name, by rw [pm.length_eq]; exact h.some, ?_, ?_, ?_, ?_, m1.symm.nodup h.names, e1.symm.nodup h.enms, ?_, t1.symm.nodup h.tns⟩
  · have := h.big
    unfold bigS at this ⊢
    rw [pm.length_eq, pe.length_eq, pt.length_eq]; exact this
  · intro m hm
    obtain ⟨g1, g2⟩ := h.msgs m (pm.mem_iff.1 hm)
    exact ⟨g1, msgOk_perm m1.symm e1.symm g2⟩
  · intro m hm; exact h.enums m (pe.mem_iff.1 hm)
  · intro m hm
    obtain ⟨g1, g2, g3⟩ := h.meths m (pt.mem_iff.1 hm)
    exact ⟨g1, m1.mem_iff.2 g2, m1.mem_iff.2 g3⟩
  · intro x hx hy; exact h.apart x (e1.mem_iff.1 hx) (m1.mem_iff.1 hy)
theorem few_perm {s t : ScS} (h : FewL s) (pm : t.msgs.Perm s.msgs) (pe : t.enums.Perm s.enums) (pt : t.methods.Perm s.methods) : FewL t :=
  ⟨by rw [pm.length_eq]; exact h.msgs, by rw [pe.length_eq]; exact h.enums, by rw [pt.length_eq]; exact h.meths, fun m hm => h.flds m (pm.mem_iff.1 hm), fun m hm => h.vals m (pe.mem_iff.1 hm)⟩

/-! A list turned by p -/
def rotL {α : Type} (p : Nat) (l : List α) : List α := l.drop (l.length - p) ++ l.take (l.length - p)
theorem rotL_perm {α : Type} (p : Nat) (l : List α) : (rotL p l).Perm l := by
  unfold rotL
  refine List.perm_append_comm.trans ?_
  rw [List.take_append_drop]
theorem rotL_len {α : Type} (p : Nat) (l : List α) : (rotL p l).length = l.length := (rotL_perm p l).length_eq
theorem mod2 {x n : Nat} (h : x < 2 * n) : x % n = if x < n then x else x - n := by
  split
  · exact Nat.mod_eq_of_lt (by assumption)
  · rw [Nat.mod_eq_sub_mod (by omega), Nat.mod_eq_of_lt (by omega)]
theorem rotL_at {α : Type} {p k : Nat} {l : List α} (hp : p < l.length) (hk : k < l.length) : ∃ j, j < l.length ∧ (j + p) % l.length = k ∧ (rotL p l)[k]? = l[j]? := by
  unfold rotL
  by_cases h : k < p
  · refine ⟨l.length - p + k, by omega, ?_, ?_⟩
    · rw [mod2 (by omega), if_neg (by omega)]; omega
    · rw [List.getElem?_append_left (by rw [List.length_drop]; omega), List.getElem?_drop]
  · refine ⟨k - p, by omega, ?_, ?_⟩
    · rw [mod2 (by omega), if_pos (by omega)]; omega
    · rw [List.getElem?_append_right (by rw [List.length_drop]; omega), List.length_drop, List.getElem?_take_of_lt (by omega)]
      congr 1; omega
theorem rot_inj {p n i j : Nat} (hp : p < n) (hi : i < n) (hj : j < i) : (j + p) % n ≠ (i + p) % n := by
  rw [mod2 (by omega), mod2 (by omega)]
  split <;> split <;> omega
/-! Rows that are being put in place -/
def Done (src : Nat → List Value → Prop) (pos : Nat → Nat) (i : Nat) (rs : List (List Value)) : Prop := ∀ j, j < i → ∃ r, src j r ∧ rs[pos j]? = some r
theorem Done.zero (src : Nat → List Value → Prop) (pos : Nat → Nat) (rs : List (List Value)) : Done src pos 0 rs := fun j hj => absurd hj (by omega)
theorem Done.step {src : Nat → List Value → Prop} {pos : Nat → Nat} {i : Nat} {rs : List (List Value)} {r : List Value} (h : Done src pos i rs) (hr : src i r) (hp : pos i < rs.length) (hi : ∀ j, j < i → pos j ≠ pos i) : Done src pos (i + 1) (rs.set (pos i) r) := by
  intro j hj
  by_cases hji : j = i
  · subst hji
    exact ⟨r, hr, by rw [List.getElem?_set_self hp]⟩
  · obtain ⟨r', h1, h2⟩ := h j (by omega)
    exact ⟨r', h1, by rw [List.getElem?_set_ne (Ne.symm (hi j (by omega)))]; exact h2⟩
def srcM (w : World) (ms : List MsS) (j : Nat) (r : List Value) : Prop := ∃ m vf vr, ms[j]? = some m ∧ r = [.string m.name, vf, vr] ∧ RowG w vf 5 (flRows m.fields) ∧ RowG w vr 1 (inRows m.reserved)
def srcE (w : World) (ms : List EnS) (j : Nat) (r : List Value) : Prop := ∃ m vv, ms[j]? = some m ∧ r = [.string m.name, vv] ∧ RowG w vv 2 (nmRows m.values)
def srcT (ms : List MtS) (j : Nat) (r : List Value) : Prop := ∃ m : MtS, ms[j]? = some m ∧ r = m.cells
theorem Done.toM {w W : World} {B p : Nat} {v : Value} {ms : List MsS} {rs : List (List Value)} (h : Done (srcM w ms) (fun j => (j + p) % ms.length) ms.length rs) (hp : p < ms.length) (hl : ∀ r ∈ rs, r.length = 3) (ho : W.ownsRow B 35 3 v ms.length rs.flatten) (hb : Below w.heap.size w W) : MsIn W v (rotL p ms) := by
  obtain ⟨h1, h2⟩ := RowG.own hl (by decide) ho
  refine ⟨rs, h1, by rw [rotL_len]; exact h2.symm, fun k m hm => ?_⟩
  have hk := (List.getElem?_eq_some_iff.1 hm).1
  rw [rotL_len] at hk
  obtain ⟨j, hj, hjk, he⟩ := rotL_at hp hk
  obtain ⟨r, ⟨m', vf, vr, e1, e2, e3, e4⟩, e5⟩ := h j hj
  rw [he, e1] at hm
  cases hm
  subst e2
  simp only [hjk] at e5
  exact ⟨vf, vr, e5, e3.below hb, e4.below hb⟩
theorem Done.toE {w W : World} {B : Nat} {v : Value} {ms : List EnS} {rs : List (List Value)} (h : Done (srcE w ms) (fun j => ms.length - 1 - j) ms.length rs) (hl : ∀ r ∈ rs, r.length = 2) (ho : W.ownsRow B 40 2 v ms.length rs.flatten) (hb : Below w.heap.size w W) : EnIn W v ms.reverse := by
  obtain ⟨h1, h2⟩ := RowG.own hl (by decide) ho
  refine ⟨rs, h1, by rw [List.length_reverse]; exact h2.symm, fun k m hm => ?_⟩
  have hk := (List.getElem?_eq_some_iff.1 hm).1
  rw [List.length_reverse] at hk
  obtain ⟨r, ⟨m', vv, e1, e2, e3⟩, e5⟩ := h (ms.length - 1 - k) (by omega)
  rw [List.getElem?_reverse hk, e1] at hm
  cases hm
  subst e2
  have : ms.length - 1 - (ms.length - 1 - k) = k := by omega
  simp only [this] at e5
  exact ⟨vv, e5, e3.below hb⟩
theorem Done.toT {W : World} {B : Nat} {v : Value} {ms : List MtS} {rs : List (List Value)} (h : Done (srcT ms) (fun j => ms.length - 1 - j) ms.length rs) (hl : ∀ r ∈ rs, r.length = 3) (ho : W.ownsRow B 44 3 v ms.length rs.flatten) : RowG W v 3 (mtRows ms.reverse) := by
  obtain ⟨h1, h2⟩ := RowG.own hl (by decide) ho
  have : rs = mtRows ms.reverse := by
    apply List.ext_getElem?
    intro k
    by_cases hk : k < ms.length
    · obtain ⟨r, ⟨m', e1, e2⟩, e5⟩ := h (ms.length - 1 - k) (by omega)
      have hx : ms.length - 1 - (ms.length - 1 - k) = k := by omega
      simp only [hx] at e5
      rw [e5, e2, mtRows, List.getElem?_map, List.getElem?_reverse hk, e1]
      rfl
    · rw [List.getElem?_eq_none (by omega), List.getElem?_eq_none (by simp [mtRows]; omega)]
  rw [← this]; exact h1
/-! The memory while the parts are put in place -/
structure Ord (w : World) (bx tx : Array Value) (b5 B : Nat) (um ue ut : Value) (M E T : Nat) (rm re rt : List (List Value)) (W : World) : Prop where
  bel : Below w.heap.size w W
  box : Blk W w.heap.size bx 26
  tbox : Blk W b5 tx 26
  own1 : W.ownsRow B 35 3 um M rm.flatten
  own2 : W.ownsRow B 40 2 ue E re.flatten
  own3 : W.ownsRow B 44 3 ut T rt.flatten
  base : w.heap.size < B
theorem Ord.below {w W W' : World} {bx tx : Array Value} {b5 B : Nat} {um ue ut : Value} {M E T : Nat} {rm re rt : List (List Value)} (h : Ord w bx tx b5 B um ue ut M E T rm re rt W) (hb : Below W.heap.size W W') : Ord w bx tx b5 B um ue ut M E T rm re rt W' :=
  ⟨h.bel.trans (hb.mono h.bel.size), h.box.below hb, h.tbox.below hb, own_below h.own1 hb, own_below h.own2 hb, own_below h.own3 hb, h.base⟩
theorem set3 {rs : List (List Value)} (hl : ∀ r ∈ rs, r.length = 3) {k : Nat} (hk : k < rs.length) (a b c : Value) : ((rs.flatten.set (k * 3) a).set (k * 3 + 1) b).set (k * 3 + 2) c = (rs.set k [a, b, c]).flatten := by
  obtain ⟨r, hr⟩ : ∃ r, rs[k]? = some r := ⟨_, List.getElem?_eq_getElem hk⟩
  have h3 := hl r (List.mem_of_getElem? hr)
  match r, h3 with
  | [x, y, z], _ =>
    have l1 : ∀ q ∈ rs.set k [a, y, z], q.length = 3 := fun q hq => by
      rcases List.mem_or_eq_of_mem_set hq with h | rfl
      · exact hl q h
      · rfl
    have l2 : ∀ q ∈ rs.set k [a, b, z], q.length = 3 := fun q hq => by
      rcases List.mem_or_eq_of_mem_set hq with h | rfl
      · exact hl q h
      · rfl
    have e1 := flat_set rs hl k _ hr 0 a (by decide)
    rw [Nat.add_zero] at e1
    rw [e1]
    have e2 := flat_set _ l1 k [a, y, z] (by rw [List.getElem?_set_self hk]) 1 b (by decide)
    have e3 := flat_set _ l2 k [a, b, z] (by rw [List.getElem?_set_self hk]) 2 c (by decide)
    simp only [List.set_cons_zero, List.set_cons_succ, List.set_set] at e2 e3 ⊢
    rw [e2, e3]
theorem set2 {rs : List (List Value)} (hl : ∀ r ∈ rs, r.length = 2) {k : Nat} (hk : k < rs.length) (a b : Value) : (rs.flatten.set (k * 2) a).set (k * 2 + 1) b = (rs.set k [a, b]).flatten := by
  obtain ⟨r, hr⟩ : ∃ r, rs[k]? = some r := ⟨_, List.getElem?_eq_getElem hk⟩
  have h3 := hl r (List.mem_of_getElem? hr)
  match r, h3 with
  | [x, y], _ =>
    have l1 : ∀ q ∈ rs.set k [a, y], q.length = 2 := fun q hq => by
      rcases List.mem_or_eq_of_mem_set hq with h | rfl
      · exact hl q h
      · rfl
    have e1 := flat_set rs hl k _ hr 0 a (by decide)
    rw [Nat.add_zero] at e1
    rw [e1]
    have e2 := flat_set _ l1 k [a, y] (by rw [List.getElem?_set_self hk]) 1 b (by decide)
    simp only [List.set_cons_zero, List.set_cons_succ, List.set_set] at e2 ⊢
    rw [e2]
theorem own_hi {w : World} {B e size q n cap : Nat} {xs : List Value} (h : w.ownsRow B e size (.slice (some ⟨q, 0, none⟩) n cap) n xs) : B ≤ q := by
  rcases h.2 with ⟨h, _⟩ | ⟨q', cap', cur, h1, h2, _⟩
  · cases h
  · simp only [Value.slice.injEq, Option.some.injEq, Addr.mk.injEq] at h1
    obtain ⟨⟨rfl, _⟩, _⟩ := h1
    exact h2
theorem Ord.set1 {w W : World} {bx tx : Array Value} {b5 B q c : Nat} {ue ut : Value} {M E T : Nat} {rm re rt : List (List Value)} (h : Ord w bx tx b5 B (.slice (some ⟨q, 0, none⟩) M c) ue ut M E T rm re rt W) (hl : ∀ r ∈ rm, r.length = 3) {k : Nat} (hk : k < rm.length) (x y z : Value) :
    Ord w bx tx b5 B (.slice (some ⟨q, 0, none⟩) M c) ue ut M E T (rm.set k [x, y, z]) re rt (((W.setCell ⟨q, k * 3, none⟩ x).setCell ⟨q, k * 3 + 1, none⟩ y).setCell ⟨q, k * 3 + 2, none⟩ z) ∧ Kp (fun b => b = q) W (((W.setCell ⟨q, k * 3, none⟩ x).setCell ⟨q, k * 3 + 1, none⟩ y).setCell ⟨q, k * 3 + 2, none⟩ z) := by
  have hK : Kp (fun b => b = q) W (((W.setCell ⟨q, k * 3, none⟩ x).setCell ⟨q, k * 3 + 1, none⟩ y).setCell ⟨q, k * 3 + 2, none⟩ z) := by
    refine Kp.setCell ?_ (fun _ => by simp) _
    refine Kp.setCell ?_ (fun _ => by simp) _
    refine Kp.setCell ?_ (fun _ => by simp) _
    exact Kp.refl _ _
  have hq := own_hi h.own1
  have hbse := h.base
  have ow := own_set (own_set (own_set h.own1 (j := k * 3) x) (j := k * 3 + 1) y) (j := k * 3 + 2) z
  rw [set3 hl hk] at ow
  refine ⟨⟨?_, ?_, ?_, ow, ?_, ?_, h.base⟩, hK⟩
  · exact Below.setCell (Below.setCell (Below.setCell h.bel (by show w.heap.size ≤ q; omega) _) (by show w.heap.size ≤ q; omega) _) (by show w.heap.size ≤ q; omega) _
  · exact h.box.kp hK (by omega)
  · exact h.tbox.kp hK (fun e => by subst e; exact absurd (own_type h.own1 rfl h.tbox) (by decide))
  · exact own_kpV h.own2 hK (fun b hv e => by subst e; exact own_apart h.own1 h.own2 (by decide) b rfl hv)
  · exact own_kpV h.own3 hK (fun b hv e => by subst e; exact own_apart h.own1 h.own3 (by decide) b rfl hv)
theorem Ord.set2 {w W : World} {bx tx : Array Value} {b5 B q c : Nat} {um ut : Value} {M E T : Nat} {rm re rt : List (List Value)} (h : Ord w bx tx b5 B um (.slice (some ⟨q, 0, none⟩) E c) ut M E T rm re rt W) (hl : ∀ r ∈ re, r.length = 2) {k : Nat} (hk : k < re.length) (x y : Value) :
    Ord w bx tx b5 B um (.slice (some ⟨q, 0, none⟩) E c) ut M E T rm (re.set k [x, y]) rt ((W.setCell ⟨q, k * 2, none⟩ x).setCell ⟨q, k * 2 + 1, none⟩ y) ∧ Kp (fun b => b = q) W ((W.setCell ⟨q, k * 2, none⟩ x).setCell ⟨q, k * 2 + 1, none⟩ y) := by
  have hK : Kp (fun b => b = q) W ((W.setCell ⟨q, k * 2, none⟩ x).setCell ⟨q, k * 2 + 1, none⟩ y) := by
    refine Kp.setCell ?_ (fun _ => by simp) _
    refine Kp.setCell ?_ (fun _ => by simp) _
    exact Kp.refl _ _
  have hq := own_hi h.own2
  have hbse := h.base
  have ow := own_set (own_set h.own2 (j := k * 2) x) (j := k * 2 + 1) y
  rw [Go.Proofs.Ytomeppgmmlaibaa.set2 hl hk] at ow
  refine ⟨⟨?_, ?_, ?_, ?_, ow, ?_, h.base⟩, hK⟩
  · exact Below.setCell (Below.setCell h.bel (by show w.heap.size ≤ q; omega) _) (by show w.heap.size ≤ q; omega) _
  · exact h.box.kp hK (by omega)
  · exact h.tbox.kp hK (fun e => by subst e; exact absurd (own_type h.own2 rfl h.tbox) (by decide))
  · exact own_kpV h.own1 hK (fun b hv e => by subst e; exact own_apart h.own2 h.own1 (by decide) b rfl hv)
  · exact own_kpV h.own3 hK (fun b hv e => by subst e; exact own_apart h.own2 h.own3 (by decide) b rfl hv)
theorem Ord.set3 {w W : World} {bx tx : Array Value} {b5 B q c : Nat} {um ue : Value} {M E T : Nat} {rm re rt : List (List Value)} (h : Ord w bx tx b5 B um ue (.slice (some ⟨q, 0, none⟩) T c) M E T rm re rt W) (hl : ∀ r ∈ rt, r.length = 3) {k : Nat} (hk : k < rt.length) (x y z : Value) :
    Ord w bx tx b5 B um ue (.slice (some ⟨q, 0, none⟩) T c) M E T rm re (rt.set k [x, y, z]) (((W.setCell ⟨q, k * 3, none⟩ x).setCell ⟨q, k * 3 + 1, none⟩ y).setCell ⟨q, k * 3 + 2, none⟩ z) ∧ Kp (fun b => b = q) W (((W.setCell ⟨q, k * 3, none⟩ x).setCell ⟨q, k * 3 + 1, none⟩ y).setCell ⟨q, k * 3 + 2, none⟩ z) := by
  have hK : Kp (fun b => b = q) W (((W.setCell ⟨q, k * 3, none⟩ x).setCell ⟨q, k * 3 + 1, none⟩ y).setCell ⟨q, k * 3 + 2, none⟩ z) := by
    refine Kp.setCell ?_ (fun _ => by simp) _
    refine Kp.setCell ?_ (fun _ => by simp) _
    refine Kp.setCell ?_ (fun _ => by simp) _
    exact Kp.refl _ _
  have hq := own_hi h.own3
  have hbse := h.base
  have ow := own_set (own_set (own_set h.own3 (j := k * 3) x) (j := k * 3 + 1) y) (j := k * 3 + 2) z
  rw [Go.Proofs.Ytomeppgmmlaibaa.set3 hl hk] at ow
  refine ⟨⟨?_, ?_, ?_, ?_, ?_, ow, h.base⟩, hK⟩
  · exact Below.setCell (Below.setCell (Below.setCell h.bel (by show w.heap.size ≤ q; omega) _) (by show w.heap.size ≤ q; omega) _) (by show w.heap.size ≤ q; omega) _
  · exact h.box.kp hK (by omega)
  · exact h.tbox.kp hK (fun e => by subst e; exact absurd (own_type h.own3 rfl h.tbox) (by decide))
  · exact own_kpV h.own1 hK (fun b hv e => by subst e; exact own_apart h.own3 h.own1 (by decide) b rfl hv)
  · exact own_kpV h.own2 hK (fun b hv e => by subst e; exact own_apart h.own3 h.own2 (by decide) b rfl hv)
theorem set_len {n : Nat} {rs : List (List Value)} (hl : ∀ r ∈ rs, r.length = n) (k : Nat) {r : List Value} (hr : r.length = n) : ∀ q ∈ rs.set k r, q.length = n := fun q hq => by
  rcases List.mem_or_eq_of_mem_set hq with h | rfl
  · exact hl q h
  · exact hr
theorem scW_perm {s t : ScS} (h : ScW s) (hn : t.name = s.name) (pm : t.msgs.Perm s.msgs) (pe : t.enums.Perm s.enums) (pt : t.methods.Perm s.methods) : ScW t := by
  obtain ⟨h1, h2, h3, h4⟩ := h
  exact ⟨by rw [hn]; exact h1, fun m hm => h2 m (pm.mem_iff.1 hm), fun m hm => h3 m (pe.mem_iff.1 hm), fun m hm => h4 m (pt.mem_iff.1 hm)⟩
def OrdM (w : World) (bx tx : Array Value) (b5 B : Nat) (um ue ut : Value) (M E T : Nat) (re rt : List (List Value)) (ms : List MsS) (p i : Nat) (W : World) : Prop :=
  ∃ rs, Ord w bx tx b5 B um ue ut M E T rs re rt W ∧ rs.length = M ∧ (∀ r ∈ rs, r.length = 3) ∧ Done (srcM w ms) (fun j => (j + p) % M) i rs
def OrdE (w : World) (bx tx : Array Value) (b5 B : Nat) (um ue ut : Value) (M E T : Nat) (rm rt : List (List Value)) (es : List EnS) (i : Nat) (W : World) : Prop :=
  ∃ rs, Ord w bx tx b5 B um ue ut M E T rm rs rt W ∧ rs.length = E ∧ (∀ r ∈ rs, r.length = 2) ∧ Done (srcE w es) (fun j => E - 1 - j) i rs
def OrdT (w : World) (bx tx : Array Value) (b5 B : Nat) (um ue ut : Value) (M E T : Nat) (rm re : List (List Value)) (ts : List MtS) (i : Nat) (W : World) : Prop :=
  ∃ rs, Ord w bx tx b5 B um ue ut M E T rm re rs W ∧ rs.length = T ∧ (∀ r ∈ rs, r.length = 3) ∧ Done (srcT ts) (fun j => T - 1 - j) i rs
end Go.Proofs.Ytomeppgmmlaibaa
