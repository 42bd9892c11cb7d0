/- A schema of one's own whose rows are turned about, cell by cell. -/
import Derived.Test.YtkfhlgajeejgeaaGreatDoorPkD
import Derived.Test.YtkfhlgajeejgeaaGreatDoorPkF
import Derived.Test.YtkfhlgajeejgeaaGreatDoorPkB
namespace Go.Proofs.YtkfhlgajeejgeaaGreatDoor
open Go.ChangeShapes Go.WideShapes Go.ChangeAt Go.RowKit
set_option linter.unusedVariables false
set_option linter.unusedSimpArgs false
set_option maxRecDepth 20000

theorem set5 {fs : List FlS} {k : Nat} (hk : k < fs.length) (f : FlS) : (((((flRows fs).flatten.set (k * 5) (.string f.name)).set (k * 5 + 1) (.int .i64 f.tag)).set (k * 5 + 2) (.int .i64 f.label)).set (k * 5 + 3) (.int .i64 f.kind)).set (k * 5 + 4) (.string f.tname) = (flRows (fs.set k f)).flatten := by
  have h0 : (flRows fs)[k]? = some (fs[k]).cells := by simp [flRows, hk]
  have hkl : k < (flRows fs).length := by simpa [flRows] using hk
  have hl : ∀ r ∈ flRows fs, r.length = 5 := fl_len fs
  have ln : ∀ x : List Value, x.length = 5 → ∀ q ∈ (flRows fs).set k x, q.length = 5 := fun x hx q hq => by
    rcases List.mem_or_eq_of_mem_set hq with h | rfl
    · exact hl q h
    · exact hx
  generalize hg : fs[k] = g at h0
  obtain ⟨g0, g1, g2, g3, g4⟩ := g
  obtain ⟨f0, f1, f2, f3, f4⟩ := f
  simp only
  have e1 := flat_set (flRows fs) hl k _ h0 0 (.string f0) (by decide)
  rw [Nat.add_zero] at e1
  rw [e1]
  simp only [FlS.cells, List.set_cons_zero]
  have e2 := flat_set _ (ln _ rfl) k [.string f0, .int .i64 g1, .int .i64 g2, .int .i64 g3, .string g4] (by rw [List.getElem?_set_self hkl]) 1 (.int .i64 f1) (by decide)
  simp only [List.set_cons_zero, List.set_cons_succ, List.set_set] at e2
  rw [e2]
  have e3 := flat_set _ (ln _ rfl) k [.string f0, .int .i64 f1, .int .i64 g2, .int .i64 g3, .string g4] (by rw [List.getElem?_set_self hkl]) 2 (.int .i64 f2) (by decide)
  simp only [List.set_cons_zero, List.set_cons_succ, List.set_set] at e3
  rw [e3]
  have e4 := flat_set _ (ln _ rfl) k [.string f0, .int .i64 f1, .int .i64 f2, .int .i64 g3, .string g4] (by rw [List.getElem?_set_self hkl]) 3 (.int .i64 f3) (by decide)
  simp only [List.set_cons_zero, List.set_cons_succ, List.set_set] at e4
  rw [e4]
  have e5 := flat_set _ (ln _ rfl) k [.string f0, .int .i64 f1, .int .i64 f2, .int .i64 f3, .string g4] (by rw [List.getElem?_set_self hkl]) 4 (.string f4) (by decide)
  simp only [List.set_cons_zero, List.set_cons_succ, List.set_set] at e5
  rw [e5]
  congr 1
  unfold flRows
  rw [List.map_set]; rfl
theorem set2n {fs : List NmS} {k : Nat} (hk : k < fs.length) (f : NmS) : ((nmRows fs).flatten.set (k * 2) (.string f.name)).set (k * 2 + 1) (.int .i64 f.n) = (nmRows (fs.set k f)).flatten := by
  rw [set2 (fun r hr => by simp only [nmRows, List.mem_map] at hr; obtain ⟨_, _, rfl⟩ := hr; rfl) (by simpa [nmRows] using hk)]
  unfold nmRows
  rw [List.map_set]; rfl
theorem set1 : ∀ (fs : List Int) (k : Nat) (n : Int), (inRows fs).flatten.set k (.int .i64 n) = (inRows (fs.set k n)).flatten
  | [], k, n => rfl
  | a :: l, 0, n => rfl
  | a :: l, k + 1, n => by
    have := set1 l k n
    show (.int .i64 a :: (inRows l).flatten).set (k + 1) _ = _
    rw [List.set_cons_succ, this]; rfl
/-- t and s, as they lie. -/
structure Tm (w : World) (bx tx : Array Value) (b5 B : Nat) (um ue ut : Value) (ms : List MsS) (pm : List (Value × Value)) (es : List EnS) (pe : List Value) (ts : List MtS) (W : World) : Prop where
  bel : Below w.heap.size w W
  box : Blk W w.heap.size bx 26
  tbox : Blk W b5 tx 26
  mo : MsO W B um ms pm
  eo : EnO W B ue es pe
  own : W.ownsRow B 54 3 ut ts.length (mtRows ts).flatten
  base : w.heap.size < B
theorem Tm.below {w W W' : World} {bx tx : Array Value} {b5 B : Nat} {um ue ut : Value} {ms : List MsS} {pm : List (Value × Value)} {es : List EnS} {pe : List Value} {ts : List MtS} (h : Tm w bx tx b5 B um ue ut ms pm es pe ts W) (hb : Below W.heap.size W W') : Tm w bx tx b5 B um ue ut ms pm es pe ts W' :=
  ⟨h.bel.trans (hb.mono h.bel.size), h.box.below hb, h.tbox.below hb, h.mo.below hb, h.eo.below hb, own_below h.own hb, h.base⟩
theorem Tm.setF {w W : World} {bx tx : Array Value} {b5 B q n qc i r : Nat} {um ue ut vr : Value} {ms : List MsS} {pm : List (Value × Value)} {es : List EnS} {pe : List Value} {ts : List MtS} {m : MsS} (h : Tm w bx tx b5 B um ue ut ms pm es pe ts W) (hm : ms[i]? = some m) (hp : pm[i]? = some (.slice (some ⟨q, 0, none⟩) n qc, vr)) (hn : m.fields.length = n) (hr : r < n) (f : FlS) :
    Tm w bx tx b5 B um ue ut (ms.set i ⟨m.name, m.fields.set r f, m.reserved⟩) pm es pe ts (((((W.setCell ⟨q, r * 5, none⟩ (.string f.name)).setCell ⟨q, r * 5 + 1, none⟩ (.int .i64 f.tag)).setCell ⟨q, r * 5 + 2, none⟩ (.int .i64 f.label)).setCell ⟨q, r * 5 + 3, none⟩ (.int .i64 f.kind)).setCell ⟨q, r * 5 + 4, none⟩ (.string f.tname))
    ∧ Kp (fun b => b = q) W (((((W.setCell ⟨q, r * 5, none⟩ (.string f.name)).setCell ⟨q, r * 5 + 1, none⟩ (.int .i64 f.tag)).setCell ⟨q, r * 5 + 2, none⟩ (.int .i64 f.label)).setCell ⟨q, r * 5 + 3, none⟩ (.int .i64 f.kind)).setCell ⟨q, r * 5 + 4, none⟩ (.string f.tname)) := by
  have KS : Kp (fun b => b = q) W (((((W.setCell ⟨q, r * 5, none⟩ (.string f.name)).setCell ⟨q, r * 5 + 1, none⟩ (.int .i64 f.tag)).setCell ⟨q, r * 5 + 2, none⟩ (.int .i64 f.label)).setCell ⟨q, r * 5 + 3, none⟩ (.int .i64 f.kind)).setCell ⟨q, r * 5 + 4, none⟩ (.string f.tname)) := by
    refine Kp.setCell ?_ (fun _ => by simp) _
    refine Kp.setCell ?_ (fun _ => by simp) _
    refine Kp.setCell ?_ (fun _ => by simp) _
    refine Kp.setCell ?_ (fun _ => by simp) _
    refine Kp.setCell ?_ (fun _ => by simp) _
    exact Kp.refl _ _
  have ho := (h.mo.each i m _ hm hp).1
  rw [hn] at ho
  have hqB := own_hi ho
  have hset := own_set (own_set (own_set (own_set (own_set ho (j := r * 5) (.string f.name)) (j := r * 5 + 1) (.int .i64 f.tag)) (j := r * 5 + 2) (.int .i64 f.label)) (j := r * 5 + 3) (.int .i64 f.kind)) (j := r * 5 + 4) (.string f.tname)
  rw [set5 (by rw [hn]; exact hr) f] at hset
  have hbs := h.base
  refine ⟨⟨h.bel.trans (KS.toBelow h.bel.size (fun b e => by omega)), h.box.kp KS (by omega), h.tbox.kp KS (fun e => by subst e; exact absurd (own_type ho rfl h.tbox) (by decide)), ?_, ?_, own_kpV h.own KS (fun b hb e => by subst e; exact own_apart ho h.own (by decide) b rfl hb), h.base⟩, KS⟩
  · exact h.mo.putF hm hp (by rw [List.length_set, hn]; exact hset) (KS.weak (fun b _ e => by rw [e]; rfl))
  · exact ⟨h.eo.len, own_kpV h.eo.own KS (fun b hb e => by subst e; exact own_apart ho h.eo.own (by decide) b rfl hb), fun j e p he hpp => own_kpV (h.eo.each j e p he hpp) KS (fun b hb e' => by subst e'; exact own_apart ho (h.eo.each j e p he hpp) (by decide) b rfl hb)⟩
theorem Tm.setR {w W : World} {bx tx : Array Value} {b5 B q n qc i r : Nat} {um ue ut vf : Value} {ms : List MsS} {pm : List (Value × Value)} {es : List EnS} {pe : List Value} {ts : List MtS} {m : MsS} (h : Tm w bx tx b5 B um ue ut ms pm es pe ts W) (ha : ApR pm) (hm : ms[i]? = some m) (hp : pm[i]? = some (vf, .slice (some ⟨q, 0, none⟩) n qc)) (hn : m.reserved.length = n) (hr : r < n) (f : Int) :
    Tm w bx tx b5 B um ue ut (ms.set i ⟨m.name, m.fields, m.reserved.set r f⟩) pm es pe ts (W.setCell ⟨q, r, none⟩ (.int .i64 f)) ∧ Kp (fun b => b = q) W (W.setCell ⟨q, r, none⟩ (.int .i64 f)) := by
  have KS : Kp (fun b => b = q) W (W.setCell ⟨q, r, none⟩ (.int .i64 f)) := by
    refine Kp.setCell ?_ (fun _ => by simp) _
    exact Kp.refl _ _
  have ho := (h.mo.each i m _ hm hp).2
  rw [hn] at ho
  have hqB := own_hi ho
  have hset := own_set ho (j := r) (.int .i64 f)
  rw [set1] at hset
  have hbs := h.base
  refine ⟨⟨h.bel.trans (KS.toBelow h.bel.size (fun b e => by omega)), h.box.kp KS (by omega), h.tbox.kp KS (fun e => by subst e; exact absurd (own_type ho rfl h.tbox) (by decide)), ?_, ?_, own_kpV h.own KS (fun b hb e => by subst e; exact own_apart ho h.own (by decide) b rfl hb), h.base⟩, KS⟩
  · exact h.mo.putR ha hm hp (by rw [List.length_set, hn]; exact hset) (KS.weak (fun b _ e => by rw [e]; rfl))
  · exact ⟨h.eo.len, own_kpV h.eo.own KS (fun b hb e => by subst e; exact own_apart ho h.eo.own (by decide) b rfl hb), fun j e p he hpp => own_kpV (h.eo.each j e p he hpp) KS (fun b hb e' => by subst e'; exact own_apart ho (h.eo.each j e p he hpp) (by decide) b rfl hb)⟩
theorem Tm.setV {w W : World} {bx tx : Array Value} {b5 B q n qc i r : Nat} {um ue ut : Value} {ms : List MsS} {pm : List (Value × Value)} {es : List EnS} {pe : List Value} {ts : List MtS} {m : EnS} (h : Tm w bx tx b5 B um ue ut ms pm es pe ts W) (ha : ApE pe) (hm : es[i]? = some m) (hp : pe[i]? = some (.slice (some ⟨q, 0, none⟩) n qc)) (hn : m.values.length = n) (hr : r < n) (f : NmS) :
    Tm w bx tx b5 B um ue ut ms pm (es.set i ⟨m.name, m.values.set r f⟩) pe ts ((W.setCell ⟨q, r * 2, none⟩ (.string f.name)).setCell ⟨q, r * 2 + 1, none⟩ (.int .i64 f.n)) ∧ Kp (fun b => b = q) W ((W.setCell ⟨q, r * 2, none⟩ (.string f.name)).setCell ⟨q, r * 2 + 1, none⟩ (.int .i64 f.n)) := by
  have KS : Kp (fun b => b = q) W ((W.setCell ⟨q, r * 2, none⟩ (.string f.name)).setCell ⟨q, r * 2 + 1, none⟩ (.int .i64 f.n)) := by
    refine Kp.setCell ?_ (fun _ => by simp) _
    refine Kp.setCell ?_ (fun _ => by simp) _
    exact Kp.refl _ _
  have ho := h.eo.each i m _ hm hp
  rw [hn] at ho
  have hqB := own_hi ho
  have hset := own_set (own_set ho (j := r * 2) (.string f.name)) (j := r * 2 + 1) (.int .i64 f.n)
  rw [set2n (by rw [hn]; exact hr) f] at hset
  have hbs := h.base
  refine ⟨⟨h.bel.trans (KS.toBelow h.bel.size (fun b e => by omega)), h.box.kp KS (by omega), h.tbox.kp KS (fun e => by subst e; exact absurd (own_type ho rfl h.tbox) (by decide)), ?_, ?_, own_kpV h.own KS (fun b hb e => by subst e; exact own_apart ho h.own (by decide) b rfl hb), h.base⟩, KS⟩
  · exact ⟨h.mo.len, own_kpV h.mo.own KS (fun b hb e => by subst e; exact own_apart ho h.mo.own (by decide) b rfl hb), fun j m' p hm' hp' => ⟨own_kpV (h.mo.each j m' p hm' hp').1 KS (fun b hb e => by subst e; exact own_apart ho (h.mo.each j m' p hm' hp').1 (by decide) b rfl hb), own_kpV (h.mo.each j m' p hm' hp').2 KS (fun b hb e => by subst e; exact own_apart ho (h.mo.each j m' p hm' hp').2 (by decide) b rfl hb)⟩, h.mo.apart⟩
  · exact h.eo.putV ha hm hp (by rw [List.length_set, hn]; exact hset) (KS.weak (fun b _ e => by rw [e]; rfl))
end Go.Proofs.YtkfhlgajeejgeaaGreatDoor
