/- A set of places in a map. -/
import Derived.Test.YtgedelgdjcnogabPlKey
import Derived.MapKept
import Derived.Maps.OwnSet
namespace Go.Proofs.Ytgedelgdjcnogab
open Go.ChangeShapes Go.WideShapes Go.ChangeAt Go.RowKit
set_option linter.unusedVariables false
set_option linter.unusedSimpArgs false
set_option maxRecDepth 20000

/-- Block b is a set of just these keys. -/
def PlSet (w : World) (b : Nat) (L : List Value) : Prop := ∃ es clock, w.heap[b]? = some (.map es clock) ∧ es.toList.map MapEntry.key = L ∧ ∀ e ∈ es.toList, e.val = .agg #[]
theorem PlSet.lt {w : World} {b : Nat} {L : List Value} (h : PlSet w b L) : b < w.heap.size := by
  obtain ⟨es, c, h, _⟩ := h
  exact (Array.getElem?_eq_some_iff.1 h).1
theorem PlSet.kp {S : Nat → Prop} {w w1 : World} {b : Nat} {L : List Value} (h : PlSet w b L) (hk : Kp S w w1) (hs : ¬ S b) : PlSet w1 b L := by
  have hl := h.lt
  obtain ⟨es, c, h1, h2⟩ := h
  exact ⟨es, c, (hk.block b hl hs).trans h1, h2⟩
theorem PlSet.below {w w1 : World} {b : Nat} {L : List Value} (h : PlSet w b L) (hk : Below w.heap.size w w1) : PlSet w1 b L := h.kp (S := fun _ => False) (Kp.ofBelow hk) (fun e => e)
theorem PlSet.made (w : World) : PlSet (w.alloc (.map #[] 0)) w.heap.size [] := ⟨#[], 0, heap_alloc_new w _, rfl, by simp⟩
/-- A cell's block is no map's. -/
theorem PlSet.ne {w : World} {b : Nat} {L : List Value} (h : PlSet w b L) {p : Addr} {u : Value} (hc : w.cell? p = some u) : p.block ≠ b := by
  rintro rfl
  obtain ⟨es, c, hb, _⟩ := h
  simp [World.cell?, hb] at hc
theorem PlSet.neB {w : World} {b : Nat} {L : List Value} (h : PlSet w b L) {g : Nat} {cs : Array Value} {t : TypeId} {fz : Nat × Nat} (hc : w.heap[g]? = some (.cells cs t fz)) : g ≠ b := by
  rintro rfl
  obtain ⟨es, c, hb, _⟩ := h
  rw [hb] at hc; cases hc
section
variable {T MT : TypeId} {w : World} {k : Value}
/-- The keys of a type are told apart, in this world. -/
def Told (T : TypeId) (w : World) (k : Value) (L : List Value) : Prop := ∀ q ∈ L, (k = q → (Op.equal T k q).run Try.prog w = .ok true w) ∧ (k ≠ q → (Op.equal T k q).run Try.prog w = .ok false w)
theorem find_ask : ∀ (l : List MapEntry) (i : Nat), Told T w k (l.map MapEntry.key) → (∀ e ∈ l, e.val = .agg #[]) →
    (k ∈ l.map MapEntry.key → ∃ j, (Instr.findAsking T k l i).run Try.prog w = .ok (some (j, .agg #[])) w) ∧ (k ∉ l.map MapEntry.key → (Instr.findAsking T k l i).run Try.prog w = .ok none w)
  | [], i, _, _ => by simp [Instr.findAsking]
  | e :: l, i, ht, hv => by
    have ih := find_ask l (i + 1) (fun q hq => ht q (List.mem_cons_of_mem _ hq)) (fun x hx => hv x (List.mem_cons_of_mem _ hx))
    obtain ⟨h1, h2⟩ := ht e.key (List.mem_cons_self ..)
    have h3 := hv e (List.mem_cons_self ..)
    by_cases hke : k = e.key
    · refine ⟨fun _ => ⟨i, ?_⟩, fun h => absurd (by rw [hke]; simp) h⟩
      unfold Instr.findAsking
      rw [Sem.run_bind, h1 hke]
      simp [Result.andThen, h3]
    · have hrun : (Instr.findAsking T k (e :: l) i).run Try.prog w = (Instr.findAsking T k l (i + 1)).run Try.prog w := by
        conv => lhs; unfold Instr.findAsking
        rw [Sem.run_bind, h2 hke]
        simp [Result.andThen]
      refine ⟨fun h => ?_, fun h => ?_⟩
      · rcases List.mem_cons.1 h with h | h
        · exact absurd h hke
        · obtain ⟨j, hj⟩ := ih.1 h
          exact ⟨j, hrun.trans hj⟩
      · exact hrun.trans (ih.2 fun h2 => h (List.mem_cons_of_mem _ h2))
theorem find_key {fs : TypeDesc} (hu : Try.prog.underlying T = some fs) (hf : ∀ k q, Instr.sameNow fs (.agg k) q = none) {ks : Array Value} (hk : k = .agg ks) (l : List MapEntry) (ht : Told T w k (l.map MapEntry.key)) (hv : ∀ e ∈ l, e.val = .agg #[]) :
    (k ∈ l.map MapEntry.key → ∃ j, (Instr.findKey T k l).run Try.prog w = .ok (some (j, .agg #[])) w) ∧ (k ∉ l.map MapEntry.key → (Instr.findKey T k l).run Try.prog w = .ok none w) := by
  cases l with
  | nil => simp [Instr.findKey, run_underlying hu, Instr.findNow]
  | cons e l =>
    have h1 : Instr.findNow fs k (e :: l) 0 = none := by rw [hk]; simp [Instr.findNow, hf]
    have h2 : (Instr.findKey T k (e :: l)).run Try.prog w = (Instr.findAsking T k (e :: l) 0).run Try.prog w := by
      simp [Instr.findKey, run_underlying hu, h1]
    rw [h2]
    exact find_ask (e :: l) 0 ht hv
variable {E : TypeId} {L : List Value} {b : Nat}
theorem look_pl (hm : Try.prog.underlying MT = some (.map T E)) (hz : ∀ w, (zeroValue E).run Try.prog w = .ok (.agg #[]) w) {fs : TypeDesc} (hu : Try.prog.underlying T = some fs) (hf : ∀ k q, Instr.sameNow fs (.agg k) q = none) {ks : Array Value} (hk : k = .agg ks)
    (hc : ∀ e, (Instr.checkKey e 10000 T k).run Try.prog w = .ok () w) (hs : PlSet w b L) (ht : Told T w k L) (r : Bool) (hr : r = true ↔ k ∈ L) :
    (Instr.lookup MT (.map (some b)) k true).run Try.prog w = .ok (.tuple #[.agg #[], .bool r]) w := by
  obtain ⟨es, c, h1, rfl, h3⟩ := hs
  have hfk := find_key hu hf hk es.toList ht h3
  have hgo : (getObj b).run Try.prog w = .ok (.map es c) w := by simp [getObj, Sem.run, h1]
  by_cases hm' : k ∈ es.toList.map MapEntry.key
  · obtain ⟨j, hj⟩ := hfk.1 hm'
    obtain rfl : r = true := hr.2 hm'
    simp [Instr.lookup, run_underlying hm, hgo, hc, hj]
  · have hj := hfk.2 hm'
    obtain rfl : r = false := by cases r; rfl; exact absurd (hr.1 rfl) hm'
    simp [Instr.lookup, run_underlying hm, hgo, hc, hj, hz]
theorem update_pl (hm : Try.prog.underlying MT = some (.map T E)) {fs : TypeDesc} (hu : Try.prog.underlying T = some fs) (hf : ∀ k q, Instr.sameNow fs (.agg k) q = none) {ks : Array Value} (hk : k = .agg ks)
    (hc : ∀ e, (Instr.checkKey e 10000 T k).run Try.prog w = .ok () w) (hs : PlSet w b L) (ht : Told T w k L) (hn : k ∉ L) :
    ∃ w', (Instr.mapUpdate MT (.map (some b)) k (.agg #[])).run Try.prog w = .ok () w' ∧ PlSet w' b (L ++ [k]) ∧ Kp (fun q => q = b) w w' ∧ w'.heap.size = w.heap.size := by
  obtain ⟨es, c, h1, rfl, h3⟩ := hs
  have hj := (find_key hu hf hk es.toList ht h3).2 hn
  have hgo : (getObj b).run Try.prog w = .ok (.map es c) w := by simp [getObj, Sem.run, h1]
  have hse : ∀ o, (setObj b o).run Try.prog w = .ok () { w with heap := w.heap.setIfInBounds b o } := fun o => by simp [setObj, Sem.run, h1]
  refine ⟨{ w with heap := w.heap.setIfInBounds b (.map (es.push { key := k, val := .agg #[], born := c }) (c + 1)) }, ?_, ?_, ?_, by simp⟩
  · simp [Instr.mapUpdate, run_underlying hm, hgo, hc, hj, hse]
  · refine ⟨es.push { key := k, val := .agg #[], born := c }, c + 1, ?_, by simp, ?_⟩
    · have := (Array.getElem?_eq_some_iff.1 h1).1
      simp [this]
    · intro e he
      simp only [Array.toList_push, List.mem_append, List.mem_singleton] at he
      rcases he with he | rfl
      · exact h3 e he
      · rfl
  · refine ⟨rfl, rfl, rfl, by simp, fun q hq hs => ?_⟩
    simp only
    rw [Array.getElem?_setIfInBounds_ne (Ne.symm hs)]
theorem wpList_lookup_pl {ops : Array Oper} {rest : List Oper} {o : Oper} {a : Act} {Q : Exit → Act → World → Prop} (hgd : o.guard = none) (m x : Operand) (hop : o.op = Op.lookup MT m x true) {v : Value}
    (hmm : a.eval m = .map (some b)) (hx : a.eval x = k) (hr : (Instr.lookup MT (.map (some b)) k true).run Try.prog w = .ok v w) (h : wpList Try.prog ops Q rest (a.put o.dst v) w) : wpList Try.prog ops Q (o :: rest) a w :=
  wpList_plain hgd fun K hK => by
    unfold Oper.wp
    simp [execOp, hop, hmm, hx, hr, Result.andThen]
    exact hK _ _ h
theorem wpList_update_pl {ops : Array Oper} {rest : List Oper} {o : Oper} {a : Act} {Q : Exit → Act → World → Prop} (hgd : o.guard = none) (m x y : Operand) (hop : o.op = Op.mapUpdate MT m x y) {w' : World} {v : Value}
    (hmm : a.eval m = .map (some b)) (hx : a.eval x = k) (hy : a.eval y = v) (hr : (Instr.mapUpdate MT (.map (some b)) k v).run Try.prog w = .ok () w') (h : wpList Try.prog ops Q rest (a.put o.dst undef) w') : wpList Try.prog ops Q (o :: rest) a w :=
  wpList_plain hgd fun K hK => by
    unfold Oper.wp
    simp [execOp, hop, hmm, hx, hy, hr, Result.andThen]
    exact hK _ _ h
end
end Go.Proofs.Ytgedelgdjcnogab
