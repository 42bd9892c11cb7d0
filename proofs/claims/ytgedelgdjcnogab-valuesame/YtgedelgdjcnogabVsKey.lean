/- Pairs of places as a map's keys: a key that is new is told apart from those that are there, though it may take draws. -/
import Derived.Test.YtgedelgdjcnogabTvPlc
import Derived.Test.YtgedelgdjcnogabVsCmp
import Derived.Deep.Draws
namespace Go.Proofs.Ytgedelgdjcnogab
open Go.ChangeShapes Go.WideShapes Go.ChangeAt Go.RowKit
set_option linter.unusedVariables false
set_option linter.unusedSimpArgs false
set_option maxRecDepth 20000

theorem uPair : Try.prog.underlying 62 = some (.map 66 67) := by kernel_rfl
def prV (x y : Pl) : Value := .agg #[.pointer x.1, .int .i64 (x.2 : Int), .pointer y.1, .int .i64 (y.2 : Int)]
theorem check_pr (w : World) (b : Bool) (x y : Pl) : (Instr.checkKey b 10000 66 (prV x y)).run Try.prog w = .ok () w := by kernel_rfl
section
variable {T MT : TypeId} {w : World} {k : Value}
def Apart (T : TypeId) (w : World) (k : Value) (L : List Value) : Prop := ∀ q ∈ L, ∀ n, ∃ m, (Op.equal T k q).run Try.prog (w.drewN n) = .ok false (w.drewN m)
theorem find_askD : ∀ (l : List MapEntry) (i n : Nat), Apart T w k (l.map MapEntry.key) → ∃ m, (Instr.findAsking T k l i).run Try.prog (w.drewN n) = .ok none (w.drewN m)
  | [], i, n, _ => ⟨n, by simp [Instr.findAsking]⟩
  | e :: l, i, n, ht => by
    obtain ⟨m, hm⟩ := ht e.key (List.mem_cons_self ..) n
    obtain ⟨q, hq⟩ := find_askD l (i + 1) m (fun q hq => ht q (List.mem_cons_of_mem _ hq))
    refine ⟨q, ?_⟩
    unfold Instr.findAsking
    rw [Sem.run_bind, hm]
    simp only [Result.andThen_ok]
    exact hq
theorem find_keyD {fs : TypeDesc} (hu : Try.prog.underlying T = some fs) (hf : ∀ k q, Instr.sameNow fs (.agg k) q = none) {ks : Array Value} (hk : k = .agg ks) (l : List MapEntry) (ht : Apart T w k (l.map MapEntry.key)) : ∃ m, (Instr.findKey T k l).run Try.prog w = .ok none (w.drewN m) := by
  cases l with
  | nil => exact ⟨0, by simp [Instr.findKey, run_underlying hu, Instr.findNow, World.drewN_zero]⟩
  | cons e l =>
    obtain ⟨m, hm⟩ := find_askD (e :: l) 0 0 ht
    rw [World.drewN_zero] at hm
    have h1 : Instr.findNow fs k (e :: l) 0 = none := by rw [hk]; simp [Instr.findNow, hf]
    have h2 : (Instr.findKey T k (e :: l)).run Try.prog w = (Instr.findAsking T k (e :: l) 0).run Try.prog w := by
      simp [Instr.findKey, run_underlying hu, h1]
    exact ⟨m, h2.trans hm⟩
variable {E : TypeId} {L : List Value} {b : Nat}
theorem look_new (hm : Try.prog.underlying MT = some (.map T E)) (hz : ∀ w, (zeroValue E).run Try.prog w = .ok (.agg #[]) w) {fs : TypeDesc} (hu : Try.prog.underlying T = some fs) (hf : ∀ k q, Instr.sameNow fs (.agg k) q = none) {ks : Array Value} (hk : k = .agg ks)
    (hc : ∀ w e, (Instr.checkKey e 10000 T k).run Try.prog w = .ok () w) (hs : PlSet w b L) (ht : Apart T w k L) :
    ∃ m, (Instr.lookup MT (.map (some b)) k true).run Try.prog w = .ok (.tuple #[.agg #[], .bool false]) (w.drewN m) := by
  obtain ⟨es, c, h1, rfl, h3⟩ := hs
  obtain ⟨m, hj⟩ := find_keyD hu hf hk es.toList ht
  have hgo : (getObj b).run Try.prog w = .ok (.map es c) w := by simp [getObj, Sem.run, h1]
  exact ⟨m, by simp [Instr.lookup, run_underlying hm, hgo, hc, hj, hz]⟩
theorem update_new (hm : Try.prog.underlying MT = some (.map T E)) {fs : TypeDesc} (hu : Try.prog.underlying T = some fs) (hf : ∀ k q, Instr.sameNow fs (.agg k) q = none) {ks : Array Value} (hk : k = .agg ks)
    (hc : ∀ w e, (Instr.checkKey e 10000 T k).run Try.prog w = .ok () w) (hs : PlSet w b L) (ht : Apart T w k L) :
    ∃ w', (Instr.mapUpdate MT (.map (some b)) k (.agg #[])).run Try.prog w = .ok () w' ∧ PlSet w' b (L ++ [k]) ∧ Kp (fun q => q = b) w w' ∧ w'.heap.size = w.heap.size := by
  obtain ⟨es, c, h1, rfl, h3⟩ := hs
  obtain ⟨m, hj⟩ := find_keyD hu hf hk es.toList ht
  have hgo : ∀ m, (getObj b).run Try.prog (w.drewN m) = .ok (.map es c) (w.drewN m) := fun m => by simp [getObj, Sem.run, h1]
  have hgo0 : (getObj b).run Try.prog w = .ok (.map es c) w := hgo 0
  have hse : ∀ o, (setObj b o).run Try.prog (w.drewN m) = .ok () { w.drewN m with heap := w.heap.setIfInBounds b o } := fun o => by simp [setObj, Sem.run, h1]
  refine ⟨{ w.drewN m with heap := w.heap.setIfInBounds b (.map (es.push { key := k, val := .agg #[], born := c }) (c + 1)) }, ?_, ?_, ?_, by simp⟩
  · simp [Instr.mapUpdate, run_underlying hm, hgo0, hc, hj, hse]
  · refine ⟨es.push { key := k, val := .agg #[], born := c }, c + 1, ?_, by simp, ?_⟩
    · have := (Array.getElem?_eq_some_iff.1 h1).1
      simp [this]
    · intro e he
      simp only [Array.toList_push, List.mem_append, List.mem_singleton] at he
      rcases he with he | rfl
      · exact h3 e he
      · rfl
  · refine ⟨rfl, rfl, rfl, by simp, fun q hq hs => ?_⟩
    simp only
    rw [Array.getElem?_setIfInBounds_ne (Ne.symm hs)]
theorem wpList_lookup_drew {ops : Array Oper} {rest : List Oper} {o : Oper} {a : Act} {Q : Exit → Act → World → Prop} (hgd : o.guard = none) (m x : Operand) (hop : o.op = Op.lookup MT m x true) {v : Value} {w' : World}
    (hmm : a.eval m = .map (some b)) (hx : a.eval x = k) (hr : (Instr.lookup MT (.map (some b)) k true).run Try.prog w = .ok v w') (h : wpList Try.prog ops Q rest (a.put o.dst v) w') : wpList Try.prog ops Q (o :: rest) a w :=
  wpList_plain hgd fun K hK => by
    unfold Oper.wp
    simp [execOp, hop, hmm, hx, hr, Result.andThen]
    exact hK _ _ h
end
theorem uArr : Try.prog.underlying 66 = some (.array 2 64) := by kernel_rfl
theorem zPlace : ∃ j, Try.prog.info? 64 = some j ∧ j.size = 2 := by
  have hi : (Try.prog.info? 64).map (fun i => i.size) = some 2 := by kernel_rfl
  cases h : Try.prog.info? 64 with
  | none => rw [h] at hi; cases hi
  | some j => rw [h] at hi; exact ⟨j, rfl, by simpa using hi⟩
theorem part_pr (a b c d : Value) (w : World) : (part 64 #[a, b, c, d] 0).run Try.prog w = .ok (.agg #[a, b]) w ∧ (part 64 #[a, b, c, d] 2).run Try.prog w = .ok (.agg #[c, d]) w := ⟨by kernel_rfl, by kernel_rfl⟩
theorem eql_plF (w w1 : World) (d : Nat) (x y : Pl) (h : (Op.equalIn (d + 1) 30 (.pointer x.1) (.pointer y.1)).run Try.prog w = .ok false w1) : (Op.equalIn (d + 2) 64 (plV x) (plV y)).run Try.prog w = .ok false w1 := by
  obtain ⟨p, m⟩ := x
  obtain ⟨q, n⟩ := y
  simp only at h
  simp [plV, go_sem, h]
theorem eql_plT (w w1 : World) (d : Nat) (x y : Pl) (h : (Op.equalIn (d + 1) 30 (.pointer x.1) (.pointer y.1)).run Try.prog w = .ok true w1) : ∃ r, (Op.equalIn (d + 2) 64 (plV x) (plV y)).run Try.prog w = .ok r w1 := by
  obtain ⟨p, m⟩ := x
  obtain ⟨q, n⟩ := y
  simp only at h
  by_cases e : (m : Int) = (n : Int)
  · exact ⟨true, by simp [plV, go_sem, h, e]⟩
  · exact ⟨false, by simp [plV, go_sem, h, e]⟩
theorem eql_arrF (w w1 : World) (x y x' y' : Pl) (h : (Op.equalIn 9999 64 (plV x) (plV x')).run Try.prog w = .ok false w1) : (Op.equal 66 (prV x y) (prV x' y')).run Try.prog w = .ok false w1 := by
  obtain ⟨j, hj, hs⟩ := zPlace
  have hc : Try.prog.cellsOf 64 = 2 := by kernel_rfl
  unfold Op.equal Op.maxDepth prV
  rw [run_equalIn_array w 9999 _ _ uArr hj, hc, show List.range 2 = [0, 1] from rfl, Op.eqItems, Sem.run_bind, Nat.zero_mul, (part_pr _ _ _ _ w).1, Result.andThen_ok, Sem.run_bind, (part_pr _ _ _ _ w).1, Result.andThen_ok, Sem.run_bind]
  unfold plV at h
  rw [h, Result.andThen_ok]
  simp
theorem eql_arrT (w w1 w2 : World) (x y x' y' : Pl) (h : (Op.equalIn 9999 64 (plV x) (plV x')).run Try.prog w = .ok true w1) (k : (Op.equalIn 9999 64 (plV y) (plV y')).run Try.prog w1 = .ok false w2) : (Op.equal 66 (prV x y) (prV x' y')).run Try.prog w = .ok false w2 := by
  obtain ⟨j, hj, hs⟩ := zPlace
  have hc : Try.prog.cellsOf 64 = 2 := by kernel_rfl
  unfold Op.equal Op.maxDepth prV
  rw [run_equalIn_array w 9999 _ _ uArr hj, hc, show List.range 2 = [0, 1] from rfl, Op.eqItems, Sem.run_bind, Nat.zero_mul, (part_pr _ _ _ _ w).1, Result.andThen_ok, Sem.run_bind, (part_pr _ _ _ _ w).1, Result.andThen_ok, Sem.run_bind]
  unfold plV at h k
  rw [h, Result.andThen_ok]
  simp only [Bool.not_true, Bool.false_eq_true, if_false]
  rw [Op.eqItems, Sem.run_bind, Nat.one_mul, (part_pr _ _ _ _ w1).2, Result.andThen_ok, Sem.run_bind, (part_pr _ _ _ _ w1).2, Result.andThen_ok, Sem.run_bind, k, Result.andThen_ok]
  simp
/-- An address that came in: it may be asked for, and may take a draw. -/
def PlU (w : World) (x : Pl) : Prop := ∀ a, x.1 = some a → w.frozen? a = false ∧ ∃ cs ty fz, w.heap[a.block]? = some (.cells cs ty fz)
theorem eql_ptrU (w : World) (n d : Nat) (p q : Option Addr) (hp : ∀ a, p = some a → w.frozen? a = false ∧ ∃ cs ty fz, w.heap[a.block]? = some (.cells cs ty fz)) (hq : ∀ a, q = some a → w.frozen? a = false ∧ ∃ cs ty fz, w.heap[a.block]? = some (.cells cs ty fz)) :
    ∃ r m, (Op.equalIn (d + 1) 30 (.pointer p) (.pointer q)).run Try.prog (w.drewN n) = .ok r (w.drewN m) := by
  have hu : Try.prog.underlying 30 = some (.pointer 33) := by kernel_rfl
  have hi : (Try.prog.info? 33).map (fun i => i.size) = some 2 := by kernel_rfl
  obtain ⟨j, hj, hs⟩ : ∃ j, Try.prog.info? 33 = some j ∧ j.size = 2 := by
    cases h : Try.prog.info? 33 with
    | none => rw [h] at hi; cases hi
    | some j => rw [h] at hi; exact ⟨j, rfl, by simpa using hi⟩
  cases p with
  | none => exact ⟨q.isNone, n, by cases q <;> simp [Op.equalIn, run_underlying hu]⟩
  | some a =>
    cases q with
    | none => exact ⟨false, n, by simp [Op.equalIn, run_underlying hu]⟩
    | some b =>
      obtain ⟨fa, ca, ta, za, ha⟩ := hp a rfl
      obtain ⟨fb, cb, tb, zb, hb⟩ := hq b rfl
      have hx : ∀ r W, (sameAddr a b).run Try.prog (w.drewN n) = .ok r W → (Op.equalIn (d + 1) 30 (.pointer (some a)) (.pointer (some b))).run Try.prog (w.drewN n) = .ok r W := fun r W h => by
        simp [Op.equalIn, run_underlying hu, sizeOf, typeInfo, hj, hs, h]
      by_cases e : a.block = b.block
      · exact ⟨a == b, n, hx _ _ (by simp [sameAddr, e])⟩
      · obtain ⟨c, hc⟩ : ∃ c, (mayBeOne a b).run Try.prog (w.drewN n) = .ok c (w.drewN n) := by
          have sa : (stringish a).run Try.prog (w.drewN n) = .ok (w.frozen? ⟨a.block, ca.size, none⟩) (w.drewN n) := by simp [stringish, World.shape?, ha, fa]
          have sb : (stringish b).run Try.prog (w.drewN n) = .ok (w.frozen? ⟨b.block, cb.size, none⟩) (w.drewN n) := by simp [stringish, World.shape?, hb, fb]
          cases h1 : w.frozen? ⟨a.block, ca.size, none⟩ <;> cases h2 : w.frozen? ⟨b.block, cb.size, none⟩ <;> rw [h1] at sa <;> rw [h2] at sb <;> by_cases z1 : ca.size = 0 <;> by_cases z2 : cb.size = 0 <;>
            first
              | (refine ⟨false, ?_⟩; simp [mayBeOne, sa, sb, World.shape?, ha, hb, z1, z2]; done)
              | (refine ⟨true, ?_⟩; simp [mayBeOne, sa, sb, World.shape?, ha, hb, z1, z2]; done)
        cases c with
        | false => exact ⟨false, n, hx _ _ (by simp [sameAddr, e, fa, fb, noView, viewAt, World.shape?, ha, hb, hc])⟩
        | true =>
          have h9 := run_choose_drew Try.prog (w.drewN n) (.extern "sameAddr.stringBytes" 2)
          exact ⟨_, n + 1, hx _ _ (by simp [sameAddr, e, fa, fb, noView, viewAt, World.shape?, ha, hb, hc, Question.forced]; rfl)⟩
theorem ptr_ne (w : World) (d n : Nat) {g g' : Nat} {cs cs' : Array Value} {ty ty' : TypeId} (h : w.heap[g]? = some (.cells cs ty (0, 0))) (h' : w.heap[g']? = some (.cells cs' ty' (0, 0))) (hn : g ≠ g') :
    (Op.equalIn (d + 1) 30 (.pointer (some ⟨g, 0, none⟩)) (.pointer (some ⟨g', 0, none⟩))).run Try.prog (w.drewN n) = .ok false (w.drewN n) := by
  have := eql_ptr (w.drewN n) d (some ⟨g, 0, none⟩) (some ⟨g', 0, none⟩) (fun a ha => by cases ha; exact ⟨_, _, h⟩) (fun a ha => by cases ha; exact ⟨_, _, h'⟩)
  rw [this, decide_eq_false (by simp only [Option.some.injEq, Addr.mk.injEq, and_true]; exact hn)]
/-- A key whose one place is of one's own. -/
def ownP (b : Bool) (s : Pl × Pl) : Pl := if b then s.2 else s.1
def hdB (p : Pl) : Nat := match p.1 with
  | some a => a.block
  | none => 0
def KeyOk (b : Bool) (w : World) (s : Pl × Pl) : Prop := (∃ g n cs ty, ownP b s = (some ⟨g, 0, none⟩, n) ∧ w.heap[g]? = some (.cells cs ty (0, 0))) ∧ (b = true → PlU w s.1)
def prK (s : Pl × Pl) : Value := prV s.1 s.2
theorem KeyOk.below {b : Bool} {w w1 : World} {s : Pl × Pl} (h : KeyOk b w s) (hb : Below w.heap.size w w1) : KeyOk b w1 s := by
  obtain ⟨⟨g, n, cs, ty, h1, h2⟩, h3⟩ := h
  have blk : ∀ k o, w.heap[k]? = some o → w1.heap[k]? = some o := fun k o h => ((Kp.ofBelow (S := fun _ => False) hb).block k (Array.getElem?_eq_some_iff.1 h).1 (fun e => e)).trans h
  refine ⟨⟨g, n, cs, ty, h1, blk _ _ h2⟩, fun e a ha => ?_⟩
  obtain ⟨k1, cs', ty', fz', k2⟩ := h3 e a ha
  refine ⟨?_, cs', ty', fz', blk _ _ k2⟩
  have := blk _ _ k2
  simp only [World.frozen?, this, k2] at k1 ⊢
  exact k1
theorem apart_key {b : Bool} {w : World} {s : Pl × Pl} {S : List (Pl × Pl)} (h : KeyOk b w s) (hS : ∀ q ∈ S, KeyOk b w q ∧ hdB (ownP b s) ≠ hdB (ownP b q)) : Apart 66 w (prK s) (S.map prK) := by
  intro k hk n
  obtain ⟨q, hq, rfl⟩ := List.mem_map.1 hk
  obtain ⟨⟨⟨g', n', cs', ty', j1, j2⟩, j3⟩, hne⟩ := hS q hq
  obtain ⟨⟨g, n0, cs, ty, h1, h2⟩, h3⟩ := h
  rw [h1, j1] at hne
  replace hne : g ≠ g' := hne
  have hp := fun d n => ptr_ne w d n h2 j2 hne
  cases b with
  | false =>
    simp only [ownP, Bool.false_eq_true, if_false] at h1 j1
    refine ⟨n, eql_arrF _ _ _ _ _ _ (eql_plF _ _ 9997 _ _ ?_)⟩
    rw [h1, j1]
    exact hp _ _
  | true =>
    simp only [ownP, if_true] at h1 j1
    obtain ⟨r, m, hr⟩ := eql_ptrU w n 9997 s.1.1 q.1.1 (h3 rfl) (j3 rfl)
    cases r with
    | false => exact ⟨m, eql_arrF _ _ _ _ _ _ (eql_plF _ _ 9997 _ _ hr)⟩
    | true =>
      obtain ⟨r2, hr2⟩ := eql_plT _ _ 9997 _ _ hr
      cases r2 with
      | false => exact ⟨m, eql_arrF _ _ _ _ _ _ hr2⟩
      | true =>
        refine ⟨m, eql_arrT _ _ _ _ _ _ _ hr2 (eql_plF _ _ 9997 _ _ ?_)⟩
        rw [h1, j1]
        exact hp _ _
end Go.Proofs.Ytgedelgdjcnogab
