/- What Rising and upTo answer; a copy of fields into a row of the call's own. -/
import Derived.Test.YtfbekeebllcdbaaSoMath
import Derived.Test.YtfbekeebllcdbaaRwSame
import Derived.Laws.CopyRow
import Derived.Laws.IdiomCopy
namespace Go.Proofs.Ytfbekeebllcdbaa
open Go.ChangeShapes Go.WideShapes Go.ChangeAt Go.RowKit
set_option linter.unusedVariables false
set_option linter.unusedSimpArgs false
set_option maxRecDepth 20000

/-- A row that is being filled: fields that are there, and room for more. -/
def OutAt (w : World) (g : Nat) (done : List Fd) (m : Nat) : Prop := ∃ junk : List Value, w.heap[g]? = some (.cells (rawCells done ++ junk).toArray 24 (0, 0)) ∧ junk.length = m * 4
theorem OutAt.below {w w1 : World} {g : Nat} {done : List Fd} {m : Nat} (h : OutAt w g done m) (hb : Below w.heap.size w w1) : OutAt w1 g done m := by
  obtain ⟨junk, h1, h2⟩ := h
  exact ⟨junk, (hb.block g (Array.getElem?_eq_some_iff.1 h1).1).trans h1, h2⟩
theorem OutAt.lt {w : World} {g : Nat} {done : List Fd} {m : Nat} (h : OutAt w g done m) : g < w.heap.size := by
  obtain ⟨junk, h1, h2⟩ := h
  exact (Array.getElem?_eq_some_iff.1 h1).1
/-- The room's cells are there. -/
theorem OutAt.room {w : World} {g : Nat} {done : List Fd} {m : Nat} (h : OutAt w g done m) (j : Nat) (hj : j < m * 4) : (∃ u, w.cell? ⟨g, done.length * 4 + j, none⟩ = some u) ∧ w.frozen? ⟨g, done.length * 4 + j, none⟩ = false := by
  obtain ⟨junk, h1, h2⟩ := h
  constructor
  · refine ⟨junk[j]'(by omega), ?_⟩
    have hl : (rawCells done).length = done.length * 4 := rawCells_len done
    simp only [World.cell?, h1]
    simp [List.getElem?_append_right, hl, List.getElem?_eq_getElem (show j < junk.length by omega)]
  · exact frozen_of_row w g _ _ _ h1

theorem run_copyR (w : World) (ty : TypeId) (g o dLen dCap : Nat) (a : Addr) (sLen sCap : Nat) (cur : Array Value) (t : TypeId) (cs : List Value)
    (hg : w.heap[g]? = some (.cells cur t (0, 0))) (hn : cs.length = Nat.min sLen dLen * 4)
    (hsrc : ∀ j v, cs[j]? = some v → w.cell? (a.add j) = some v) (hfit : o + cs.length ≤ cur.size) (h1 : ∀ v ∈ cs, v.oneCell' = true) :
    (Builtin.copy_ #[25, 25] ty #[.slice (some ⟨g, o, none⟩) dLen dCap, .slice (some a) sLen sCap]).run Try.prog w =
      .ok (goInt (Nat.min sLen dLen)) (w.setRow g (cur.toList.take o ++ cs ++ cur.toList.drop (o + cs.length)).toArray) := by
  obtain ⟨i0, hi, hz0, hz1, hz2⟩ := info_parts infoRaw
  have hl := run_loadCells_list (P := Try.prog) w a cs hsrc
  have hst := run_storeCells_at Try.prog g o t cs 0 cur w hg (by simpa using hfit) h1
  simp [Builtin.copy_, run_underlying Try.underlying25, Builtin.lenOf, Builtin.firstCells, sizeOf, typeInfo, hi, hz1, ← hn, hl, hst]
theorem run_copy0 (w : World) (ty : TypeId) (d a : Option Addr) (dLen dCap sLen sCap : Nat) (hn : Nat.min sLen dLen = 0) :
    (Builtin.copy_ #[25, 25] ty #[.slice d dLen dCap, .slice a sLen sCap]).run Try.prog w = .ok (goInt 0) w := by
  obtain ⟨i0, hi, hz0, hz1, hz2⟩ := info_parts infoRaw
  have hl : ∀ (x : Addr), (loadCells x 0).run Try.prog w = .ok #[] w := fun x => by simpa using run_loadCells_list (P := Try.prog) w x [] (by simp)
  cases d <;> cases a <;> simp [Builtin.copy_, run_underlying Try.underlying25, Builtin.lenOf, Builtin.firstCells, sizeOf, typeInfo, hi, hz1, hn, storeCells, hl]

/-- A copy behind what is there. -/
theorem wpList_copyR {w : World} {ops : Array Oper} {rest : List Oper} {o : Oper} {a : Act} {Q : Exit → Act → World → Prop} (hgd : o.guard = none) (d s : Operand)
    (ho : o.op = .call { callee := .builtin .copy, args := #[d, s], argTypes := #[25, 25] })
    (dp sp : Option Addr) (dLen dCap sLen sCap : Nat) (hd : a.eval d = .slice dp dLen dCap) (hs : a.eval s = .slice sp sLen sCap)
    (g : Nat) (done : List Fd) (m : Nat) (hg : OutAt w g done m) (cs : List Fd) (hn : cs.length = Nat.min sLen dLen) (hm : cs.length ≤ m)
    (hpos : cs ≠ [] → dp = some ⟨g, done.length * 4, none⟩ ∧ ∃ ad, sp = some ad ∧ HoldsR w (some ad) cs)
    (h : ∀ w', Hid (OutAt w' g (done ++ cs) (m - cs.length)) → w.grownBy w' (some g) → wpList Try.prog ops Q rest (a.put o.dst (goInt cs.length)) w') :
    wpList Try.prog ops Q (o :: rest) a w := by
  refine wpList_plain hgd fun K hK => ?_
  by_cases h0 : cs = []
  · subst h0
    have hrun := run_copy0 w o.type dp sp dLen dCap sLen sCap (by simpa using hn.symm)
    unfold Oper.wp
    simp [execOp, ho, resolve, invoke, builtin, hd, hs, hrun, Result.andThen]
    exact hK _ _ (h w (show OutAt _ _ _ _ by simpa using hg) ⟨rfl, rfl, rfl, Nat.le_refl _, fun _ _ _ => rfl⟩)
  · obtain ⟨rfl, ad, rfl, hsrc⟩ := hpos h0
    obtain ⟨junk, h1, h2⟩ := hg
    have hl : (rawCells done).length = done.length * 4 := rawCells_len done
    have hlc : (rawCells cs).length = cs.length * 4 := rawCells_len cs
    have hrun := run_copyR w o.type g (done.length * 4) dLen dCap ad sLen sCap _ _ (rawCells cs) h1 (by rw [hlc, hn]) (hsrc ad rfl) (by simp [hl, hlc, h2]; omega) (rawCells_one cs)
    have et : (rawCells done ++ junk).take (done.length * 4) = rawCells done := by rw [← hl]; exact List.take_left
    have ed : (rawCells done ++ junk).drop (done.length * 4 + (rawCells cs).length) = junk.drop (cs.length * 4) := by
      rw [← List.drop_drop, ← hl, List.drop_left, hlc]
    simp only [List.toList_toArray, et, ed] at hrun
    unfold Oper.wp
    simp [execOp, ho, resolve, invoke, builtin, hd, hs, hrun, Result.andThen]
    rw [← hn]
    refine hK _ _ (h _ ⟨junk.drop (cs.length * 4), ?_, by rw [List.length_drop, h2]; omega⟩ ⟨rfl, rfl, rfl, by simp [World.setRow], fun k _ hk => setRow_other w g k _ (fun e => hk (by rw [e]))⟩)
    rw [rawCells_app]
    have := setRow_heap w g _ (rawCells done ++ rawCells cs ++ junk.drop (cs.length * 4)).toArray _ _ h1
    simpa [List.append_assoc] using this

theorem gb_refl (w : World) (r : Option Nat) : w.grownBy w r := ⟨rfl, rfl, rfl, Nat.le_refl _, fun _ _ _ => rfl⟩
theorem gb_trans {w w1 w2 : World} {r : Option Nat} (h1 : w.grownBy w1 r) (h2 : w1.grownBy w2 r) : w.grownBy w2 r :=
  ⟨h2.os.trans h1.os, h2.tape.trans h1.tape, h2.output.trans h1.output, Nat.le_trans h1.size h2.size, fun k hk hr => (h2.block k (Nat.lt_of_lt_of_le hk h1.size) hr).trans (h1.block k hk hr)⟩
theorem gb_drewN {w w1 : World} {r : Option Nat} (n : Nat) (h : w.grownBy w1 r) : w.grownBy (w1.drewN n) r := gb_trans h ⟨rfl, rfl, rfl, Nat.le_refl _, fun _ _ _ => rfl⟩
theorem HoldsR.grown {w w' : World} {a : Option Addr} {rs : List Fd} {g : Nat} (h : HoldsR w a rs) (hg : w.grownBy w' (some g)) (hne : ∀ x, a = some x → x.block ≠ g) : HoldsR w' a rs := by
  intro b hb j u hu
  refine hg.cell (h b hb j u hu) ?_
  intro e
  have hblk : (b.add j).block = b.block := by unfold Addr.add; split <;> rfl
  rw [hblk] at e
  exact hne b hb (by simpa using e)
theorem four : ∀ l : List Value, 4 ≤ l.length → ∃ a b c d r, l = a :: b :: c :: d :: r
  | a :: b :: c :: d :: r, _ => ⟨a, b, c, d, r, rfl⟩
  | [], h => by simp at h
  | [_], h => by simp at h
  | [_, _], h => by simp at h
  | [_, _, _], h => by simp at h
/-- A field stored behind what is there. -/
theorem OutAt.put {w : World} {g : Nat} {done : List Fd} {m : Nat} (h : OutAt w g done (m + 1)) (t k n : Int) (b : ByteArray) (o : Nat) (ho : o = done.length * 4) :
    OutAt ((((w.setCell ⟨g, o, none⟩ (.int .i64 t)).setCell ⟨g, o + 1, none⟩ (.int .i64 k)).setCell ⟨g, o + 2, none⟩ (.int .i64 n)).setCell ⟨g, o + 3, none⟩ (.string b)) g (done ++ [⟨t, k, n, b⟩]) m ∧
    w.grownBy ((((w.setCell ⟨g, o, none⟩ (.int .i64 t)).setCell ⟨g, o + 1, none⟩ (.int .i64 k)).setCell ⟨g, o + 2, none⟩ (.int .i64 n)).setCell ⟨g, o + 3, none⟩ (.string b)) (some g) := by
  obtain ⟨junk, h1, h2⟩ := h
  have hl : (rawCells done).length = done.length * 4 := rawCells_len done
  have step : ∀ (W : World) (i : Nat) (v : Value), W.grownBy (W.setCell ⟨g, i, none⟩ v) (some g) := fun W i v =>
    ⟨rfl, rfl, rfl, by simp, fun k _ hk => heap_setCell_other W ⟨g, i, none⟩ k v (fun e => hk (by rw [e]))⟩
  refine ⟨?_, gb_trans (gb_trans (gb_trans (step _ _ _) (step _ _ _)) (step _ _ _)) (step _ _ _)⟩
  obtain ⟨j0, j1, j2, j3, rest, rfl⟩ := four junk (by omega)
  refine ⟨rest, ?_, by simp at h2; omega⟩
  have e1 := heap_setCell_same w g o _ _ (.int .i64 t) h1
  have e2 := heap_setCell_same _ g (o + 1) _ _ (.int .i64 k) e1
  have e3 := heap_setCell_same _ g (o + 2) _ _ (.int .i64 n) e2
  have e4 := heap_setCell_same _ g (o + 3) _ _ (.string b) e3
  rw [e4]
  refine congrArg (fun x => some (Obj.cells x 24 (0, 0))) ?_
  apply Array.ext'
  rw [ho, ← hl, rawCells_app, rawCells_cons, rawCells_nil]
  generalize rawCells done = D
  simp only [Array.toList_setIfInBounds, List.toList_toArray, Fd.cells, List.append_nil]
  have sb : ∀ (l : List Value) (j : Nat) (v : Value), (D ++ l).set (D.length + j) v = D ++ l.set j v := fun l j v => by rw [List.set_append, if_neg (by omega), Nat.add_sub_cancel_left]
  have s0 : ∀ (l : List Value) (v : Value), (D ++ l).set D.length v = D ++ l.set 0 v := fun l v => sb l 0 v
  rw [s0, sb, sb, sb]
  simp
set_option maxHeartbeats 1000000 in
theorem upto_any (a : Option Addr) (rs : List Fd) (t : Int) (N cap : Nat) (w : World) (hN : rs.length = N) (hadr : rs = [] ∨ ∃ g off, a = some ⟨g, off, none⟩) (hc : N ≤ cap) (hm : cap ≤ maxLen) (hh : HoldsR w a rs) :
    Calls Try.prog 38 #[.slice a N cap, .int .i64 t] w fun e w' => e = .returned (.int .i64 (upN rs t : Int)) ∧ w' = w := by
  have HN : Hid (rs.length = N) := hN
  have HA : Hid (rs = [] ∨ ∃ g off, a = some ⟨g, off, none⟩) := hadr
  have HH : Hid (HoldsR w a rs) := hh
  obtain ⟨R, hR⟩ : ∃ R, upN rs t = R := ⟨_, rfl⟩
  rw [hR]
  have HR : Hid (upN rs t = R) := hR
  unfold maxLen at hm
  clear hN hadr hh hR
  go_enter Try.func38, Try.ntmps38
  go_wp2_with fail
  go_loop [5] (fun iv => ∃ i : Nat, iv = .int .i64 (i : Int) ∧ i ≤ N ∧ Hid (∀ j x, j < i → rs[j]? = some x → x.tag ≤ t)) (fun iv => N - (intOf iv).toNat)
  case atStart => exact ⟨0, rfl, by omega, (fun j x hj => absurd hj (by omega) : ∀ j x, j < 0 → rs[j]? = some x → x.tag ≤ t)⟩
  case round =>
    obtain ⟨i, rfl, hi, HT⟩ := hrel
    by_cases hlt : i < N
    · have hr : rs[i]? = some (rs[i]'(by rw [HN.out]; exact hlt)) := List.getElem?_eq_getElem _
      generalize rs[i]'(by rw [HN.out]; exact hlt) = r at hr
      rcases HA.out with h0 | ⟨g, off, rfl⟩
      · exact absurd hlt (by have := HN.out; rw [h0] at this; simp at this; omega)
      obtain ⟨p0, -, -, -⟩ := HH.out.at hr
      have HK : Hid (rs[i]? = some r) := hr
      obtain ⟨q, hq⟩ : ∃ q, r.tag = q := ⟨_, rfl⟩
      rw [hq] at p0
      have HQ : Hid (r.tag = q) := hq
      clear hr hq
      by_cases hle : q ≤ t
      · have HT2 : Hid (∀ j x, j < i + 1 → rs[j]? = some x → x.tag ≤ t) := fun j x hj hx => by
          by_cases hji : j = i
          · subst hji
            rw [HK.out] at hx
            obtain rfl : r = x := by simpa using hx
            rw [HQ.out]; exact hle
          · exact HT.out j x (by omega) hx
        clear HT HK HQ
        go_wp2_with fail
        go_round
        case rel => exact ⟨i + 1, by go_num, by omega, HT2⟩
        case measure => simp [intOf]; omega
      · obtain rfl : R = i := by rw [← HR.out]; exact upN_step HT.out (.inr ⟨r, HK.out, by rw [HQ.out]; exact hle⟩)
        clear HT HK HQ HR
        go_wp2_with fail
        go_ret
        exact ⟨rfl, rfl⟩
    · obtain rfl : i = N := by omega
      obtain rfl : R = i := by rw [← HR.out]; exact upN_step HT.out (.inl HN.out.symm)
      clear HT HR
      go_wp2_with fail
      go_ret
      exact ⟨rfl, rfl⟩

set_option maxHeartbeats 1000000 in
theorem rising_any (a : Option Addr) (rs : List Fd) (N cap : Nat) (w : World) (hN : rs.length = N) (hadr : rs = [] ∨ ∃ g off, a = some ⟨g, off, none⟩) (hc : N ≤ cap) (hm : cap ≤ maxLen) (hh : HoldsR w a rs) :
    Calls Try.prog 23 #[.slice a N cap] w fun e w' => e = .returned (.bool (risesB rs)) ∧ Below w.heap.size w w' := by
  have HN : Hid (rs.length = N) := hN
  have HA : Hid (rs = [] ∨ ∃ g off, a = some ⟨g, off, none⟩) := hadr
  have HH : Hid (HoldsR w a rs) := hh
  obtain ⟨R, hR⟩ : ∃ R, risesB rs = R := ⟨_, rfl⟩
  rw [hR]
  have HR : Hid (risesB rs = R) := hR
  unfold maxLen at hm
  clear hN hadr hh hR
  go_enter Try.func23, Try.ntmps23
  go_wp2_with fail
  go_loopw [3] (fun iv wr => ∃ i : Nat, iv = .int .i64 ((i : Int) + 1) ∧ i ≤ N ∧ Hid (∀ j x y, j < i → rs[j]? = some x → rs[j + 1]? = some y → x.tag ≤ y.tag) ∧ Below w.heap.size w wr) (fun iv _ => N + 1 - (intOf iv).toNat)
  case atStart => exact ⟨0, rfl, by omega, (fun j x y hj => absurd hj (by omega) : ∀ j x y, j < 0 → rs[j]? = some x → rs[j + 1]? = some y → x.tag ≤ y.tag), Below.refl _ _⟩
  case round =>
    obtain ⟨i, rfl, hi, HT, hbel⟩ := hrel
    by_cases hlt : i + 1 < N
    · have hr : rs[i]? = some (rs[i]'(by rw [HN.out]; omega)) := List.getElem?_eq_getElem _
      generalize rs[i]'(by rw [HN.out]; omega) = r at hr
      have hs : rs[i + 1]? = some (rs[i + 1]'(by rw [HN.out]; exact hlt)) := List.getElem?_eq_getElem _
      generalize rs[i + 1]'(by rw [HN.out]; exact hlt) = s at hs
      rcases HA.out with h0 | ⟨g, off, rfl⟩
      · exact absurd hlt (by have := HN.out; rw [h0] at this; simp at this; omega)
      obtain ⟨p0, -, -, -⟩ := (HH.out.below hbel).at hr
      obtain ⟨q0, -, -, -⟩ := (HH.out.below hbel).at hs
      have HK : Hid (rs[i]? = some r) := hr
      have HK2 : Hid (rs[i + 1]? = some s) := hs
      obtain ⟨x, hx⟩ : ∃ q, r.tag = q := ⟨_, rfl⟩
      obtain ⟨y, hy⟩ : ∃ q, s.tag = q := ⟨_, rfl⟩
      rw [hx] at p0
      rw [hy] at q0
      have HX : Hid (r.tag = x) := hx
      have HY : Hid (s.tag = y) := hy
      have hlti : (i : Int) + 1 < (N : Int) := by omega
      clear hr hs hx hy
      by_cases hle : y < x
      · have hd : decide (y < x) = true := by simp [hle]
        obtain rfl : R = false := by rw [← HR.out]; exact rises_break i r s HK.out HK2.out (by rw [HX.out, HY.out]; exact hle)
        clear HT HK HK2 HX HY HR
        go_wp2_with fail
        go_quiet (fail)
        have hbn := below_drewN nq hbel
        clear p0 q0 hbel
        go_wp2_with fail
        go_ret
        exact ⟨rfl, hbn⟩
      · have hd : decide (y < x) = false := by simp; omega
        have HT2 : Hid (∀ j u v, j < i + 1 → rs[j]? = some u → rs[j + 1]? = some v → u.tag ≤ v.tag) := fun j u v hj hu hv => by
          by_cases hji : j = i
          · subst hji
            rw [HK.out] at hu
            rw [HK2.out] at hv
            obtain rfl : r = u := by simpa using hu
            obtain rfl : s = v := by simpa using hv
            rw [HX.out, HY.out]; omega
          · exact HT.out j u v (by omega) hu hv
        clear HT HK HK2 HX HY
        go_wp2_with fail
        go_quiet (fail)
        have hbn := below_drewN nq hbel
        clear p0 q0 hbel
        go_wp2_with fail
        go_roundw
        case rel => exact ⟨i + 1, by go_num, by omega, HT2, hbn⟩
        case measure => simp [intOf]; omega
    · obtain rfl : R = true := by
        rw [← HR.out]
        refine rises_steps fun j x y hx hy => HT.out j x y ?_ hx hy
        have := (List.getElem?_eq_some_iff.1 hy).1
        rw [HN.out] at this
        omega
      have hnl : ¬ (i : Int) + 1 < (N : Int) := by omega
      clear HT HR
      go_wp2_with fail
      go_ret
      exact ⟨rfl, hbel⟩
end Go.Proofs.Ytfbekeebllcdbaa
