/- Whether some trees are of one kind; whether entries may be. -/
import Derived.Test.YtgedelgdjcnogaaVcIdx
import Derived.Test.YtgedelgdjcnogaaVcBin
namespace Go.Proofs.Ytgedelgdjcnogaa
open Go.ChangeShapes Go.WideShapes Go.ChangeAt Go.RowKit
set_option linter.unusedVariables false
set_option linter.unusedSimpArgs false
set_option maxRecDepth 20000

set_option maxHeartbeats 1000000 in
theorem kindc_any (n : Nat) (x : Tr) (r : List Value) (b g off Kt tc : Nat) (k0 : Int) (W : World) (h : TrQ n W r x) (hB : Blk W b #[.slice (some ⟨g, off, none⟩) Kt tc] 48) (hc : W.cell? ⟨g, off, none⟩ = some (.int .i64 k0)) (hk : 0 < Kt) :
    Calls Try.prog 66 #[.agg r.toArray, .pointer (some ⟨b, 0, none⟩)] W fun e w' => e = .returned (.bool (x.kind != k0)) ∧ Below W.heap.size W w' := by
  obtain ⟨ea, el, ec, ra, rl, rc, e1, -⟩ := TrV2.open ⟨_, rfl, h⟩
  rw [e1]
  clear e1 h
  have q0 := (hB.cell 0).trans rfl
  have hb := hB.lt
  have hg : g < W.heap.size := World.block_lt_of_cell? _ _ hc
  clear hB
  generalize x.kind = K at *
  generalize x.n = N at *
  generalize x.s = S at *
  go_enter Try.func66, Try.ntmps66
  go_wp2_with fail
  go_quiet (fail)
  go_wp2_with fail
  go_ret
  exact ⟨rfl, below_drewN nq ((Below.refl _ _).alloc (Nat.le_refl _) _)⟩
/-- Trees under one tag that may be, but for what is in them. -/
def okB (ts : List Tr) : Bool := decide (1 ≤ ts.length) && decide (ts.length ≤ 64) && (ts.all fun x => x.kind == (ts.head?.map Tr.kind).getD 0)
set_option maxHeartbeats 1000000 in
theorem oneKind_any (n : Nat) (v : Value) (ts : List Tr) (w : World) (h : TrsQ n w v ts) :
    Calls Try.prog 59 #[v] w fun e w' => e = .returned (.bool (okB ts)) ∧ Below w.heap.size w w' := by
  have hmf : ∀ (fn : Fn) (first cap : Array Value) (w : World), (Instr.makeFunc fn first cap).run Try.prog w = .ok (.func fn first cap) w := fun _ _ _ _ => rfl
  obtain ⟨a, cap, rfl, h1, h2, h3, -, -⟩ := RowP.open h
  obtain ⟨N, hN⟩ : ∃ N, ts.length = N := ⟨_, rfl⟩
  obtain ⟨R, hR⟩ : ∃ R, okB ts = R := ⟨_, rfl⟩
  rw [hR]
  rw [hN] at h1 ⊢
  have HH : Hid (TrsQ n w (.slice a N cap) ts) := (by rw [← hN]; exact h : TrsQ n w (.slice a N cap) ts)
  have HN : Hid (ts.length = N) := hN
  have HR : Hid (okB ts = R) := hR
  unfold maxLen at h2
  clear h hN hR h3
  by_cases l1 : 1 ≤ N
  · have d1 : decide ((N : Int) < 1) = false := by simp; omega
    by_cases l2 : N ≤ 64
    · have d2 : decide (64 < (N : Int)) = false := by simp; omega
      obtain ⟨t0, ht0⟩ : ∃ t, ts[0]? = some t := ⟨_, List.getElem?_eq_getElem (by rw [HN.out]; omega)⟩
      obtain ⟨g, off, rfl, r, hr, hc⟩ := HH.out.get ht0
      obtain ⟨ea, el, ec, ra, rl, rc, e1, -⟩ := TrV2.open ⟨_, rfl, hr⟩
      have hcell : w.cell? ⟨g, off, none⟩ = some (.int .i64 t0.kind) := by
        have := hc 0 (.int .i64 t0.kind) (by
          have h9 : r.toArray = #[.int .i64 t0.kind, .int .i64 t0.n, .string t0.s, .slice ea el ec, .slice ra rl rc] := by simpa using e1
          have h8 : r = [.int .i64 t0.kind, .int .i64 t0.n, .string t0.s, .slice ea el ec, .slice ra rl rc] := by simpa using congrArg Array.toList h9
          rw [h8]; rfl)
        simpa using this
      have hw1 : Below w.heap.size w (w.alloc (Obj.cells #[.slice (some ⟨g, off, none⟩) N cap] 48)) := (Below.refl _ _).alloc (Nat.le_refl _) _
      have BX : Blk (w.alloc (Obj.cells #[.slice (some ⟨g, off, none⟩) N cap] 48)) w.heap.size #[.slice (some ⟨g, off, none⟩) N cap] 48 := Blk.new w _ _
      have HC : Hid (Calls Try.prog 37 #[.slice (some ⟨g, off, none⟩) N cap, .func (.func 66) #[] #[.pointer (some ⟨w.heap.size, 0, none⟩)]] (w.alloc (Obj.cells #[.slice (some ⟨g, off, none⟩) N cap] 48)) fun e w' => e = .returned (.bool (!R)) ∧ Below (w.alloc (Obj.cells #[.slice (some ⟨g, off, none⟩) N cap] 48)).heap.size (w.alloc (Obj.cells #[.slice (some ⟨g, off, none⟩) N cap] 48)) w') := by
        have hh : ts.head? = some t0 := by rw [List.head?_eq_getElem?]; exact ht0
        have hb : (!R) = ts.any (fun x => x.kind != t0.kind) := by
          rw [← HR.out, okB, HN.out, decide_eq_true l1, decide_eq_true l2, hh]
          simp only [Option.map_some, Option.getD_some, Bool.true_and, List.not_all_eq_any_not]
          rfl
        rw [hb]
        refine containsK_any w.heap.size n _ ts _ (fun x => x.kind != t0.kind) (HH.out.belowTQ hw1) fun W x r' hW hx hr' => ?_
        exact kindc_any n x r' w.heap.size g off N cap t0.kind W hr' (BX.below hW) ((hW.cell (by have hg9 : g < w.heap.size := World.block_lt_of_cell? _ _ hcell; simp; omega)).trans ((hw1.cell (World.block_lt_of_cell? _ _ hcell)).trans hcell)) (by omega)
      clear hcell hc e1 hr ht0 HH HR BX
      go_enter Try.func59, Try.ntmps59
      go_wp2_with fail
      refine HC.out.mono ?_
      rintro e w2 ⟨rfl, hb2⟩
      have hbw : Below w.heap.size w w2 := hw1.trans (hb2.mono hw1.size)
      clear HC hb2 hw1
      go_wp2_with fail
      go_ret
      exact ⟨by simp, hbw⟩
    · have d2 : decide (64 < (N : Int)) = true := by simp; omega
      obtain rfl : R = false := by rw [← HR.out, okB, HN.out]; simp; omega
      go_enter Try.func59, Try.ntmps59
      go_wp2_with fail
      go_ret
      exact ⟨rfl, (Below.refl _ _).alloc (Nat.le_refl _) _⟩
  · have d1 : decide ((N : Int) < 1) = true := by simp; omega
    obtain rfl : R = false := by rw [← HR.out, okB, HN.out]; simp; omega
    go_enter Try.func59, Try.ntmps59
    go_wp2_with fail
    go_ret
    exact ⟨rfl, (Below.refl _ _).alloc (Nat.le_refl _) _⟩
theorem ents_cons (last : Int) (e : Int × List Tr) (l : List (Int × List Tr)) : entsB last (e :: l) = (decide (last < e.1) && decide (e.1 ≤ 500) && okB e.2 && entsB e.1 l) := by
  simp only [entsB, okB, Bool.and_assoc]
set_option maxHeartbeats 2000000 in
theorem entries_any (n : Nat) (v : Value) (es : List (Int × List Tr)) (w : World) (h : EnsQ n w v es) :
    Calls Try.prog 52 #[v] w fun e w' => e = .returned (.bool (entsB 0 es)) ∧ Below w.heap.size w w' := by
  obtain ⟨a, cap, rfl, h1, h2, -⟩ := RowP.open h
  obtain ⟨N, hN⟩ : ∃ N, es.length = N := ⟨_, rfl⟩
  obtain ⟨R, hR⟩ : ∃ R, entsB 0 es = R := ⟨_, rfl⟩
  rw [hR]
  rw [hN] at h1 ⊢
  have HH : Hid (EnsQ n w (.slice a N cap) es) := (by rw [← hN]; exact h : EnsQ n w (.slice a N cap) es)
  have HN : Hid (es.length = N) := hN
  have HR0 : Hid (entsB 0 (es.drop 0) = R) := hR
  unfold maxLen at h2
  clear h hN hR
  go_enter Try.func52, Try.ntmps52
  go_wp2_with fail
  go_loopw [3, 8] (fun av iv wr => ∃ (i : Nat) (last : Int), iv = .int .i64 (i : Int) ∧ av = .int .i64 last ∧ i ≤ N ∧ Hid (entsB last (es.drop i) = R) ∧ Below w.heap.size w wr) (fun _ iv _ => N - (intOf iv).toNat)
  case atStart => exact ⟨0, 0, rfl, rfl, by omega, HR0, Below.refl _ _⟩
  case round =>
    clear HR0
    obtain ⟨i, last, rfl, rfl, hi, HR, hbel⟩ := hrel
    by_cases hlt : i < N
    · obtain ⟨x, hx⟩ : ∃ r, es[i]? = some r := ⟨_, List.getElem?_eq_getElem (by rw [HN.out]; exact hlt)⟩
      obtain ⟨g, off, rfl, r, ⟨vt, rfl, -, ht⟩, hc⟩ := (HH.out.belowEQ hbel).get hx
      obtain ⟨ta, tc, rfl, -⟩ := RowP.open ht
      have c0 := hc 0 _ rfl
      have c1 := hc 1 _ rfl
      simp only [Nat.add_zero] at c0
      have hdr : es.drop i = x :: es.drop (i + 1) := by
        obtain ⟨hl', e⟩ := List.getElem?_eq_some_iff.1 hx
        rw [List.drop_eq_getElem_cons hl', e]
      have HR1 : Hid ((decide (last < x.1) && decide (x.1 ≤ 500) && okB x.2 && entsB x.1 (es.drop (i + 1))) = R) := (by rw [← ents_cons, ← hdr]; exact HR.out : (decide (last < x.1) && decide (x.1 ≤ 500) && okB x.2 && entsB x.1 (es.drop (i + 1))) = R)
      have HOK : Hid (∀ W, Below wr.heap.size wr W → Calls Try.prog 59 #[.slice ta x.2.length tc] W fun e w' => e = .returned (.bool (okB x.2)) ∧ Below W.heap.size W w') := fun W hW => oneKind_any n _ x.2 W (RowP.belowTQ ht hW)
      clear hc ht hx hdr HR
      generalize x.2.length = Xl at *
      generalize okB x.2 = O at *
      generalize x.1 = xt at *
      by_cases k1 : last < xt
      · by_cases k2 : xt ≤ 500
        · have d1 : decide (xt ≤ last) = false := by simp; omega
          have d2 : decide (500 < xt) = false := by simp; omega
          have hal : Below wr.heap.size wr (wr.alloc (Obj.cells #[.int .i64 xt, .slice ta Xl tc] 50)) := (Below.refl _ _).alloc (Nat.le_refl _) _
          have BE : Blk (wr.alloc (Obj.cells #[.int .i64 xt, .slice ta Xl tc] 50)) wr.heap.size #[.int .i64 xt, .slice ta Xl tc] 50 := Blk.new wr _ _
          go_wp2_with fail
          refine (HOK.out _ hal).mono ?_
          rintro e w2 ⟨rfl, hb2⟩
          have hb3 : Below wr.heap.size wr w2 := hal.trans (hb2.mono hal.size)
          have hbw : Below w.heap.size w w2 := hbel.trans (hb3.mono hbel.size)
          have q0 := ((BE.below hb2).cell 0).trans rfl
          generalize wr.heap.size = bw at *
          clear hb2 hb3 hbel c0 c1 HOK hal BE
          cases O with
          | true =>
            go_wp2_with fail
            go_roundw
            case rel => exact ⟨i + 1, xt, by go_num, rfl, by omega, (by have := HR1.out; rw [decide_eq_true k1, decide_eq_true k2] at this; simpa using this : entsB xt (es.drop (i + 1)) = R), hbw⟩
            case measure => simp [intOf]; omega
          | false =>
            obtain rfl : R = false := by rw [← HR1.out]; simp
            go_wp2_with fail
            go_ret
            exact ⟨rfl, hbw⟩
        · have d1 : decide (xt ≤ last) = false := by simp; omega
          have d2 : decide (500 < xt) = true := by simp; omega
          obtain rfl : R = false := by rw [← HR1.out, decide_eq_false k2]; simp
          go_wp2_with fail
          go_ret
          exact ⟨rfl, hbel.alloc hbel.size _⟩
      · have d1 : decide (xt ≤ last) = true := by simp; omega
        obtain rfl : R = false := by rw [← HR1.out, decide_eq_false k1]; simp
        go_wp2_with fail
        go_ret
        exact ⟨rfl, hbel.alloc hbel.size _⟩
    · obtain rfl : R = true := by rw [← HR.out, List.drop_eq_nil_of_le (by rw [HN.out]; omega)]; rfl
      go_wp2_with fail
      go_ret
      exact ⟨rfl, hbel⟩
end Go.Proofs.Ytgedelgdjcnogaa
