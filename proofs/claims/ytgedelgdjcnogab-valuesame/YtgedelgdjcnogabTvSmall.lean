/- What Small answers of a tree: yes only where it is not too much. -/
import Derived.Test.YtgedelgdjcnogabTvRow
import Derived.Test.YtgedelgdjcnogabBlkT
namespace Go.Proofs.Ytgedelgdjcnogab
open Go.ChangeShapes Go.WideShapes Go.ChangeAt Go.RowKit
set_option linter.unusedVariables false
set_option linter.unusedSimpArgs false
set_option maxRecDepth 20000

/-- Down to m it is all there. -/
def LowT (n m : Nat) (w : World) (x : Tr) : Prop := ∀ r, TrC n w r x → TrC m w r x
/-- How many parts some trees have. -/
def cntL (m : Nat) (ts : List Tr) : Nat := (ts.map (cntN m)).sum
def cntE (m : Nat) (es : List (Int × List Tr)) : Nat := cntL m (subs es)
theorem cntE_snoc (m : Nat) (es : List (Int × List Tr)) (e : Int × List Tr) : cntE m (es ++ [e]) = cntE m es + cntL m e.2 := by
  simp [cntE, cntL, subs, List.flatMap_append, List.map_append, List.sum_append]
theorem cntL_snoc (m : Nat) (ts : List Tr) (t : Tr) : cntL m (ts ++ [t]) = cntL m ts + cntN m t := by
  simp [cntL, List.map_append, List.sum_append]
theorem take_snocT {α : Type} {l : List α} {i : Nat} {x : α} (h : l[i]? = some x) : l.take (i + 1) = l.take i ++ [x] := by
  obtain ⟨hl, rfl⟩ := List.getElem?_eq_some_iff.1 h
  rw [List.take_succ_eq_append_getElem hl]
theorem low_up {n m : Nat} {w : World} {t : Tr} (h : ∀ e ∈ t.es, ∀ x ∈ e.2, LowT n m w x) : LowT (n + 1) (m + 1) w t := by
  intro r hr
  obtain ⟨ve, vr, h1, h2, h3, h4, h5, h6, h7⟩ := hr
  refine ⟨ve, vr, h1, h2, h3, h4, h5, h6, h7.imp fun r x hx hp => ?_⟩
  obtain ⟨vt, g1, g2, g3⟩ := hp
  exact ⟨vt, g1, g2, g3.imp fun r y hy hp => h x hx y hy r hp⟩
theorem kp_set_alloc (w : World) (g i : Nat) (u : Value) (o : Obj) : Kp (fun b => b = g) w ((w.setCell ⟨g, i, none⟩ u).alloc o) := Kp.alloc (Kp.setCell (S := fun b => b = g) (p := ⟨g, i, none⟩) (Kp.refl (fun b => b = g) w) (fun _ => (rfl : g = g)) u) o
theorem blk_new2T (w : World) (o : Obj) (cs : Array Value) (t : TypeId) : Blk ((w.alloc o).alloc (.cells cs t)) (w.heap.size + 1) cs t := by
  have := Blk.new (w.alloc o) cs t
  rwa [show (w.alloc o).heap.size = w.heap.size + 1 from by simp] at this
/-- What small answers. -/
def SmlP (n d : Nat) (t : Tr) (g : Nat) (c : Nat) (w0 w : World) (e : Ending) (w' : World) : Prop :=
  ∃ (r : Bool) (c' : Nat), e = .returned (.bool r) ∧ Blk w' g #[.int .i64 (c' : Int)] 3 ∧ c' ≤ 201 ∧ Kp (fun b => b = g) w w' ∧ (r = true → ∃ m, d + (m + 1) = 14 ∧ SmN (m + 1) t ∧ c' = c + cntN (m + 1) t ∧ c' ≤ 200 ∧ LowT n (m + 1) w0 t)
theorem sml_no {n d g c : Nat} {t : Tr} {w0 w w' : World} {c' : Nat} (h1 : Blk w' g #[.int .i64 (c' : Int)] 3) (h2 : c' ≤ 201) (h3 : Kp (fun b => b = g) w w') : SmlP n d t g c w0 w (.returned (.bool false)) w' :=
  ⟨false, c', rfl, h1, h2, h3, by simp⟩

set_option maxHeartbeats 4000000 in
theorem small_step (n : Nat) (w0 : World)
    (IH : ∀ (t : Tr) (v : Value) (d g c : Nat) (w : World), TrIn n w0 v t → Below w0.heap.size w0 w → w0.heap.size ≤ g → Blk w g #[.int .i64 (c : Int)] 3 → c ≤ 200 → d ≤ 14 → Calls Try.prog 20 #[v, .int .i64 (d : Int), .pointer (some ⟨g, 0, none⟩)] w (SmlP n d t g c w0 w))
    (t : Tr) (v : Value) (d g c : Nat) (w : World) (ht : TrIn (n + 1) w0 v t) (hb0 : Below w0.heap.size w0 w) (hg0 : w0.heap.size ≤ g) (hB : Blk w g #[.int .i64 (c : Int)] 3) (hc : c ≤ 200) (hd : d ≤ 14) :
    Calls Try.prog 20 #[v, .int .i64 (d : Int), .pointer (some ⟨g, 0, none⟩)] w (SmlP (n + 1) d t g c w0 w) := by
  obtain ⟨n', ve, vr, e0, rfl, ka, na, sa, fa, ra, ea⟩ := ht.open
  obtain rfl : n' = n := by omega
  clear e0 ht
  obtain ⟨pe, ce, rfl, u1, u2, -⟩ := ea.open
  obtain ⟨pr, cr, rfl, x1, x2, -⟩ := rest_holds ra
  unfold maxLen at u2 x2
  obtain ⟨Ke, hKe⟩ : ∃ K, t.es.length = K := ⟨_, rfl⟩
  obtain ⟨Kr, hKr⟩ : ∃ K, t.rest.length = K := ⟨_, rfl⟩
  rw [hKe] at u1 ⊢
  rw [hKr] at x1 ⊢
  have EA : Hid (EnsIn n' w0 (.slice pe Ke ce) t.es) := (by rw [← hKe]; exact ea : EnsIn n' w0 (.slice pe Ke ce) t.es)
  have RA : Hid (RowG w0 (.slice pr Kr cr) 4 (fdRows t.rest)) := (by rw [← hKr]; exact ra : RowG w0 (.slice pr Kr cr) 4 (fdRows t.rest))
  have HKe : Hid (t.es.length = Ke) := hKe
  have HKr : Hid (t.rest.length = Kr) := hKr
  have HFA : Hid (∀ f ∈ t.rest, f.b.size ≤ 140737488351232) := fun f hf => (fa f hf).2.2.2
  clear hKe hKr ea ra fa ka na
  obtain ⟨K, hK⟩ : ∃ K, t.kind = K := ⟨_, rfl⟩
  obtain ⟨N, hN⟩ : ∃ K, t.n = K := ⟨_, rfl⟩
  obtain ⟨S, hS⟩ : ∃ K, t.s = K := ⟨_, rfl⟩
  rw [hS] at sa
  rw [hK, hN, hS]
  have HS : Hid (t.s = S) := hS
  clear hK hN hS
  have hgw := hB.lt
  have cB := hB.cell 0
  have fB := hB.froz 0
  simp at cB
  have HB : Hid (Blk w g #[.int .i64 (c : Int)] 3) := hB
  clear hB
  by_cases h1 : c < 200
  · have d1 : decide (200 < (c : Int) + 1) = false := by simp; omega
    by_cases h2 : d ≤ 13
    · have d2 : decide (13 < (d : Int)) = false := by simp; omega
      by_cases h3 : S.size ≤ 5000
      · have d3 : decide (5000 < (S.size : Int)) = false := by simp; omega
        by_cases h4 : Kr ≤ 40
        · have d4 : decide (40 < (Kr : Int)) = false := by simp; omega
          by_cases h5 : Ke ≤ 40
          · have d5 : decide (40 < (Ke : Int)) = false := by simp; omega
            go_enter Try.func20, Try.ntmps20
            go_wp2_with fail
            have hBg : Blk ((w.setCell ⟨g, 0, none⟩ (.int .i64 ((c : Int) + 1))).alloc (Obj.cells #[.int .i64 K, .int .i64 N, .string S, .slice pe Ke ce, .slice pr Kr cr] 25)) g #[.int .i64 ((c + 1 : Nat) : Int)] 3 := (HB.out.set 0 (.int .i64 ((c : Int) + 1)) (by simp)).below ((Below.refl _ _).alloc (Nat.le_refl _) _)
            have hBox : Blk ((w.setCell ⟨g, 0, none⟩ (.int .i64 ((c : Int) + 1))).alloc (Obj.cells #[.int .i64 K, .int .i64 N, .string S, .slice pe Ke ce, .slice pr Kr cr] 25)) w.heap.size #[.int .i64 K, .int .i64 N, .string S, .slice pe Ke ce, .slice pr Kr cr] 25 := by
              have := Blk.new (w.setCell ⟨g, 0, none⟩ (.int .i64 ((c : Int) + 1))) #[.int .i64 K, .int .i64 N, .string S, .slice pe Ke ce, .slice pr Kr cr] 25
              rwa [show (w.setCell ⟨g, 0, none⟩ (.int .i64 ((c : Int) + 1))).heap.size = w.heap.size from by simp [World.setCell]] at this
            have hKp : Kp (fun b => b = g) w ((w.setCell ⟨g, 0, none⟩ (.int .i64 ((c : Int) + 1))).alloc (Obj.cells #[.int .i64 K, .int .i64 N, .string S, .slice pe Ke ce, .slice pr Kr cr] 25)) := kp_set_alloc _ _ _ _ _
            generalize ((w.setCell ⟨g, 0, none⟩ (.int .i64 ((c : Int) + 1))).alloc (Obj.cells #[.int .i64 K, .int .i64 N, .string S, .slice pe Ke ce, .slice pr Kr cr] 25)) = W at hBg hBox hKp ⊢
            clear cB fB HB d1 d2 d3 d4 d5
            have hbW : Below w0.heap.size w0 W := hb0.trans (hKp.toBelow hb0.size (fun k hk => by omega))
            have hHg : w.heap.size ≠ g := by omega
            have HBG : Hid (Blk W g #[.int .i64 ((c + 1 : Nat) : Int)] 3) := hBg
            have HBX : Hid (Blk W w.heap.size #[.int .i64 K, .int .i64 N, .string S, .slice pe Ke ce, .slice pr Kr cr] 25) := hBox
            have q4 := hBox.cell 4
            have q3 := hBox.cell 3
            simp at q4 q3
            clear hBg hBox
            go_loop [7] (fun iv => ∃ i : Nat, iv = .int .i64 (i : Int) ∧ i ≤ Kr ∧ Hid (∀ j f, j < i → t.rest[j]? = some f → f.b.size ≤ 5000)) (fun iv => Kr - (intOf iv).toNat)
            case atStart => exact ⟨0, rfl, by omega, (fun j f hj => absurd hj (by omega) : ∀ j f, j < 0 → t.rest[j]? = some f → f.b.size ≤ 5000)⟩
            case round =>
              obtain ⟨i, rfl, hi, HJ⟩ := hrel
              by_cases hlt : i < Kr
              · obtain ⟨r, hr⟩ : ∃ r, t.rest[i]? = some r := ⟨_, List.getElem?_eq_getElem (by rw [HKr.out]; exact hlt)⟩
                obtain ⟨gr, off, rfl, c1⟩ := (RA.out.below hbW).get (show (fdRows t.rest)[i]? = some r.cells by simp [fdRows, hr])
                have p3 := c1 3 _ rfl
                have hbs := HFA.out r (List.mem_of_getElem? hr)
                have HR : Hid (t.rest[i]? = some r) := hr
                obtain ⟨rt, rk, rn, rb⟩ := r
                simp only at p3 hbs
                clear c1 hr q3
                by_cases hbl : rb.size ≤ 5000
                · have d6 : decide (5000 < (rb.size : Int)) = false := by simp; omega
                  go_wp2_with fail
                  go_round
                  case rel => exact ⟨i + 1, by go_num, by omega, (fun j f hj hf => by
                    rcases Nat.lt_or_eq_of_le (Nat.le_of_lt_succ hj) with h | h
                    · exact HJ.out j f h hf
                    · subst h; rw [HR.out] at hf; cases hf; exact hbl : ∀ j f, j < i + 1 → t.rest[j]? = some f → f.b.size ≤ 5000)⟩
                  case measure => simp [intOf]; omega
                · have d6 : decide (5000 < (rb.size : Int)) = true := by simp; omega
                  go_wp2_with fail
                  go_ret
                  exact sml_no HBG.out (by omega) hKp
              · have hrs : ∀ f ∈ t.rest, f.b.size ≤ 5000 := fun f hf => by
                  obtain ⟨j, hj, e⟩ := List.getElem_of_mem hf
                  exact HJ.out j f (by rw [HKr.out] at hj; omega) (by rw [List.getElem?_eq_getElem hj, e])
                have HRS : Hid (∀ f ∈ t.rest, f.b.size ≤ 5000) := hrs
                clear HJ hrs RA
                obtain ⟨m, hm⟩ : ∃ m, d + (m + 1) = 14 := ⟨13 - d, by omega⟩
                have HM : Hid (d + (m + 1) = 14) := hm
                clear hm
                go_wp2_with fail
                clear q3 q4
                go_loopw [8] (fun iv wr => ∃ i c1 : Nat, iv = .int .i64 (i : Int) ∧ i ≤ Ke ∧ c1 ≤ 200 ∧ Hid (c1 = c + 1 + cntE m (t.es.take i)) ∧ Hid (∀ e ∈ t.es.take i, e.2.length ≤ 70 ∧ ∀ x ∈ e.2, SmN m x ∧ LowT n' m w0 x) ∧ Hid (Blk wr g #[.int .i64 (c1 : Int)] 3) ∧ Hid (Blk wr w.heap.size #[.int .i64 K, .int .i64 N, .string S, .slice pe Ke ce, .slice pr Kr cr] 25) ∧ Kp (fun b => b = g) w wr) (fun iv _ => Ke - (intOf iv).toNat)
                case atStart => exact ⟨0, c + 1, rfl, by omega, by omega, (by simp [cntE, cntL, subs] : c + 1 = c + 1 + cntE m (t.es.take 0)), (by simp : ∀ e ∈ t.es.take 0, e.2.length ≤ 70 ∧ ∀ x ∈ e.2, SmN m x ∧ LowT n' m w0 x), HBG, HBX, hKp⟩
                case round =>
                  clear hi hlt HBG HBX hKp hbW
                  obtain ⟨i, c1, rfl, hi, hc1, HC, HE, HBG, HBX, hKp⟩ := hrel
                  have hbW : Below w0.heap.size w0 wr := hb0.trans (hKp.toBelow hb0.size (fun k hk => by omega))
                  have q3 := HBX.out.cell 3
                  simp at q3
                  by_cases hlt : i < Ke
                  · obtain ⟨x, hx⟩ : ∃ r, t.es[i]? = some r := ⟨_, List.getElem?_eq_getElem (by rw [HKe.out]; exact hlt)⟩
                    obtain ⟨ge, off, rfl, cc⟩ := (EA.out.belowE hbW).get hx
                    obtain ⟨vt, p0, p1, p2, p3⟩ := ens_at cc
                    obtain ⟨ge', off', ee, cc'⟩ := EA.out.get hx
                    obtain ⟨rfl, rfl⟩ : ge = ge' ∧ off = off' := by simpa using ee
                    obtain ⟨vt', p0', p1', p2', p3'⟩ := ens_at cc'
                    obtain rfl : vt = vt' := by
                      have := p1
                      rw [hbW.cell (World.block_lt_of_cell? _ _ p1'), p1'] at this
                      exact (Option.some.inj this).symm
                    obtain ⟨pt, ct, rfl, t1, t2, t3, t4, t5⟩ := p3'.open
                    unfold maxLen at t2
                    have HX : Hid (t.es[i]? = some x) := hx
                    obtain ⟨xt, xl⟩ := x
                    simp only at p1 p1' t1 p3'
                    obtain ⟨Kt, hKt⟩ : ∃ K, xl.length = K := ⟨_, rfl⟩
                    rw [hKt] at p1 t1
                    have T1 : Hid (TrsIn n' w0 (.slice pt Kt ct) xl) := (by rw [← hKt]; exact p3' : TrsIn n' w0 (.slice pt Kt ct) xl)
                    have HKt : Hid (xl.length = Kt) := hKt
                    rw [hKt] at p1'
                    have PV : Hid (w0.cell? ⟨ge, off + i * 2 + 1, none⟩ = some (.slice pt Kt ct)) := p1'
                    clear t3 t4 t5 hx cc cc' p0 p2 p3 p0' p1' p2' p3' hKt ee
                    by_cases hkt : Kt ≤ 70
                    · have d7 : decide (70 < (Kt : Int)) = false := by simp; omega
                      go_wp2_with fail
                      clear q3 p1
                      go_loopw [9] (fun iv wz => ∃ j c2 : Nat, iv = .int .i64 (j : Int) ∧ j ≤ Kt ∧ c2 ≤ 200 ∧ Hid (c2 = c1 + cntL m (xl.take j)) ∧ Hid (∀ x ∈ xl.take j, SmN m x ∧ LowT n' m w0 x) ∧ Hid (Blk wz g #[.int .i64 (c2 : Int)] 3) ∧ Hid (Blk wz w.heap.size #[.int .i64 K, .int .i64 N, .string S, .slice (some ⟨ge, off, none⟩) Ke ce, .slice pr Kr cr] 25) ∧ Kp (fun b => b = g) w wz) (fun iv _ => Kt - (intOf iv).toNat)
                      case atStart => exact ⟨0, c1, rfl, by omega, by omega, (by simp [cntL] : c1 = c1 + cntL m (xl.take 0)), (by simp : ∀ x ∈ xl.take 0, SmN m x ∧ LowT n' m w0 x), HBG, HBX, hKp⟩
                      case round =>
                        clear HBG HBX hKp hbW
                        obtain ⟨j, c2, rfl, hj, hc2, HD, HL, HBG, HBX, hKp⟩ := hrel
                        have hbW : Below w0.heap.size w0 wr := hb0.trans (hKp.toBelow hb0.size (fun k hk => by omega))
                        have q3 := HBX.out.cell 3
                        simp at q3
                        obtain ⟨ge', off', ee, cc'⟩ := EA.out.get HX.out
                        obtain ⟨rfl, rfl⟩ : ge = ge' ∧ off = off' := by simpa using ee
                        obtain ⟨vt', p0', p1', p2', p3'⟩ := ens_at cc'
                        obtain rfl : vt' = .slice pt Kt ct := by
                          have := PV.out
                          rw [p1'] at this
                          exact Option.some.inj this
                        have p1 : wr.cell? ⟨ge, off + i * 2 + 1, none⟩ = some (.slice pt Kt ct) := by rw [hbW.cell (World.block_lt_of_cell? _ _ p1')]; exact p1'
                        clear p0' p1' p2' p3' cc' ee
                        by_cases hlt2 : j < Kt
                        · obtain ⟨x, hx⟩ : ∃ r, xl[j]? = some r := ⟨_, List.getElem?_eq_getElem (by rw [HKt.out]; exact hlt2)⟩
                          obtain ⟨g3, off3, rfl, k1⟩ := T1.out.get hx
                          obtain ⟨z1, n1, e1, z2, n2, e2, y0, y1, y2, y3, y4, y5⟩ := trs_get k1
                          have r0 := (hbW.cell (World.block_lt_of_cell? _ _ y0)).trans y0
                          have r1 := (hbW.cell (World.block_lt_of_cell? _ _ y1)).trans y1
                          have r2 := (hbW.cell (World.block_lt_of_cell? _ _ y2)).trans y2
                          have r3 := (hbW.cell (World.block_lt_of_cell? _ _ y3)).trans y3
                          have r4 := (hbW.cell (World.block_lt_of_cell? _ _ y4)).trans y4
                          have HX2 : Hid (xl[j]? = some x) := hx
                          have HC3 : Hid (Calls Try.prog 20 #[.agg #[.int .i64 x.kind, .int .i64 x.n, .string x.s, .slice z1 n1 e1, .slice z2 n2 e2], .int .i64 ((d + 1 : Nat) : Int), .pointer (some ⟨g, 0, none⟩)] wr (SmlP n' (d + 1) x g c2 w0 wr)) := IH x _ (d + 1) g c2 wr y5 hbW hg0 HBG.out hc2 (by omega)
                          clear y0 y1 y2 y3 y4 y5 k1 hx
                          go_wp2_with fail
                          refine HC3.out.mono ?_
                          rintro e w5 ⟨rr, c3, rfl, hB5, hc3, hKp5, hyes⟩
                          have hKp6 : Kp (fun b => b = g) w w5 := hKp.trans hKp5
                          have HBX5 : Hid (Blk w5 w.heap.size #[.int .i64 K, .int .i64 N, .string S, .slice (some ⟨ge, off, none⟩) Ke ce, .slice pr Kr cr] 25) := HBX.out.kp hKp5 hHg
                          have HB5 : Hid (Blk w5 g #[.int .i64 (c3 : Int)] 3) := hB5
                          clear hB5 hKp hKp5 HBX HBG q3 p1 r0 r1 r2 r3 r4 HC3
                          cases rr with
                          | false =>
                            clear hyes
                            go_wp2_with fail
                            go_ret
                            exact sml_no HB5.out hc3 hKp6
                          | true =>
                            obtain ⟨m', hm', s1, s2, s3, s4⟩ := hyes rfl
                            have hmm : m = m' + 1 := by have := HM.out; omega
                            rw [← hmm] at s1 s2 s4
                            have HD2 : Hid (c3 = c1 + cntL m (xl.take (j + 1))) := (by rw [take_snocT HX2.out, cntL_snoc, s2, HD.out]; omega : c3 = c1 + cntL m (xl.take (j + 1)))
                            have HL2 : Hid (∀ x ∈ xl.take (j + 1), SmN m x ∧ LowT n' m w0 x) := (by
                              intro y hy
                              rw [take_snocT HX2.out, List.mem_append] at hy
                              rcases hy with hy | hy
                              · exact HL.out y hy
                              · obtain rfl : y = x := by simpa using hy
                                exact ⟨s1, s4⟩ : ∀ x ∈ xl.take (j + 1), SmN m x ∧ LowT n' m w0 x)
                            clear hyes hm' hmm s1 s2 s4 HD HL
                            go_wp2_with fail
                            go_roundw
                            case rel => exact ⟨j + 1, c3, by go_num, by omega, s3, HD2, HL2, HB5, HBX5, hKp6⟩
                            case measure => simp [intOf]; omega
                        · have htk : xl.take j = xl := List.take_of_length_le (by rw [HKt.out]; omega)
                          have HC4 : Hid (c2 = c + 1 + cntE m (t.es.take (i + 1))) := (by rw [take_snocT HX.out, cntE_snoc, HD.out, htk, HC.out]; dsimp only; omega : c2 = c + 1 + cntE m (t.es.take (i + 1)))
                          have HE4 : Hid (∀ e ∈ t.es.take (i + 1), e.2.length ≤ 70 ∧ ∀ x ∈ e.2, SmN m x ∧ LowT n' m w0 x) := (by
                            intro y hy
                            rw [take_snocT HX.out, List.mem_append] at hy
                            rcases hy with hy | hy
                            · exact HE.out y hy
                            · obtain rfl : y = (xt, xl) := by simpa using hy
                              have := HL.out
                              rw [htk] at this
                              exact ⟨by rw [HKt.out]; exact hkt, this⟩ : ∀ e ∈ t.es.take (i + 1), e.2.length ≤ 70 ∧ ∀ x ∈ e.2, SmN m x ∧ LowT n' m w0 x)
                          clear htk HD HL HC HE
                          go_wp2_with fail
                          go_roundw
                          case rel => exact ⟨i + 1, c2, by go_num, by omega, hc2, HC4, HE4, HBG, HBX, hKp⟩
                          case measure => simp [intOf]; omega
                    · have d7 : decide (70 < (Kt : Int)) = true := by simp; omega
                      go_wp2_with fail
                      go_ret
                      exact sml_no HBG.out (by omega) hKp
                  · have hfin : SmN (m + 1) t ∧ c1 = c + cntN (m + 1) t ∧ LowT (n' + 1) (m + 1) w0 t := by
                      have htk : t.es.take i = t.es := List.take_of_length_le (by rw [HKe.out]; omega)
                      have hC := HC.out
                      have hE := HE.out
                      rw [htk] at hC hE
                      refine ⟨⟨by rw [HS.out]; exact h3, by rw [HKr.out]; omega, by rw [HKe.out]; omega, HRS.out, fun e he => ⟨(hE e he).1, fun y hy => ((hE e he).2 y hy).1⟩⟩, ?_, low_up fun e he y hy => ((hE e he).2 y hy).2⟩
                      rw [hC]
                      show c + 1 + cntE m t.es = c + (1 + cntE m t.es)
                      omega
                    have HF : Hid _ := hfin
                    clear hfin HC HE
                    go_wp2_with fail
                    go_ret
                    exact ⟨true, c1, rfl, HBG.out, by omega, hKp, fun _ => ⟨m, HM.out, HF.out.1, HF.out.2.1, hc1, HF.out.2.2⟩⟩
          · have d5 : decide (40 < (Ke : Int)) = true := by simp; omega
            have hx := d5
            go_enter Try.func20, Try.ntmps20
            go_wp2_with fail
            go_ret
            exact sml_no (c' := c + 1) ((HB.out.set 0 (.int .i64 ((c : Int) + 1)) (by simp)).below ((Below.refl _ _).alloc (Nat.le_refl _) _)) (by omega) (kp_set_alloc _ _ _ _ _)
        · have d4 : decide (40 < (Kr : Int)) = true := by simp; omega
          have hx := d4
          go_enter Try.func20, Try.ntmps20
          go_wp2_with fail
          go_ret
          exact sml_no (c' := c + 1) ((HB.out.set 0 (.int .i64 ((c : Int) + 1)) (by simp)).below ((Below.refl _ _).alloc (Nat.le_refl _) _)) (by omega) (kp_set_alloc _ _ _ _ _)
      · have d3 : decide (5000 < (S.size : Int)) = true := by simp; omega
        have hx := d3
        go_enter Try.func20, Try.ntmps20
        go_wp2_with fail
        go_ret
        exact sml_no (c' := c + 1) ((HB.out.set 0 (.int .i64 ((c : Int) + 1)) (by simp)).below ((Below.refl _ _).alloc (Nat.le_refl _) _)) (by omega) (kp_set_alloc _ _ _ _ _)
    · have d2 : decide (13 < (d : Int)) = true := by simp; omega
      have hx := d2
      go_enter Try.func20, Try.ntmps20
      go_wp2_with fail
      go_ret
      exact sml_no (c' := c + 1) ((HB.out.set 0 (.int .i64 ((c : Int) + 1)) (by simp)).below ((Below.refl _ _).alloc (Nat.le_refl _) _)) (by omega) (kp_set_alloc _ _ _ _ _)
  · have d1 : decide (200 < (c : Int) + 1) = true := by simp; omega
    have hx := d1
    go_enter Try.func20, Try.ntmps20
    go_wp2_with fail
    go_ret
    exact sml_no (c' := c + 1) ((HB.out.set 0 (.int .i64 ((c : Int) + 1)) (by simp)).below ((Below.refl _ _).alloc (Nat.le_refl _) _)) (by omega) (kp_set_alloc _ _ _ _ _)
theorem small_rec (w0 : World) : ∀ (n : Nat) (t : Tr) (v : Value) (d g c : Nat) (w : World), TrIn n w0 v t → Below w0.heap.size w0 w → w0.heap.size ≤ g → Blk w g #[.int .i64 (c : Int)] 3 → c ≤ 200 → d ≤ 14 → Calls Try.prog 20 #[v, .int .i64 (d : Int), .pointer (some ⟨g, 0, none⟩)] w (SmlP n d t g c w0 w)
  | 0, t, v, d, g, c, w, h, _, _, _, _, _ => by obtain ⟨r, _, h⟩ := h; exact h.elim
  | n + 1, t, v, d, g, c, w, h, h1, h2, h3, h4, h5 => small_step n w0 (fun t v d g c w => small_rec w0 n t v d g c w) t v d g c w h h1 h2 h3 h4 h5
/-- What Small answers: yes only of a tree that is not too much. -/
def SmallP (t : Tr) (v : Value) (w : World) (e : Ending) : Prop := ∃ r : Bool, e = .returned (.bool r) ∧ (r = true → SmN 14 t ∧ cntN 14 t ≤ 200 ∧ TrIn 14 w v t)
set_option maxHeartbeats 1000000 in
theorem small_any (n : Nat) (t : Tr) (v : Value) (w : World) (h : TrIn n w v t) : Calls Try.prog 5 #[v] w fun e w' => SmallP t v w e ∧ Below w.heap.size w w' := by
  obtain ⟨m, ve, vr, -, rfl, -, -, -, -, ra, ea⟩ := h.open
  obtain ⟨pe, ce, rfl, -⟩ := ea.open
  obtain ⟨pr, cr, rfl, -⟩ := rest_holds ra
  have HH : Hid _ := h
  have hs := fun W hW hg hB => small_rec w n t _ 0 (w.heap.size + 1) 0 W h hW hg hB (by omega) (by omega)
  have HS : Hid _ := hs
  clear hs ra ea h
  generalize t.es.length = Ke at *
  generalize t.rest.length = Kr at *
  generalize t.kind = K at *
  generalize t.n = N at *
  generalize t.s = S at *
  go_enter Try.func5, Try.ntmps5
  go_wp2_with fail
  refine (HS.out _ (((Below.refl _ _).alloc (Nat.le_refl _) _).alloc (by simp) _) (by omega) (blk_new2T w _ _ _)).mono ?_
  rintro e w1 ⟨r, c', rfl, h1, h2, h3, h4⟩
  have hb : Below w.heap.size w w1 := (((Below.refl _ _).alloc (Nat.le_refl _) _).alloc (by simp) _).trans (h3.toBelow (by simp; omega) (fun k hk => by omega))
  have H4 : Hid _ := h4
  clear h1 h2 h3 h4 HS
  go_wp2_with fail
  go_ret
  refine ⟨⟨r, rfl, fun hr => ?_⟩, hb⟩
  obtain ⟨m, hm, s1, s2, s3, s4⟩ := H4.out hr
  obtain rfl : m = 13 := by omega
  refine ⟨s1, (by omega : cntN (13 + 1) t ≤ 200), ?_⟩
  obtain ⟨q, hq, hq2⟩ := HH.out
  exact ⟨q, hq, s4 q hq2⟩
end Go.Proofs.Ytgedelgdjcnogab
