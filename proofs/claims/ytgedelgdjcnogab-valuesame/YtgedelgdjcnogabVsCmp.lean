/- value.compare: what is one level down. -/
import Derived.Test.YtgedelgdjcnogabVsEq
import Derived.Test.YtgedelgdjcnogabTvPush
import Derived.Test.YtgedelgdjcnogabRg
import Derived.Maps.AppendAt
import Derived.OwnWalk
namespace Go.Proofs.Ytgedelgdjcnogab
open Go.ChangeShapes Go.WideShapes Go.ChangeAt Go.RowKit
set_option linter.unusedVariables false
set_option linter.unusedSimpArgs false
set_option maxRecDepth 20000

theorem infoSd : (Try.prog.info? 60).map (fun i => (i.zero, i.size, i.bytes)) = some (some (.agg #[.slice none 0 0, .slice none 0 0]), 2, 48) := by kernel_rfl
theorem range_le {α : Type} (f : Nat → List α) (K : Nat) : ∀ m, ((List.range K).flatMap f).length ≤ ((List.range (K + m)).flatMap f).length
  | 0 => Nat.le_refl _
  | m + 1 => by
    have := range_le f K m
    rw [← Nat.add_assoc, List.range_succ, List.flatMap_append, List.length_append]
    omega
theorem its_pre {dd : Nat} {w : World} {va vb : Value} {ea eb : Ens} {i k : Nat} {e f : Int × List Tr} (h1 : ea[i]? = some e) (h2 : eb[i]? = some f) (hk : k ≤ e.2.length) :
    (itsE dd w va vb ea eb i).length + (itsT dd w (cellE w va i) (cellE w vb i) e.2 f.2 k).length ≤ (itsE dd w va vb ea eb ea.length).length := by
  have hi := (List.getElem?_eq_some_iff.1 h1).1
  have a1 := range_le (itE dd w va vb ea eb) (i + 1) (ea.length - (i + 1))
  have a2 := range_le (itT dd w (cellE w va i) (cellE w vb i) e.2 f.2) k (e.2.length - k)
  rw [show i + 1 + (ea.length - (i + 1)) = ea.length from by omega] at a1
  rw [show k + (e.2.length - k) = e.2.length from by omega] at a2
  have a3 := itsE_succ dd w va vb ea eb i
  rw [itE_of h1 h2] at a3
  have a4 := congrArg List.length a3
  rw [List.length_append] at a4
  unfold itsE itsT at *
  omega
def rowsOf (l : List It) : List Value := (l.map It.row).flatten
theorem rowsOf_append (l m : List It) : rowsOf (l ++ m) = rowsOf l ++ rowsOf m := by simp [rowsOf]
theorem own_ne {w : World} {B : Nat} {e : TypeId} {sz : Nat} {v : Value} {n : Nat} {xs : List Value} {k : Nat} {cs : Array Value} {t : TypeId} (h : w.ownsRow B e sz v n xs) (hb : Blk w k cs t) (ht : t ≠ e) : ¬ v.ownBlock = some k := by
  intro hk
  rcases h.2 with ⟨rfl, _⟩ | ⟨g, cap, cur, rfl, _, h3, _⟩
  · cases hk
  · obtain rfl : g = k := by simpa [Value.ownBlock] using hk
    unfold Blk at hb
    rw [h3] at hb
    simp at hb
    exact ht hb.2.symm
/-- What compare answers. -/
def CmpP (dd : Nat) (ea eb : Ens) (va vb : Value) (w : World) (e : Ending) (w' : World) : Prop := Below w.heap.size w w' ∧
  ((OkC ea eb ∧ ∃ v, e = .returned (.tuple #[v, .bool true]) ∧ RowG w' v 2 ((itsE dd w va vb ea eb ea.length).map It.row)) ∨ (¬ OkC ea eb ∧ e = .returned (.tuple #[.slice none 0 0, .bool false])))
set_option maxHeartbeats 8000000 in
theorem compareS_any (d dd : Nat) (ea eb : Ens) (va vb : Value) (w : World) (ha : EnsIn d w va ea) (hb : EnsIn d w vb eb) (hl : ea.length = eb.length) (hw : (itsE dd w va vb ea eb ea.length).length ≤ 1000) :
    Calls Try.prog 24 #[.agg #[va, vb]] w (CmpP dd ea eb va vb w) := by
  obtain ⟨pa, ca, rfl, u1, u2, -⟩ := RowP.open ha
  obtain ⟨pb, cb, rfl, v1, v2, -⟩ := RowP.open hb
  unfold maxLen at u2 v2
  rw [← hl] at hb v1 hw ⊢
  obtain ⟨N, hN⟩ : ∃ N, ea.length = N := ⟨_, rfl⟩
  have HL : Hid (ea.length = N ∧ eb.length = N) := ⟨hN, by rw [← hl]; exact hN⟩
  rw [hN] at u1 v1 ha hb hw ⊢
  have HA : Hid (EnsIn d w (.slice pa N ca) ea) := ha
  have HB : Hid (EnsIn d w (.slice pb N cb) eb) := hb
  have HW : Hid ((itsE dd w (.slice pa N ca) (.slice pb N cb) ea eb N).length ≤ 1000) := hw
  have HQ : Hid (∀ e w', Below w.heap.size w w' → ((OkC ea eb ∧ ∃ v, e = .returned (.tuple #[v, .bool true]) ∧ RowG w' v 2 ((itsE dd w (.slice pa N ca) (.slice pb N cb) ea eb N).map It.row)) ∨ (¬ OkC ea eb ∧ e = .returned (.tuple #[.slice none 0 0, .bool false]))) → CmpP dd ea eb (.slice pa N ca) (.slice pb N cb) w e w') := fun e w' h1 h2 => ⟨h1, by rw [HL.out.1]; exact h2⟩
  clear ha hb hl hN hw
  go_enter Try.func24, Try.ntmps24
  go_wp2_with fail
  have HS0 : Hid (Blk (w.alloc (Obj.cells #[.slice pa N ca, .slice pb N cb] 60)) w.heap.size #[.slice pa N ca, .slice pb N cb] 60) := Blk.new w _ _
  have hb0 : Below w.heap.size w (w.alloc (Obj.cells #[.slice pa N ca, .slice pb N cb] 60)) := (Below.refl _ _).alloc (Nat.le_refl _) _
  go_loopw [4, 13] (fun ov iv wr => ∃ (i k : Nat) (oa : Option Addr) (oc : Nat), iv = .int .i64 (i : Int) ∧ ov = .slice oa k oc ∧ i ≤ N ∧ Hid (∀ (j : Nat) (e f : Int × List Tr), j < i → ea[j]? = some e → eb[j]? = some f → EntA e f) ∧ Hid (wr.ownsRow (w.heap.size + 1) 60 2 (.slice oa k oc) k (rowsOf (itsE dd w (.slice pa N ca) (.slice pb N cb) ea eb i))) ∧ Hid (Blk wr w.heap.size #[.slice pa N ca, .slice pb N cb] 60) ∧ Below w.heap.size w wr) (fun _ iv _ => N - (intOf iv).toNat)
  case atStart => exact ⟨0, 0, none, 0, rfl, rfl, by omega, (fun j e f hj => absurd hj (by omega) : ∀ (j : Nat) (e f : Int × List Tr), j < 0 → ea[j]? = some e → eb[j]? = some f → EntA e f), World.ownsRow_nil _ _ _ _, HS0, hb0⟩
  case round =>
    clear HS0 hb0
    obtain ⟨i, k, oa, oc, rfl, rfl, hi, HJ, HO, HBS, hbel⟩ := hrel
    by_cases hlt : i < N
    · obtain ⟨e, he⟩ : ∃ r, ea[i]? = some r := ⟨_, List.getElem?_eq_getElem (by rw [HL.out.1]; exact hlt)⟩
      obtain ⟨f, hf⟩ : ∃ r, eb[i]? = some r := ⟨_, List.getElem?_eq_getElem (by rw [HL.out.2]; exact hlt)⟩
      obtain ⟨g, off, ta, tc, c', e1, e2, p0, p1, ht⟩ := cellE_of HA.out he
      simp at e1
      obtain ⟨rfl, -, rfl⟩ := e1
      obtain ⟨g2, off2, tb, tc2, c2', f1, f2, o0, o1, hu⟩ := cellE_of HB.out hf
      simp at f1
      obtain ⟨rfl, -, rfl⟩ := f1
      obtain ⟨ta', ca', q1, q2, q3, -⟩ := RowP.open ht
      simp at q1
      obtain ⟨rfl, rfl⟩ := q1
      obtain ⟨tb', cb', r1, r2, r3, -⟩ := RowP.open hu
      simp at r1
      obtain ⟨rfl, rfl⟩ := r1
      unfold maxLen at q3 r3
      replace p0 := (hbel.cell (World.block_lt_of_cell? _ _ p0)).trans p0
      replace p1 := (hbel.cell (World.block_lt_of_cell? _ _ p1)).trans p1
      replace o0 := (hbel.cell (World.block_lt_of_cell? _ _ o0)).trans o0
      replace o1 := (hbel.cell (World.block_lt_of_cell? _ _ o1)).trans o1
      obtain ⟨Ta, hTa⟩ : ∃ N, e.2.length = N := ⟨_, rfl⟩
      obtain ⟨Tb, hTb⟩ : ∃ N, f.2.length = N := ⟨_, rfl⟩
      obtain ⟨xe, hxe⟩ : ∃ x, e.1 = x := ⟨_, rfl⟩
      obtain ⟨xf, hxf⟩ : ∃ x, f.1 = x := ⟨_, rfl⟩
      rw [hTa] at p1 ht q2 e2
      rw [hTb] at o1 hu r2 f2
      rw [hxe] at p0
      rw [hxf] at o0
      have HT : Hid (TrsIn d w (.slice ta Ta tc) e.2) := ht
      have HU : Hid (TrsIn d w (.slice tb Tb tc2) f.2) := hu
      have HE : Hid (ea[i]? = some e) := he
      have HF : Hid (eb[i]? = some f) := hf
      have HCE : Hid (cellE w (.slice (some ⟨g, off, none⟩) N ca) i = .slice ta Ta tc ∧ cellE w (.slice (some ⟨g2, off2, none⟩) N cb) i = .slice tb Tb tc2) := ⟨e2, f2⟩
      have HTa : Hid (e.2.length = Ta ∧ f.2.length = Tb ∧ e.1 = xe ∧ f.1 = xf) := ⟨hTa, hTb, hxe, hxf⟩
      clear e2 f2 ht hu hTa hTb hxe hxf he hf
      have al1 : Below wr.heap.size wr (wr.alloc (Obj.cells #[.int .i64 xe, .slice ta Ta tc] 33)) := (Below.refl _ _).alloc (Nat.le_refl _) _
      have al2 : Below wr.heap.size wr ((wr.alloc (Obj.cells #[.int .i64 xe, .slice ta Ta tc] 33)).alloc (Obj.cells #[.int .i64 xf, .slice tb Tb tc2] 33)) := al1.alloc (by simp) _
      replace o0 := (al1.cell (World.block_lt_of_cell? _ _ o0)).trans o0
      replace o1 := (al1.cell (World.block_lt_of_cell? _ _ o1)).trans o1
      have qs := ((HBS.out.below al1).cell 1).trans rfl
      have hb2 : Below w.heap.size w ((wr.alloc (Obj.cells #[.int .i64 xe, .slice ta Ta tc] 33)).alloc (Obj.cells #[.int .i64 xf, .slice tb Tb tc2] 33)) := hbel.trans (al2.mono hbel.size)
      by_cases hx : xe = xf
      · subst hx
        have HC : Hid (Calls Try.prog 28 #[.slice ta Ta tc, .slice tb Tb tc2, .func (.func 22) #[] #[]] ((wr.alloc (Obj.cells #[.int .i64 xe, .slice ta Ta tc] 33)).alloc (Obj.cells #[.int .i64 xe, .slice tb Tb tc2] 33)) fun e' w' => Says (AllA e.2 f.2) e' ∧ Below ((wr.alloc (Obj.cells #[.int .i64 xe, .slice ta Ta tc] 33)).alloc (Obj.cells #[.int .i64 xe, .slice tb Tb tc2] 33)).heap.size ((wr.alloc (Obj.cells #[.int .i64 xe, .slice ta Ta tc] 33)).alloc (Obj.cells #[.int .i64 xe, .slice tb Tb tc2] 33)) w') := equalT_any d d _ _ _ _ _ (HT.out.belowT hb2) (HU.out.belowT hb2)
        have B6 : Blk ((wr.alloc (Obj.cells #[.int .i64 xe, .slice ta Ta tc] 33)).alloc (Obj.cells #[.int .i64 xe, .slice tb Tb tc2] 33)) wr.heap.size #[.int .i64 xe, .slice ta Ta tc] 33 := (Blk.new wr _ _).below ((Below.refl _ _).alloc (Nat.le_refl _) _)
        have B7 : Blk ((wr.alloc (Obj.cells #[.int .i64 xe, .slice ta Ta tc] 33)).alloc (Obj.cells #[.int .i64 xe, .slice tb Tb tc2] 33)) (wr.heap.size + 1) #[.int .i64 xe, .slice tb Tb tc2] 33 := by
          have := Blk.new (wr.alloc (Obj.cells #[.int .i64 xe, .slice ta Ta tc] 33)) #[.int .i64 xe, .slice tb Tb tc2] 33
          rwa [show (wr.alloc (Obj.cells #[.int .i64 xe, .slice ta Ta tc] 33)).heap.size = wr.heap.size + 1 from by simp] at this
        go_wp2_with fail
        refine HC.out.mono ?_
        rintro e' w1 ⟨⟨R, rfl, hR⟩, h1⟩
        have HR : Hid (R = true ↔ AllA e.2 f.2) := hR
        have hb1 : Below wr.heap.size wr w1 := al2.trans (h1.mono al2.size)
        have hbw : Below w.heap.size w w1 := hbel.trans (hb1.mono hbel.size)
        have HB6 : Hid (Blk w1 wr.heap.size #[.int .i64 xe, .slice ta Ta tc] 33) := B6.below h1
        have HB7 : Hid (Blk w1 (wr.heap.size + 1) #[.int .i64 xe, .slice tb Tb tc2] 33) := B7.below h1
        have HBS1 : Hid (Blk w1 w.heap.size #[.slice (some ⟨g, off, none⟩) N ca, .slice (some ⟨g2, off2, none⟩) N cb] 60) := HBS.out.below hb1
        have HO1 : Hid (w1.ownsRow (w.heap.size + 1) 60 2 (.slice oa k oc) k (rowsOf (itsE dd w (.slice (some ⟨g, off, none⟩) N ca) (.slice (some ⟨g2, off2, none⟩) N cb) ea eb i))) := own_below HO.out hb1
        clear hR HC B6 B7 h1 hb1 hb2 al1 al2 p0 p1 o0 o1 qs HBS HO hbel
        generalize wr.heap.size = b6 at *
        cases R with
        | true =>
          have q6 := (HB6.out.cell 1).trans rfl
          have HALL : Hid (AllA e.2 f.2) := HR.out.1 rfl
          have hTT : Ta = Tb := by rw [← HTa.out.1, ← HTa.out.2.1]; exact HALL.out.1
          subst hTT
          have HJ2 : Hid (∀ (j : Nat) (e f : Int × List Tr), j < i + 1 → ea[j]? = some e → eb[j]? = some f → EntA e f) := (fun j e' f' hj h1 h2 => by
            rcases Nat.lt_or_eq_of_le (Nat.le_of_lt_succ hj) with h | h
            · exact HJ.out j e' f' h h1 h2
            · subst h
              rw [HE.out] at h1
              rw [HF.out] at h2
              cases h1; cases h2
              exact ⟨HTa.out.2.2.1.trans HTa.out.2.2.2.symm, HALL.out⟩ : ∀ (j : Nat) (e f : Int × List Tr), j < i + 1 → ea[j]? = some e → eb[j]? = some f → EntA e f)
          have HO2 : Hid (w1.ownsRow (w.heap.size + 1) 60 2 (.slice oa k oc) k (rowsOf (itsE dd w (.slice (some ⟨g, off, none⟩) N ca) (.slice (some ⟨g2, off2, none⟩) N cb) ea eb i ++ itsT dd w (.slice ta Ta tc) (.slice tb Ta tc2) e.2 f.2 0))) := by
            show World.ownsRow _ _ _ _ _ _ _
            have := HO1.out
            simpa [itsT] using this
          clear HO1 HJ HR
          go_wp2_with fail
          clear q6
          go_loopw [4, 39] (fun ov jv wr => ∃ (j k : Nat) (oa : Option Addr) (oc : Nat), jv = .int .i64 (j : Int) ∧ ov = .slice oa k oc ∧ j ≤ Ta ∧ Hid (wr.ownsRow (w.heap.size + 1) 60 2 (.slice oa k oc) k (rowsOf (itsE dd w (.slice (some ⟨g, off, none⟩) N ca) (.slice (some ⟨g2, off2, none⟩) N cb) ea eb i ++ itsT dd w (.slice ta Ta tc) (.slice tb Ta tc2) e.2 f.2 j))) ∧ Hid (Blk wr w.heap.size #[.slice (some ⟨g, off, none⟩) N ca, .slice (some ⟨g2, off2, none⟩) N cb] 60) ∧ Hid (Blk wr (b6 + 1) #[.int .i64 xe, .slice tb Ta tc2] 33) ∧ Below w.heap.size w wr) (fun _ jv _ => Ta - (intOf jv).toNat)
          case atStart => exact ⟨0, k, oa, oc, rfl, rfl, by omega, HO2, HBS1, HB7, hbw⟩
          case round =>
            clear HO2 HBS1 HB6 HB7 hbw
            obtain ⟨j, k, oa, oc, rfl, rfl, hj, HO, HBS, HB7, hbel⟩ := hrel
            by_cases hlt2 : j < Ta
            · obtain ⟨t, ht⟩ : ∃ r, e.2[j]? = some r := ⟨_, List.getElem?_eq_getElem (by rw [HTa.out.1]; exact hlt2)⟩
              obtain ⟨u, hu⟩ : ∃ r, f.2[j]? = some r := ⟨_, List.getElem?_eq_getElem (by rw [HTa.out.2.1]; exact hlt2)⟩
              obtain ⟨gt, offt, rfl, k1⟩ := RowP.get HT.out ht
              obtain ⟨gu, offu, rfl, k2⟩ := RowP.get HU.out hu
              obtain ⟨a1, n1, b1, a2, n2, b2, p0, p1, p2, p3, p4, p5⟩ := trs_get k1
              obtain ⟨a3, n3, b3, a4, n4, b4, -, -, -, o3, -, -⟩ := trs_get k2
              have hn1 : n1 = t.es.length := by
                obtain ⟨_, _, _, _, hv, _, _, _, _, _, hes⟩ := p5.open
                simp at hv
                obtain ⟨x1, x2, hh, -⟩ := RowP.open hes
                rw [← hv.1] at hh
                simp at hh
                exact hh.2.1
              have HCT : Hid (cellT w (.slice (some ⟨gt, offt, none⟩) Ta tc) j = .slice a1 n1 b1 ∧ cellT w (.slice (some ⟨gu, offu, none⟩) Ta tc2) j = .slice a3 n3 b3) := ⟨by simp [cellT, p3], by simp [cellT, o3]⟩
              have HI : Hid (itT dd w (.slice (some ⟨gt, offt, none⟩) Ta tc) (.slice (some ⟨gu, offu, none⟩) Ta tc2) e.2 f.2 j = if n1 = 0 then [] else [⟨dd, .slice a1 n1 b1, .slice a3 n3 b3, t.es, u.es⟩]) := by
                show _ = _
                rw [itT_of ht hu, HCT.out.1, HCT.out.2, hn1]
              have HPRE : Hid ((itsE dd w (.slice (some ⟨g, off, none⟩) N ca) (.slice (some ⟨g2, off2, none⟩) N cb) ea eb i).length + (itsT dd w (.slice (some ⟨gt, offt, none⟩) Ta tc) (.slice (some ⟨gu, offu, none⟩) Ta tc2) e.2 f.2 (j + 1)).length ≤ 1000) := by
                show _ ≤ _
                have := its_pre (dd := dd) (w := w) (va := .slice (some ⟨g, off, none⟩) N ca) (vb := .slice (some ⟨g2, off2, none⟩) N cb) (k := j + 1) HE.out HF.out (by rw [HTa.out.1]; omega)
                rw [HCE.out.1, HCE.out.2, HL.out.1] at this
                exact Nat.le_trans this HW.out
              replace p0 := (hbel.cell (World.block_lt_of_cell? _ _ p0)).trans p0
              replace p1 := (hbel.cell (World.block_lt_of_cell? _ _ p1)).trans p1
              replace p2 := (hbel.cell (World.block_lt_of_cell? _ _ p2)).trans p2
              replace p3 := (hbel.cell (World.block_lt_of_cell? _ _ p3)).trans p3
              replace p4 := (hbel.cell (World.block_lt_of_cell? _ _ p4)).trans p4
              have HUW : Hid (∀ W, Below w.heap.size w W → W.cell? ⟨gu, offu + j * 5 + 3, none⟩ = some (.slice a3 n3 b3)) := fun W hW => (hW.cell (World.block_lt_of_cell? _ _ o3)).trans o3
              replace o3 := (hbel.cell (World.block_lt_of_cell? _ _ o3)).trans o3
              have HES : Hid (t.es.length = n1) := hn1.symm
              clear k1 k2 p5 hn1 ht hu HCT
              generalize t.kind = tk at *
              generalize t.n = tn at *
              generalize t.s = ts at *
              have al : Below wr.heap.size wr (wr.alloc (Obj.cells #[.int .i64 tk, .int .i64 tn, .string ts, .slice a1 n1 b1, .slice a2 n2 b2] 25)) := (Below.refl _ _).alloc (Nat.le_refl _) _
              have hbA : Below w.heap.size w (wr.alloc (Obj.cells #[.int .i64 tk, .int .i64 tn, .string ts, .slice a1 n1 b1, .slice a2 n2 b2] 25)) := hbel.trans (al.mono hbel.size)
              rcases Nat.eq_zero_or_pos n1 with h0 | h0
              · subst h0
                have HO3 : Hid ((wr.alloc (Obj.cells #[.int .i64 tk, .int .i64 tn, .string ts, .slice a1 0 b1, .slice a2 n2 b2] 25)).ownsRow (w.heap.size + 1) 60 2 (.slice oa k oc) k (rowsOf (itsE dd w (.slice (some ⟨g, off, none⟩) N ca) (.slice (some ⟨g2, off2, none⟩) N cb) ea eb i ++ itsT dd w (.slice (some ⟨gt, offt, none⟩) Ta tc) (.slice (some ⟨gu, offu, none⟩) Ta tc2) e.2 f.2 (j + 1)))) := by
                  show World.ownsRow _ _ _ _ _ _ _
                  rw [itsT_succ, HI.out, if_pos rfl, List.append_nil]
                  exact own_below HO.out al
                have HBSA : Hid (Blk _ _ _ _) := HBS.out.below al
                have HB7A : Hid (Blk _ _ _ _) := HB7.out.below al
                go_wp2_with fail
                clear p0 p1 p2 p3 p4 o3 al
                go_roundw
                case rel => exact ⟨j + 1, k, oa, oc, by go_num, rfl, by omega, HO3, HBSA, HB7A, hbA⟩
                case measure => simp [intOf]; omega
              · have B9 : Blk (wr.alloc (Obj.cells #[.int .i64 tk, .int .i64 tn, .string ts, .slice a1 n1 b1, .slice a2 n2 b2] 25)) wr.heap.size #[.int .i64 tk, .int .i64 tn, .string ts, .slice a1 n1 b1, .slice a2 n2 b2] 25 := Blk.new wr _ _
                go_wp2_with fail
                have B7A := HB7.out.below al
                have BSA := HBS.out.below al
                have HOA := own_below HO.out al
                replace o3 := (al.cell (World.block_lt_of_cell? _ _ o3)).trans o3
                clear p0 p1 p2 p3 p4 al HO HBS HB7 hbel
                generalize wr.alloc (Obj.cells #[.int .i64 tk, .int .i64 tn, .string ts, .slice a1 n1 b1, .slice a2 n2 b2] 25) = w9 at *
                generalize wr.heap.size = b9 at *
                have H9 : Hid (∀ W, Below w9.heap.size w9 W → W.cell? ⟨b9, 3, none⟩ = some (.slice a1 n1 b1)) := fun W hW => ((B9.below hW).cell 3).trans rfl
                have H7 : Hid (∀ W, Below w9.heap.size w9 W → W.cell? ⟨b6 + 1, 1, none⟩ = some (.slice (some ⟨gu, offu, none⟩) Ta tc2)) := fun W hW => ((B7A.below hW).cell 1).trans rfl
                have HU3 : Hid (∀ W, Below w9.heap.size w9 W → W.cell? ⟨gu, offu + j * 5 + 3, none⟩ = some (.slice a3 n3 b3)) := fun W hW => (hW.cell (World.block_lt_of_cell? _ _ o3)).trans o3
                have HB9 : Hid (Blk _ _ _ _) := B9
                have HH7 : Hid (Blk _ _ _ _) := B7A
                have HHS : Hid (Blk _ _ _ _) := BSA
                have HHO : Hid (w9.ownsRow _ _ _ _ _ _) := HOA
                clear B9 B7A BSA HOA o3
                have hS : w9.drew.cell? ⟨b9, 3, none⟩ = some (.slice a1 n1 b1) ∧ w9.drew.cell? ⟨b6 + 1, 1, none⟩ = some (.slice (some ⟨gu, offu, none⟩) Ta tc2) ∧ w9.drew.cell? ⟨gu, offu + j * 5 + 3, none⟩ = some (.slice a3 n3 b3) := ⟨H9.out _ (Below.refl _ _).drew, H7.out _ (Below.refl _ _).drew, HU3.out _ (Below.refl _ _).drew⟩
                refine wp_region_held_drew (S := fun w' => w'.cell? ⟨b9, 3, none⟩ = some (.slice a1 n1 b1) ∧ w'.cell? ⟨b6 + 1, 1, none⟩ = some (.slice (some ⟨gu, offu, none⟩) Ta tc2) ∧ w'.cell? ⟨gu, offu + j * 5 + 3, none⟩ = some (.slice a3 n3 b3)) (by kernel_rfl) hS (fun hS => ?_)
                refine rg_take 0 48 (.slice oa k oc) _ rfl rfl (by kernel_rfl) (by kernel_rfl) (by kernel_rfl) (fun _ _ _ h => h) (by rfl) (fun w' hw' => ?_) hS (listed' := #[true, false, false, false, false, false, false, false, false, false, false, false, false]) (by kernel_rfl) rfl ?_
                · go_simp
                simp only [List.setIfInBounds_toArray, List.set_cons_zero, List.set_cons_succ]
                refine rg_take 1 49 (.pointer (some ⟨b9, 3, none⟩)) _ rfl rfl (by kernel_rfl) (by kernel_rfl) (by kernel_rfl) (fun _ _ _ h => h) (by rfl) (fun w' hw' => ?_) hS (listed' := #[true, true, false, false, false, false, false, false, false, false, false, false, false]) (by kernel_rfl) rfl ?_
                · go_simp
                simp only [List.setIfInBounds_toArray, List.set_cons_zero, List.set_cons_succ]
                refine rg_take 2 50 (.slice a1 n1 b1) _ rfl rfl (by kernel_rfl) (by kernel_rfl) (by kernel_rfl) (fun _ _ _ h => h) (by rfl) (fun w' hw' => ?_) hS (listed' := #[true, true, true, false, false, false, false, false, false, false, false, false, false]) (by kernel_rfl) rfl ?_
                · obtain ⟨hcv, -, -⟩ := hw'; go_simp
                simp only [List.setIfInBounds_toArray, List.set_cons_zero, List.set_cons_succ]
                refine rg_take 3 51 (.pointer (some ⟨b6 + 1, 1, none⟩)) _ rfl rfl (by kernel_rfl) (by kernel_rfl) (by kernel_rfl) (fun _ _ _ h => h) (by rfl) (fun w' hw' => ?_) hS (listed' := #[true, true, true, true, false, false, false, false, false, false, false, false, false]) (by kernel_rfl) rfl ?_
                · go_simp
                simp only [List.setIfInBounds_toArray, List.set_cons_zero, List.set_cons_succ]
                refine rg_take 4 52 (.slice (some ⟨gu, offu, none⟩) Ta tc2) _ rfl rfl (by kernel_rfl) (by kernel_rfl) (by kernel_rfl) (fun _ _ _ h => h) (by rfl) (fun w' hw' => ?_) hS (listed' := #[true, true, true, true, true, false, false, false, false, false, false, false, false]) (by kernel_rfl) rfl ?_
                · obtain ⟨-, hcv, -⟩ := hw'; go_simp
                simp only [List.setIfInBounds_toArray, List.set_cons_zero, List.set_cons_succ]
                refine rg_take 5 53 (.int .i64 (j : Int)) _ rfl rfl (by kernel_rfl) (by kernel_rfl) (by kernel_rfl) (fun _ _ _ h => h) (by rfl) (fun w' hw' => ?_) hS (listed' := #[true, true, true, true, true, true, false, false, false, false, false, false, false]) (by kernel_rfl) rfl ?_
                · go_simp
                simp only [List.setIfInBounds_toArray, List.set_cons_zero, List.set_cons_succ]
                refine rg_take 6 54 (.pointer (some ⟨gu, offu + j * 5, none⟩)) _ rfl rfl (by kernel_rfl) (by kernel_rfl) (by kernel_rfl) (fun _ _ _ h => h) (by rfl) (fun w' hw' => ?_) hS (listed' := #[true, true, true, true, true, true, true, false, false, false, false, false, false]) (by kernel_rfl) rfl ?_
                · go_simp
                simp only [List.setIfInBounds_toArray, List.set_cons_zero, List.set_cons_succ]
                refine rg_take 7 55 (.pointer (some ⟨gu, offu + j * 5 + 3, none⟩)) _ rfl rfl (by kernel_rfl) (by kernel_rfl) (by kernel_rfl) (fun _ _ _ h => h) (by rfl) (fun w' hw' => ?_) hS (listed' := #[true, true, true, true, true, true, true, true, false, false, false, false, false]) (by kernel_rfl) rfl ?_
                · go_simp
                simp only [List.setIfInBounds_toArray, List.set_cons_zero, List.set_cons_succ]
                refine rg_take 8 56 (.slice a3 n3 b3) _ rfl rfl (by kernel_rfl) (by kernel_rfl) (by kernel_rfl) (fun _ _ _ h => h) (by rfl) (fun w' hw' => ?_) hS (listed' := #[true, true, true, true, true, true, true, true, true, false, false, false, false]) (by kernel_rfl) rfl ?_
                · obtain ⟨-, -, hcv⟩ := hw'; go_simp
                simp only [List.setIfInBounds_toArray, List.set_cons_zero, List.set_cons_succ]
                refine rg_take 9 57 (.agg #[.slice a1 n1 b1, .slice a3 n3 b3]) _ rfl rfl (by kernel_rfl) (by kernel_rfl) (by kernel_rfl) (fun _ _ _ h => h) (by rfl) (fun w' hw' => ?_) hS (listed' := #[true, true, true, true, true, true, true, true, true, true, false, false, false]) (by kernel_rfl) rfl ?_
                · go_simp
                simp only [List.setIfInBounds_toArray, List.set_cons_zero, List.set_cons_succ]
                have alB : Below w9.heap.size w9 (w9.drew.alloc (Obj.cells #[.slice a1 n1 b1, .slice a3 n3 b3] 60)) := ((Below.refl _ _).drew).alloc (Nat.le_refl _) _
                have BE : Blk (w9.drew.alloc (Obj.cells #[.slice a1 n1 b1, .slice a3 n3 b3] 60)) w9.drew.heap.size #[.slice a1 n1 b1, .slice a3 n3 b3] 60 := Blk.new _ _ _
                obtain ⟨i0, hi0, hz0, hz1, hz2⟩ := info_parts infoSd
                have hk : k ≤ 999 := by
                  have h1 := HPRE.out
                  have h2 := HHO.out.1
                  rw [itsT_succ, HI.out, if_neg (by omega), List.length_append, List.length_singleton] at h1
                  have h3 : ∀ l : List It, (rowsOf l).length = l.length * 2 := fun l => by unfold rowsOf; rw [flat_len (size := 2) _ (fun r hr => by obtain ⟨x, _, rfl⟩ := List.mem_map.1 hr; rfl), List.length_map]
                  rw [h3, List.length_append] at h2
                  omega
                obtain ⟨v', W7, s1, s2, s3, _, s5⟩ := run_append_own_at (w9.drew.alloc (Obj.cells #[.slice a1 n1 b1, .slice a3 n3 b3] 60)) (w.heap.size + 1) 61 61 60 i0 _ 2 48 Try.underlying61 hi0 hz0 hz1 hz2 rfl (by decide) (.slice oa k oc) k _ (own_below HHO.out alB) ⟨w9.drew.heap.size, 0, none⟩ 1 1 [.slice a1 n1 b1, .slice a3 n3 b3] rfl (fun j u hu => by
                  have := BE.cell j
                  rw [Addr.add_lit, Nat.zero_add, this]
                  simpa using hu) (fun u hu => by
                  simp only [List.mem_cons, List.not_mem_nil, or_false] at hu
                  rcases hu with rfl | rfl <;> rfl) (by unfold maxLen; omega) (by omega) (by
                  have h1 := (Array.getElem?_eq_some_iff.1 HHS.out).1
                  have h2 := alB.size
                  omega)
                have HRUN : Hid _ := s1
                have hbB : Below w.heap.size w (w9.drew.alloc (Obj.cells #[.slice a1 n1 b1, .slice a3 n3 b3] 60)) := hbA.trans (alB.mono hbA.size)
                have hb7 : Below w.heap.size w W7 := hbB.grown s3 hbB.size (fun q hq => by have := (own_lt HHO.out hq).1; omega)
                have kp7 : Kp (fun q => (Value.slice oa k oc).ownBlock = some q) (w9.drew.alloc (Obj.cells #[.slice a1 n1 b1, .slice a3 n3 b3] 60)) W7 := (Kp.refl _ _).grown s3 (fun q hq _ => hq)
                have HH77 : Hid (Blk W7 (b6 + 1) #[.int .i64 xe, .slice (some ⟨gu, offu, none⟩) Ta tc2] 33) := (HH7.out.below alB).kp kp7 (own_ne (own_below HHO.out alB) (HH7.out.below alB) (by decide))
                have HHS7 : Hid (Blk W7 w.heap.size #[.slice (some ⟨g, off, none⟩) N ca, .slice (some ⟨g2, off2, none⟩) N cb] 60) := (HHS.out.below alB).kp kp7 (fun hq => by have := (own_lt HHO.out hq).1; omega)
                have HB97 : Hid (Blk W7 b9 #[.int .i64 tk, .int .i64 tn, .string ts, .slice a1 n1 b1, .slice a2 n2 b2] 25) := (HB9.out.below alB).kp kp7 (own_ne (own_below HHO.out alB) (HB9.out.below alB) (by decide))
                have hS7 : W7.cell? ⟨b9, 3, none⟩ = some (.slice a1 n1 b1) ∧ W7.cell? ⟨b6 + 1, 1, none⟩ = some (.slice (some ⟨gu, offu, none⟩) Ta tc2) ∧ W7.cell? ⟨gu, offu + j * 5 + 3, none⟩ = some (.slice a3 n3 b3) := ⟨(HB97.out.cell 3).trans rfl, (HH77.out.cell 1).trans rfl, HUW.out W7 hb7⟩
                obtain ⟨na, nc, hv'⟩ := own_form s2
                subst hv'
                have HO7 : Hid (W7.ownsRow (w.heap.size + 1) 60 2 (.slice na (k + 1) nc) (k + 1) (rowsOf (itsE dd w (.slice (some ⟨g, off, none⟩) N ca) (.slice (some ⟨g2, off2, none⟩) N cb) ea eb i ++ itsT dd w (.slice (some ⟨gt, offt, none⟩) Ta tc) (.slice (some ⟨gu, offu, none⟩) Ta tc2) e.2 f.2 (j + 1)))) := by
                  show World.ownsRow _ _ _ _ _ _ _
                  rw [itsT_succ, HI.out, if_neg (by omega), ← List.append_assoc, rowsOf_append]
                  exact s2
                have hSB : (w9.drew.alloc (Obj.cells #[.slice a1 n1 b1, .slice a3 n3 b3] 60)).cell? ⟨b9, 3, none⟩ = some (.slice a1 n1 b1) ∧ (w9.drew.alloc (Obj.cells #[.slice a1 n1 b1, .slice a3 n3 b3] 60)).cell? ⟨b6 + 1, 1, none⟩ = some (.slice (some ⟨gu, offu, none⟩) Ta tc2) ∧ (w9.drew.alloc (Obj.cells #[.slice a1 n1 b1, .slice a3 n3 b3] 60)).cell? ⟨gu, offu + j * 5 + 3, none⟩ = some (.slice a3 n3 b3) := ⟨H9.out _ alB, H7.out _ alB, HU3.out _ alB⟩
                clear s1 s2 s3 s5 BE hi0 hz0 hz1 hz2 kp7 hbB hk
                refine rg_run 10 58 (.slice (some ⟨w9.drew.heap.size, 0, none⟩) 1 1) (w9.drew.alloc (Obj.cells #[.slice a1 n1 b1, .slice a3 n3 b3] 60)) rfl rfl (by kernel_rfl) (by rfl) (listed' := #[true, true, true, true, true, true, true, true, true, true, true, false, false]) (by kernel_rfl) (by go_simp) hSB ?_
                simp only [List.setIfInBounds_toArray, List.set_cons_zero, List.set_cons_succ]
                refine rg_run 11 59 (.slice na (k + 1) nc) (W7) rfl rfl (by kernel_rfl) (by rfl) (listed' := #[true, true, true, true, true, true, true, true, true, true, true, true, false]) (by kernel_rfl) (append_run rfl rfl rfl HRUN.out) hS7 ?_
                simp only [List.setIfInBounds_toArray, List.set_cons_zero, List.set_cons_succ]
                have hS := hS7
                refine rg_take 12 4 (.slice na (k + 1) nc) _ rfl rfl (by kernel_rfl) (by kernel_rfl) (by kernel_rfl) (fun _ _ _ h => h) (by rfl) (fun w' hw' => ?_) hS (listed' := #[true, true, true, true, true, true, true, true, true, true, true, true, true]) (by kernel_rfl) rfl ?_
                · go_simp
                simp only [List.setIfInBounds_toArray, List.set_cons_zero, List.set_cons_succ]
                refine wpAnyH_done (by kernel_rfl) ?_ _
                clear HRUN hSB hS7 hS H9 H7 HU3 HUW HB9 HB97 HH7 HHS HHO alB hbA
                go_wp2_with fail
                go_roundw
                case rel => exact ⟨j + 1, k + 1, na, nc, by go_num, rfl, by omega, HO7, HHS7, HH77, hb7⟩
                case measure => simp [intOf]; omega
            · have HO4 : Hid (wr.ownsRow (w.heap.size + 1) 60 2 (.slice oa k oc) k (rowsOf (itsE dd w (.slice (some ⟨g, off, none⟩) N ca) (.slice (some ⟨g2, off2, none⟩) N cb) ea eb (i + 1)))) := by
                show World.ownsRow _ _ _ _ _ _ _
                have h1 := HO.out
                rw [show j = Ta from by omega] at h1
                rw [itsE_succ, itE_of HE.out HF.out, HCE.out.1, HCE.out.2, HTa.out.1]
                exact h1
              clear HO
              go_wp2_with fail
              go_roundw
              case rel => exact ⟨i + 1, k, oa, oc, by go_num, rfl, by omega, HJ2, HO4, HBS, hbel⟩
              case measure => simp [intOf]; omega
        | false =>
          have hne : ¬ OkC ea eb := fun h => by
            have := HR.out.2 (h i e f HE.out HF.out).2
            cases this
          have hpost := HQ.out (.returned (.tuple #[.slice none 0 0, .bool false])) w1 hbw (.inr ⟨hne, rfl⟩)
          clear HO1
          go_wp2_with fail
          go_ret2
          exact hpost
      · have hne : ¬ OkC ea eb := fun h => hx (by
          have := (h i e f HE.out HF.out).1
          rwa [HTa.out.2.2.1, HTa.out.2.2.2] at this)
        have hd : (xe != xf) = true := by simpa using hx
        have hpost := HQ.out (.returned (.tuple #[.slice none 0 0, .bool false])) _ hb2 (.inr ⟨hne, rfl⟩)
        go_wp2_with fail
        go_ret2
        exact hpost
    · have hok : OkC ea eb := fun j e f h1 h2 => HJ.out j e f (by have := (List.getElem?_eq_some_iff.1 h1).1; have := HL.out.1; omega) h1 h2
      have hrow : RowG wr (.slice oa k oc) 2 ((itsE dd w (.slice pa N ca) (.slice pb N cb) ea eb N).map It.row) := by
        have h1 := HO.out
        rw [show i = N from by omega] at h1
        exact (RowG.own (fun r hr => by obtain ⟨x, _, rfl⟩ := List.mem_map.1 hr; rfl) (by decide) h1).1
      have hpost := HQ.out (.returned (.tuple #[.slice oa k oc, .bool true])) wr hbel (.inl ⟨hok, _, rfl, hrow⟩)
      clear hrow
      go_wp2_with fail
      go_ret2
      exact hpost
end Go.Proofs.Ytgedelgdjcnogab
