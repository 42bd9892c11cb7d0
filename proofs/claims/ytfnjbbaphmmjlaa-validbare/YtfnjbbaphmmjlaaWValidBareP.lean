/- ValidBare answers true at every schema, name and tree. -/
import Derived.Test.YtfnjbbaphmmjlaaPkJ
import Derived.Test.YtfnjbbaphmmjlaaPkN
import Derived.Test.YtfnjbbaphmmjlaaPkO
import Derived.Test.YtfnjbbaphmmjlaaPkG
import Derived.Test.YtfnjbbaphmmjlaaPkP
import Derived.Test.YtfnjbbaphmmjlaaPkQ
import Derived.Test.YtfnjbbaphmmjlaaPkS
import Derived.Test.YtfnjbbaphmmjlaaPkT
import Derived.Test.YtfnjbbaphmmjlaaPkD
import Derived.Deep.Cut
import Derived.Deep.CutRange
namespace Go.Proofs.Ytfnjbbaphmmjlaa
open Go.ChangeShapes Go.WideShapes Go.ChangeAt Go.RowKit
set_option linter.unusedVariables false
set_option linter.unusedSimpArgs false
set_option maxRecDepth 20000

theorem mtr_len3b (ms : List MtS) : ∀ r ∈ mtRows ms, r.length = 3 := fun r hr => by
  simp only [mtRows, List.mem_map] at hr
  obtain ⟨_, _, rfl⟩ := hr
  rfl
theorem schemaB_any {w : World} {v : Value} {s : ScS} (hr : ScIn w v s) (hf : FewL s) : Calls Try.prog 12 #[v] w fun e w' => ∃ r, e = .returned r ∧ ScIn w' r s ∧ Below w.heap.size w w' :=
  (schema_any hr hf).mono fun e w' ⟨vm, ve, vt, pm, pe, h1, h2, h3, h4, h5⟩ => ⟨_, h1, ⟨vm, ve, vt, rfl, h2.to_in, h3.to_in, (RowG.own (mtr_len3b _) (by decide) h4).1⟩, h5⟩
theorem TrW.trIn {n : Nat} {w : World} {v : Value} {t : Tr} (h : TrW n w v t) : TrIn n w v t := by
  obtain ⟨r, h1, h2⟩ := h
  exact ⟨r, h1, h2.trQ.trC⟩
set_option maxHeartbeats 8000000 in
theorem validBare_walk (v : Value) (s : ScS) (nm : ByteArray) (tv : Value) (n : Nat) (t : Tr) (w : World) (hr : ScIn w v s) (hw : ScW s) (hnm : nm.size ≤ 140737488351232) (h : TrIn n w tv t) :
    Calls Try.prog 3 #[v, .string nm, tv] w fun e w' => e = .returned (.bool true) ∧ Below w.heap.size w w' := by
  have HS : Hid (∀ W, Below w.heap.size w W → Calls Try.prog 6 #[tv] W fun e w' => SmallP t tv W e ∧ Below W.heap.size W w') := fun W hW => small_any n t tv W (h.below hW)
  obtain ⟨m, ve0, vr0, -, rfl, -, -, -, -, ra, ea0⟩ := h.open
  obtain ⟨pe, ce, rfl, e1, e2, -⟩ := ea0.open
  obtain ⟨pr, cr, rfl, e3, e4, -⟩ := rest_holds ra
  clear ea0 ra h
  have hs' := hr
  obtain ⟨vm, ve, vt, rfl, hms, hen, hmt⟩ := hr
  obtain ⟨ma, mc, rfl, -⟩ := hms.open
  obtain ⟨ea, ec, rfl, -⟩ := hen.open
  obtain ⟨ta, tn, tc, rfl⟩ := row_slice hmt
  obtain ⟨mn, hmn⟩ : ∃ z, s.msgs.length = z := ⟨_, rfl⟩
  obtain ⟨en, hen'⟩ : ∃ z, s.enums.length = z := ⟨_, rfl⟩
  obtain ⟨sn, hsn⟩ : ∃ z, s.name = z := ⟨_, rfl⟩
  rw [hmn, hen', hsn] at hs' ⊢
  obtain ⟨Ke, hKe⟩ : ∃ z, t.es.length = z := ⟨_, rfl⟩
  obtain ⟨Kr, hKr⟩ : ∃ z, t.rest.length = z := ⟨_, rfl⟩
  obtain ⟨K, hK⟩ : ∃ z, t.kind = z := ⟨_, rfl⟩
  obtain ⟨N, hN⟩ : ∃ z, t.n = z := ⟨_, rfl⟩
  obtain ⟨S, hS⟩ : ∃ z, t.s = z := ⟨_, rfl⟩
  have HK : Hid (t.es.length = Ke ∧ t.rest.length = Kr ∧ t.kind = K ∧ t.n = N ∧ t.s = S) := ⟨hKe, hKr, hK, hN, hS⟩
  rw [hKe, hKr, hK, hN, hS] at HS ⊢
  have HSC : Hid (ScIn w (.agg #[.string sn, .slice ma mn mc, .slice ea en ec, .slice ta tn tc]) s) := hs'
  have HSW : Hid (ScW s) := hw
  have al1 : Below w.heap.size w (w.alloc (Obj.cells #[.string sn, .slice ma mn mc, .slice ea en ec, .slice ta tn tc] 26)) := (Below.refl _ _).alloc (Nat.le_refl _) _
  have al : Below w.heap.size w ((w.alloc (Obj.cells #[.string sn, .slice ma mn mc, .slice ea en ec, .slice ta tn tc] 26)).alloc (Obj.cells #[.int .i64 K, .int .i64 N, .string S, .slice pe Ke ce, .slice pr Kr cr] 30)) := al1.alloc (by simp) _
  have BS : Blk ((w.alloc (Obj.cells #[.string sn, .slice ma mn mc, .slice ea en ec, .slice ta tn tc] 26)).alloc (Obj.cells #[.int .i64 K, .int .i64 N, .string S, .slice pe Ke ce, .slice pr Kr cr] 30)) w.heap.size #[.string sn, .slice ma mn mc, .slice ea en ec, .slice ta tn tc] 26 := (Blk.new w _ _).below ((Below.refl _ _).alloc (Nat.le_refl _) _)
  have BT : Blk ((w.alloc (Obj.cells #[.string sn, .slice ma mn mc, .slice ea en ec, .slice ta tn tc] 26)).alloc (Obj.cells #[.int .i64 K, .int .i64 N, .string S, .slice pe Ke ce, .slice pr Kr cr] 30)) (w.heap.size + 1) #[.int .i64 K, .int .i64 N, .string S, .slice pe Ke ce, .slice pr Kr cr] 30 := by
    have := Blk.new (w.alloc (Obj.cells #[.string sn, .slice ma mn mc, .slice ea en ec, .slice ta tn tc] 26)) #[.int .i64 K, .int .i64 N, .string S, .slice pe Ke ce, .slice pr Kr cr] 30
    rwa [show (w.alloc (Obj.cells #[.string sn, .slice ma mn mc, .slice ea en ec, .slice ta tn tc] 26)).heap.size = w.heap.size + 1 from by simp] at this
  have HFW : Hid (Calls Try.prog 5 #[.agg #[.string sn, .slice ma mn mc, .slice ea en ec, .slice ta tn tc]] ((w.alloc (Obj.cells #[.string sn, .slice ma mn mc, .slice ea en ec, .slice ta tn tc] 26)).alloc (Obj.cells #[.int .i64 K, .int .i64 N, .string S, .slice pe Ke ce, .slice pr Kr cr] 30)) fun e w' => FewP s e ∧ Below ((w.alloc (Obj.cells #[.string sn, .slice ma mn mc, .slice ea en ec, .slice ta tn tc] 26)).alloc (Obj.cells #[.int .i64 K, .int .i64 N, .string S, .slice pe Ke ce, .slice pr Kr cr] 30)).heap.size ((w.alloc (Obj.cells #[.string sn, .slice ma mn mc, .slice ea en ec, .slice ta tn tc] 26)).alloc (Obj.cells #[.int .i64 K, .int .i64 N, .string S, .slice pe Ke ce, .slice pr Kr cr] 30)) w') := few_any (hs'.below al) hw
  clear hs' hms hen hmt hmn hen' hsn hw hKe hKr hK hN hS hnm al1 e1 e2 e3 e4
  go_enter Try.func3, Try.ntmps3
  go_wp2_with fail
  refine HFW.out.mono ?_
  rintro e w3 ⟨hfw, hb3⟩
  have hbw3 : Below w.heap.size w w3 := al.trans (hb3.mono al.size)
  have BS3 := BS.below hb3
  have BT3 := BT.below hb3
  clear hb3 al BS BT HFW
  obtain ⟨b0, hb0⟩ : ∃ z, w.heap.size = z := ⟨_, rfl⟩
  have HBZ : Hid (w.heap.size = b0) := hb0
  rw [hb0] at BS3 BT3
  simp only [hb0]
  clear hb0
  rcases hfw with rfl | ⟨rfl, hfs⟩
  · clear BS3 BT3 HS
    go_wp2_with fail
    refine (awake_any _).mono ?_
    rintro e wz ⟨rfl, hbz⟩
    have hbwz : Below w.heap.size w wz := hbw3.trans (hbz.mono hbw3.size)
    clear hbz
    go_wp2_with fail
    go_ret
    exact ⟨rfl, hbwz⟩
  have HFS : Hid (FewS s) := hfs
  clear hfs
  have t0 := (BT3.cell 0).trans rfl
  have t1 := (BT3.cell 1).trans rfl
  have t2 := (BT3.cell 2).trans rfl
  have t3 := (BT3.cell 3).trans rfl
  have t4 := (BT3.cell 4).trans rfl
  go_wp2_with fail
  refine (HS.out _ hbw3).mono ?_
  rintro e w4 ⟨⟨R, rfl, hR⟩, hb4⟩
  have hbw4 : Below w.heap.size w w4 := hbw3.trans (hb4.mono hbw3.size)
  have BS4 := BS3.below hb4
  have BT4 := BT3.below hb4
  have HRR : Hid (R = true → SmN 14 t ∧ cntN 14 t ≤ 200 ∧ TrIn 14 w4 (.agg #[.int .i64 K, .int .i64 N, .string S, .slice pe Ke ce, .slice pr Kr cr]) t) := fun hr => ⟨(hR hr).1, (hR hr).2.1, (hR hr).2.2.below hb4⟩
  clear hR hb4 HS BS3 BT3 hbw3 t0 t1 t2 t3 t4
  cases R with
  | false =>
    clear BS4 BT4
    go_wp2_with fail
    refine (awake_any _).mono ?_
    rintro e wz ⟨rfl, hbz⟩
    have hbwz : Below w.heap.size w wz := hbw4.trans (hbz.mono hbw4.size)
    clear hbz
    go_wp2_with fail
    go_ret
    exact ⟨rfl, hbwz⟩
  | true =>
    obtain ⟨hsm, hcn, hin⟩ := HRR.out rfl
    have HSM : Hid (SmN 14 t ∧ cntN 14 t ≤ 200) := ⟨hsm, hcn⟩
    have HIN : Hid (TrIn 14 w4 (.agg #[.int .i64 K, .int .i64 N, .string S, .slice pe Ke ce, .slice pr Kr cr]) t) := hin
    have HCP : Hid (∀ W, Below w4.heap.size w4 W → Calls Try.prog 9 #[.agg #[.int .i64 K, .int .i64 N, .string S, .slice pe Ke ce, .slice pr Kr cr]] W (CopyP 14 t W)) := fun W hW => copy_any 14 t _ W (HIN.out.below hW) HSM.out.1
    have hCP0 : Hid (Calls Try.prog 9 #[.agg #[.int .i64 K, .int .i64 N, .string S, .slice pe Ke ce, .slice pr Kr cr]] w4 (CopyP 14 t w4)) := copy_any 14 t _ w4 hin hsm
    clear hsm hcn hin HRR
    have t0 := (BT4.cell 0).trans rfl
    have t1 := (BT4.cell 1).trans rfl
    have t2 := (BT4.cell 2).trans rfl
    have t3 := (BT4.cell 3).trans rfl
    have t4 := (BT4.cell 4).trans rfl
    go_wp2_with fail
    refine Calls.mono hCP0.out ?_
    rintro e w5 ⟨tv5, bs5, rfl, htv5, hb5⟩
    have HBA : Hid (Calls Try.prog 8 #[tv5] w5 fun e w' => ∃ r, e = .returned r ∧ TrW 14 w' r (cutT true 14 t) ∧ Below w5.heap.size w5 w') := bare_any htv5.trW HSM.out.1 (by have := HSM.out.2; omega)
    clear htv5 t0 t1 t2 t3 t4 hCP0
    go_wp2_with fail
    refine Calls.mono HBA.out ?_
    rintro e w6 ⟨r6, rfl, htr6, hb6⟩
    obtain ⟨m6, x1, x3, x4, x6, -, hr6, -⟩ := htr6.open
    have hk6 : (cutT true 14 t).kind = K ∧ (cutT true 14 t).n = N ∧ (cutT true 14 t).s = S ∧ (cutT true 14 t).es.length = Ke ∧ (cutT true 14 t).rest.length = 0 := by
      obtain ⟨g1, g2, g3, g4, g5⟩ := HK.out
      exact ⟨g3, g4, g5, by simp only [cutT, List.length_map]; exact g1, rfl⟩
    obtain ⟨q1, q2, q3, q4, q5⟩ := hk6
    rw [q1, q2, q3, q4, q5] at hr6
    subst hr6
    have hb46 : Below w4.heap.size w4 w6 := hb5.trans (hb6.mono hb5.size)
    have al7 : Below w6.heap.size w6 (w6.alloc (Obj.cells #[.int .i64 K, .int .i64 N, .string S, .slice x1 Ke x3, .slice x4 0 x6] 30)) := (Below.refl _ _).alloc (Nat.le_refl _) _
    have hb47 : Below w4.heap.size w4 (w6.alloc (Obj.cells #[.int .i64 K, .int .i64 N, .string S, .slice x1 Ke x3, .slice x4 0 x6] 30)) := hb46.trans (al7.mono hb46.size)
    have B7 : Blk (w6.alloc (Obj.cells #[.int .i64 K, .int .i64 N, .string S, .slice x1 Ke x3, .slice x4 0 x6] 30)) w6.heap.size #[.int .i64 K, .int .i64 N, .string S, .slice x1 Ke x3, .slice x4 0 x6] 30 := Blk.new w6 _ _
    have HT7 : Hid (TrW 14 (w6.alloc (Obj.cells #[.int .i64 K, .int .i64 N, .string S, .slice x1 Ke x3, .slice x4 0 x6] 30)) (.agg #[.int .i64 K, .int .i64 N, .string S, .slice x1 Ke x3, .slice x4 0 x6]) (cutT true 14 t)) := htr6.cel (Cel.ofBelow al7)
    have BS7 := BS4.below hb47
    have BT7 := BT4.below hb47
    have hbw7 : Below w.heap.size w (w6.alloc (Obj.cells #[.int .i64 K, .int .i64 N, .string S, .slice x1 Ke x3, .slice x4 0 x6] 30)) := hbw4.trans (hb47.mono hbw4.size)
    have HCP7 : Hid (∀ W, Below (w6.alloc (Obj.cells #[.int .i64 K, .int .i64 N, .string S, .slice x1 Ke x3, .slice x4 0 x6] 30)).heap.size (w6.alloc (Obj.cells #[.int .i64 K, .int .i64 N, .string S, .slice x1 Ke x3, .slice x4 0 x6] 30)) W → Calls Try.prog 9 #[.agg #[.int .i64 K, .int .i64 N, .string S, .slice pe Ke ce, .slice pr Kr cr]] W (CopyP 14 t W)) := fun W hW => HCP.out W (hb47.trans (hW.mono hb47.size))
    clear htr6 hb5 hb6 hb46 al7 HBA HCP HIN hb47 BS4 BT4 q1 q2 q3 q4 q5 hbw4
    go_upto_region 4 with fail
    generalize (w6.alloc (Obj.cells #[.int .i64 K, .int .i64 N, .string S, .slice x1 Ke x3, .slice x4 0 x6] 30)) = W7 at *
    obtain ⟨b7, hb7⟩ : ∃ z, w6.heap.size = z := ⟨_, rfl⟩
    rw [hb7] at B7
    simp only [hb7]
    clear hb7
    have HCB : Hid (∀ W, Below W7.heap.size W7 W → Calls Try.prog 9 #[.agg #[.int .i64 K, .int .i64 N, .string S, .slice x1 Ke x3, .slice x4 0 x6]] W (CopyP 14 (cutT true 14 t) W)) := fun W hW => copy_any 14 _ _ W (HT7.out.cel (Cel.ofBelow hW)).trIn (cutT_sm HSM.out.1)
    have hS : Below W7.heap.size W7 W7.drew := (Below.refl _ _).drew
    refine wp_region_held_drew (S := fun w' => Below W7.heap.size W7 w') (by kernel_rfl) hS (fun hS => ?_)
    refine rg_take 0 21 (.agg #[.int .i64 K, .int .i64 N, .string S, .slice x1 Ke x3, .slice x4 0 x6]) _ rfl rfl (by kernel_rfl) (by kernel_rfl) (by kernel_rfl) (fun _ _ _ h => h) (by rfl) (fun w' hw' => ?_) hS (listed' := #[true, false, false, false, false, false]) (by kernel_rfl) rfl ?_
    · have f0 := (B7.below hw').cell 0; have f1 := (B7.below hw').cell 1; have f2 := (B7.below hw').cell 2; have f3 := (B7.below hw').cell 3; have f4 := (B7.below hw').cell 4; go_simp
    simp only [List.setIfInBounds_toArray, List.set_cons_zero, List.set_cons_succ]
    refine rg_take 3 24 (.agg #[.int .i64 K, .int .i64 N, .string S, .slice x1 Ke x3, .slice x4 0 x6]) _ rfl rfl (by kernel_rfl) (by kernel_rfl) (by kernel_rfl) (fun _ _ _ h => h) (by rfl) (fun w' hw' => ?_) hS (listed' := #[true, false, false, true, false, false]) (by kernel_rfl) rfl ?_
    · have f0 := (B7.below hw').cell 0; have f1 := (B7.below hw').cell 1; have f2 := (B7.below hw').cell 2; have f3 := (B7.below hw').cell 3; have f4 := (B7.below hw').cell 4; go_simp
    simp only [List.setIfInBounds_toArray, List.set_cons_zero, List.set_cons_succ]
    refine rg_call 1 22 9 #[.agg #[.int .i64 K, .int .i64 N, .string S, .slice x1 Ke x3, .slice x4 0 x6]] rfl rfl (by kernel_rfl) (by rfl) (listed' := #[true, true, false, true, false, false]) (by kernel_rfl) (fun W => by go_simp) ?_
    refine Calls.mono (HCB.out _ hS) ?_
    rintro ee W8 ⟨va, bs8, rfl, hva, hbW8⟩
    have HVA8 : Hid (TrW 14 W8 va (cutT true 14 t)) := hva.trW
    clear hva
    have hS0 := hS
    have hS : Below W7.heap.size W7 W8 := hS0.trans (hbW8.mono hS0.size)
    clear hS0 hbW8
    refine ⟨_, rfl, hS, ?_⟩
    simp only [List.setIfInBounds_toArray, List.set_cons_zero, List.set_cons_succ]
    refine rg_call 2 23 8 #[va] rfl rfl (by kernel_rfl) (by rfl) (listed' := #[true, true, true, true, false, false]) (by kernel_rfl) (fun W => by go_simp) ?_
    refine Calls.mono (bare_any HVA8.out (cutT_sm HSM.out.1) (by rw [cutT_cnt]; have := HSM.out.2; omega)) ?_
    rintro ee W9 ⟨vb, rfl, hvb, hbW9⟩
    rw [cutT_twice] at hvb
    have HVB9 : Hid (TrW 14 W9 vb (cutT true 14 t)) := hvb
    clear hvb
    have hS0 := hS
    have hS : Below W7.heap.size W7 W9 := hS0.trans (hbW9.mono hS0.size)
    clear hS0 hbW9
    refine ⟨_, rfl, hS, ?_⟩
    simp only [List.setIfInBounds_toArray, List.set_cons_zero, List.set_cons_succ]
    refine rg_call 4 25 10 #[vb, .agg #[.int .i64 K, .int .i64 N, .string S, .slice x1 Ke x3, .slice x4 0 x6]] rfl rfl (by kernel_rfl) (by rfl) (listed' := #[true, true, true, true, true, false]) (by kernel_rfl) (fun W => by go_simp) ?_
    refine Calls.mono (rsame_any 14 14 _ _ _ _ W9 HVB9.out.trIn (HT7.out.cel (Cel.ofBelow hS)).trIn) ?_
    rintro ee W10 ⟨⟨RS, rfl, hRS⟩, hbW10⟩
    obtain rfl : RS = true := hRS.2 rfl
    clear hRS
    have hS0 := hS
    have hS : Below W7.heap.size W7 W10 := hS0.trans (hbW10.mono hS0.size)
    clear hS0 hbW10
    refine ⟨_, rfl, hS, ?_⟩
    simp only [List.setIfInBounds_toArray, List.set_cons_zero, List.set_cons_succ]
    refine rg_take 5 26 (.bool false) _ rfl rfl (by kernel_rfl) (by kernel_rfl) (by kernel_rfl) (fun _ _ _ h => h) (by rfl) (fun w' hw' => ?_) hS (listed' := #[true, true, true, true, true, true]) (by kernel_rfl) rfl ?_
    · go_simp
    simp only [List.setIfInBounds_toArray, List.set_cons_zero, List.set_cons_succ]
    refine wpAnyH_done (by kernel_rfl) ?_ _
    obtain ⟨X, hX⟩ : ∃ z, validA 14 s nm t = z := ⟨_, rfl⟩
    have HX : Hid (validA 14 s nm t = X) := hX
    clear hX HVA8 HVB9
    have hbw10 : Below w.heap.size w W10 := hbw7.trans (hS.mono hbw7.size)
    have B10 := B7.below hS
    have BS10 := BS7.below hS
    have BT10 := BT7.below hS
    have HT10 : Hid (TrW 14 W10 (.agg #[.int .i64 K, .int .i64 N, .string S, .slice x1 Ke x3, .slice x4 0 x6]) (cutT true 14 t)) := HT7.out.cel (Cel.ofBelow hS)
    have HCP10 : Hid (∀ W, Below W10.heap.size W10 W → Calls Try.prog 9 #[.agg #[.int .i64 K, .int .i64 N, .string S, .slice pe Ke ce, .slice pr Kr cr]] W (CopyP 14 t W)) := fun W hW => HCP7.out W (hS.trans (hW.mono hS.size))
    have HCS : Hid (∀ W, Below W10.heap.size W10 W → Calls Try.prog 12 #[.agg #[.string sn, .slice ma mn mc, .slice ea en ec, .slice ta tn tc]] W fun e w' => ∃ r, e = .returned r ∧ ScIn w' r s ∧ Below W.heap.size W w') := fun W hW => schemaB_any (HSC.out.below (hbw10.trans (hW.mono hbw10.size))) HFS.out.few
    have HVL : Hid (∀ W vs va (u : Tr) (Y : Int), ScIn W vs s → TrW 14 W va u → cntN 14 u ≤ 1000 → SmN 14 u → validA 14 s nm u = Y → Calls Try.prog 11 #[vs, .string nm, va] W fun e w' => e = .returned (.int .i64 Y) ∧ Below W.heap.size W w') := fun W vs va u Y h1 h2 h3 h4 h5 => by
      have h6 := fits_any (nm := nm) h1 HSW.out HFS.out.few h2 (by decide) h3 h4
      rw [h5] at h6
      exact h6
    clear hS B7 BS7 BT7 HT7 HCB HCP7 hbw7
    go_upto_region 6 with fail
    have hS : Below W10.heap.size W10 W10.drew := (Below.refl _ _).drew
    by_cases hX0 : X = 0
    rotate_left
    · have dX : (X != 0) = true := by simpa using hX0
      clear hX0
      refine wp_region_held_drew (S := fun w' => Below W10.heap.size W10 w') (by kernel_rfl) hS (fun hS => ?_)
      refine rg_take 0 27 (.agg #[.string sn, .slice ma mn mc, .slice ea en ec, .slice ta tn tc]) _ rfl rfl (by kernel_rfl) (by kernel_rfl) (by kernel_rfl) (fun _ _ _ h => h) (by rfl) (fun w' hw' => ?_) hS (listed' := #[true, false, false, false, false, false, false]) (by kernel_rfl) rfl ?_
      · have f0 := (BS10.below hw').cell 0; have f1 := (BS10.below hw').cell 1; have f2 := (BS10.below hw').cell 2; have f3 := (BS10.below hw').cell 3; go_simp
      simp only [List.setIfInBounds_toArray, List.set_cons_zero, List.set_cons_succ]
      refine rg_take 2 29 (.string nm) _ rfl rfl (by kernel_rfl) (by kernel_rfl) (by kernel_rfl) (fun _ _ _ h => h) (by rfl) (fun w' hw' => ?_) hS (listed' := #[true, false, true, false, false, false, false]) (by kernel_rfl) rfl ?_
      · go_simp
      simp only [List.setIfInBounds_toArray, List.set_cons_zero, List.set_cons_succ]
      refine rg_take 3 30 (.agg #[.int .i64 K, .int .i64 N, .string S, .slice pe Ke ce, .slice pr Kr cr]) _ rfl rfl (by kernel_rfl) (by kernel_rfl) (by kernel_rfl) (fun _ _ _ h => h) (by rfl) (fun w' hw' => ?_) hS (listed' := #[true, false, true, true, false, false, false]) (by kernel_rfl) rfl ?_
      · have f0 := (BT10.below hw').cell 0; have f1 := (BT10.below hw').cell 1; have f2 := (BT10.below hw').cell 2; have f3 := (BT10.below hw').cell 3; have f4 := (BT10.below hw').cell 4; go_simp
      simp only [List.setIfInBounds_toArray, List.set_cons_zero, List.set_cons_succ]
      refine rg_call 1 28 12 #[.agg #[.string sn, .slice ma mn mc, .slice ea en ec, .slice ta tn tc]] rfl rfl (by kernel_rfl) (by rfl) (listed' := #[true, true, true, true, false, false, false]) (by kernel_rfl) (fun W => by go_simp) ?_
      refine (HCS.out _ hS).mono ?_
      rintro ee W11 ⟨vs, rfl, hvs, hbW11⟩
      have HVS11 : Hid (ScIn W11 vs s) := hvs
      clear hvs
      have hS0 := hS
      have hS : Below W10.heap.size W10 W11 := hS0.trans (hbW11.mono hS0.size)
      clear hS0 hbW11
      refine ⟨_, rfl, hS, ?_⟩
      simp only [List.setIfInBounds_toArray, List.set_cons_zero, List.set_cons_succ]
      refine rg_call 4 31 9 #[.agg #[.int .i64 K, .int .i64 N, .string S, .slice pe Ke ce, .slice pr Kr cr]] rfl rfl (by kernel_rfl) (by rfl) (listed' := #[true, true, true, true, true, false, false]) (by kernel_rfl) (fun W => by go_simp) ?_
      refine Calls.mono (HCP10.out _ hS) ?_
      rintro ee W12 ⟨va, bs12, rfl, hva, hbW12⟩
      have HVA12 : Hid (TrW 14 W12 va t) := hva.trW
      have HVS12 : Hid (ScIn W12 vs s) := HVS11.out.below hbW12
      clear hva
      have hS0 := hS
      have hS : Below W10.heap.size W10 W12 := hS0.trans (hbW12.mono hS0.size)
      clear hS0 hbW12
      refine ⟨_, rfl, hS, ?_⟩
      simp only [List.setIfInBounds_toArray, List.set_cons_zero, List.set_cons_succ]
      refine rg_call 5 32 11 #[vs, .string nm, va] rfl rfl (by kernel_rfl) (by rfl) (listed' := #[true, true, true, true, true, true, false]) (by kernel_rfl) (fun W => by go_simp) ?_
      refine (HVL.out W12 vs va t X HVS12.out HVA12.out (by have := HSM.out.2; omega) HSM.out.1 HX.out).mono ?_
      rintro ee W13 ⟨rfl, hbW13⟩
      have hS0 := hS
      have hS : Below W10.heap.size W10 W13 := hS0.trans (hbW13.mono hS0.size)
      clear hS0 hbW13
      refine ⟨_, rfl, hS, ?_⟩
      simp only [List.setIfInBounds_toArray, List.set_cons_zero, List.set_cons_succ]
      refine rg_take 6 33 (.bool true) _ rfl rfl (by kernel_rfl) (by kernel_rfl) (by kernel_rfl) (fun _ _ _ h => h) (by rfl) (fun w' hw' => ?_) hS (listed' := #[true, true, true, true, true, true, true]) (by kernel_rfl) rfl ?_
      · go_simp
      simp only [List.setIfInBounds_toArray, List.set_cons_zero, List.set_cons_succ]
      refine wpAnyH_done (by kernel_rfl) ?_ _
      have hbw13 : Below w.heap.size w W13 := hbw10.trans (hS.mono hbw10.size)
      clear hS dX
      go_wp2_with fail
      refine (awake_any _).mono ?_
      rintro e wz ⟨rfl, hbz⟩
      have hbwz : Below w.heap.size w wz := hbw13.trans (hbz.mono hbw13.size)
      clear hbz
      go_wp2_with fail
      go_ret
      exact ⟨rfl, hbwz⟩
    · subst hX0
      have HY : Hid (validA 14 s nm (cutT true 14 t) = 0 ∨ validA 14 s nm (cutT true 14 t) = 12) := validA_cut HX.out
      refine wp_region_held_drew (S := fun w' => Below W10.heap.size W10 w') (by kernel_rfl) hS (fun hS => ?_)
      refine rg_take 0 27 (.agg #[.string sn, .slice ma mn mc, .slice ea en ec, .slice ta tn tc]) _ rfl rfl (by kernel_rfl) (by kernel_rfl) (by kernel_rfl) (fun _ _ _ h => h) (by rfl) (fun w' hw' => ?_) hS (listed' := #[true, false, false, false, false, false, false]) (by kernel_rfl) rfl ?_
      · have f0 := (BS10.below hw').cell 0; have f1 := (BS10.below hw').cell 1; have f2 := (BS10.below hw').cell 2; have f3 := (BS10.below hw').cell 3; go_simp
      simp only [List.setIfInBounds_toArray, List.set_cons_zero, List.set_cons_succ]
      refine rg_take 2 29 (.string nm) _ rfl rfl (by kernel_rfl) (by kernel_rfl) (by kernel_rfl) (fun _ _ _ h => h) (by rfl) (fun w' hw' => ?_) hS (listed' := #[true, false, true, false, false, false, false]) (by kernel_rfl) rfl ?_
      · go_simp
      simp only [List.setIfInBounds_toArray, List.set_cons_zero, List.set_cons_succ]
      refine rg_take 3 30 (.agg #[.int .i64 K, .int .i64 N, .string S, .slice pe Ke ce, .slice pr Kr cr]) _ rfl rfl (by kernel_rfl) (by kernel_rfl) (by kernel_rfl) (fun _ _ _ h => h) (by rfl) (fun w' hw' => ?_) hS (listed' := #[true, false, true, true, false, false, false]) (by kernel_rfl) rfl ?_
      · have f0 := (BT10.below hw').cell 0; have f1 := (BT10.below hw').cell 1; have f2 := (BT10.below hw').cell 2; have f3 := (BT10.below hw').cell 3; have f4 := (BT10.below hw').cell 4; go_simp
      simp only [List.setIfInBounds_toArray, List.set_cons_zero, List.set_cons_succ]
      refine rg_call 1 28 12 #[.agg #[.string sn, .slice ma mn mc, .slice ea en ec, .slice ta tn tc]] rfl rfl (by kernel_rfl) (by rfl) (listed' := #[true, true, true, true, false, false, false]) (by kernel_rfl) (fun W => by go_simp) ?_
      refine (HCS.out _ hS).mono ?_
      rintro ee W11 ⟨vs, rfl, hvs, hbW11⟩
      have HVS11 : Hid (ScIn W11 vs s) := hvs
      clear hvs
      have hS0 := hS
      have hS : Below W10.heap.size W10 W11 := hS0.trans (hbW11.mono hS0.size)
      clear hS0 hbW11
      refine ⟨_, rfl, hS, ?_⟩
      simp only [List.setIfInBounds_toArray, List.set_cons_zero, List.set_cons_succ]
      refine rg_call 4 31 9 #[.agg #[.int .i64 K, .int .i64 N, .string S, .slice pe Ke ce, .slice pr Kr cr]] rfl rfl (by kernel_rfl) (by rfl) (listed' := #[true, true, true, true, true, false, false]) (by kernel_rfl) (fun W => by go_simp) ?_
      refine Calls.mono (HCP10.out _ hS) ?_
      rintro ee W12 ⟨va, bs12, rfl, hva, hbW12⟩
      have HVA12 : Hid (TrW 14 W12 va t) := hva.trW
      have HVS12 : Hid (ScIn W12 vs s) := HVS11.out.below hbW12
      clear hva
      have hS0 := hS
      have hS : Below W10.heap.size W10 W12 := hS0.trans (hbW12.mono hS0.size)
      clear hS0 hbW12
      refine ⟨_, rfl, hS, ?_⟩
      simp only [List.setIfInBounds_toArray, List.set_cons_zero, List.set_cons_succ]
      refine rg_call 5 32 11 #[vs, .string nm, va] rfl rfl (by kernel_rfl) (by rfl) (listed' := #[true, true, true, true, true, true, false]) (by kernel_rfl) (fun W => by go_simp) ?_
      refine (HVL.out W12 vs va t 0 HVS12.out HVA12.out (by have := HSM.out.2; omega) HSM.out.1 HX.out).mono ?_
      rintro ee W13 ⟨rfl, hbW13⟩
      have hS0 := hS
      have hS : Below W10.heap.size W10 W13 := hS0.trans (hbW13.mono hS0.size)
      clear hS0 hbW13
      refine ⟨_, rfl, hS, ?_⟩
      simp only [List.setIfInBounds_toArray, List.set_cons_zero, List.set_cons_succ]
      refine rg_take 6 33 (.bool false) _ rfl rfl (by kernel_rfl) (by kernel_rfl) (by kernel_rfl) (fun _ _ _ h => h) (by rfl) (fun w' hw' => ?_) hS (listed' := #[true, true, true, true, true, true, true]) (by kernel_rfl) rfl ?_
      · go_simp
      simp only [List.setIfInBounds_toArray, List.set_cons_zero, List.set_cons_succ]
      refine wpAnyH_done (by kernel_rfl) ?_ _
      have hbw13 : Below w.heap.size w W13 := hbw10.trans (hS.mono hbw10.size)
      obtain ⟨Y, hY⟩ : ∃ z, validA 14 s nm (cutT true 14 t) = z := ⟨_, rfl⟩
      have HYY : Hid (validA 14 s nm (cutT true 14 t) = Y) := hY
      rw [hY] at HY
      clear hY
      have B13 := B10.below hS
      have BS13 := BS10.below hS
      have HT13 : Hid (TrW 14 W13 (.agg #[.int .i64 K, .int .i64 N, .string S, .slice x1 Ke x3, .slice x4 0 x6]) (cutT true 14 t)) := HT10.out.cel (Cel.ofBelow hS)
      have HCS13 : Hid (∀ W, Below W13.heap.size W13 W → Calls Try.prog 12 #[.agg #[.string sn, .slice ma mn mc, .slice ea en ec, .slice ta tn tc]] W fun e w' => ∃ r, e = .returned r ∧ ScIn w' r s ∧ Below W.heap.size W w') := fun W hW => HCS.out W (hS.trans (hW.mono hS.size))
      clear hS B10 BS10 BT10 HT10 HCP10 HCS hbw10 HVS11 HVS12 HVA12
      go_upto_region 8 with fail
      have hS : Below W13.heap.size W13 W13.drew := (Below.refl _ _).drew
      refine wp_region_held_drew (S := fun w' => Below W13.heap.size W13 w') (by kernel_rfl) hS (fun hS => ?_)
      refine rg_take 0 35 (.agg #[.string sn, .slice ma mn mc, .slice ea en ec, .slice ta tn tc]) _ rfl rfl (by kernel_rfl) (by kernel_rfl) (by kernel_rfl) (fun _ _ _ h => h) (by rfl) (fun w' hw' => ?_) hS (listed' := #[true, false, false, false, false, false]) (by kernel_rfl) rfl ?_
      · have f0 := (BS13.below hw').cell 0; have f1 := (BS13.below hw').cell 1; have f2 := (BS13.below hw').cell 2; have f3 := (BS13.below hw').cell 3; go_simp
      simp only [List.setIfInBounds_toArray, List.set_cons_zero, List.set_cons_succ]
      refine rg_take 2 37 (.string nm) _ rfl rfl (by kernel_rfl) (by kernel_rfl) (by kernel_rfl) (fun _ _ _ h => h) (by rfl) (fun w' hw' => ?_) hS (listed' := #[true, false, true, false, false, false]) (by kernel_rfl) rfl ?_
      · go_simp
      simp only [List.setIfInBounds_toArray, List.set_cons_zero, List.set_cons_succ]
      refine rg_take 3 38 (.agg #[.int .i64 K, .int .i64 N, .string S, .slice x1 Ke x3, .slice x4 0 x6]) _ rfl rfl (by kernel_rfl) (by kernel_rfl) (by kernel_rfl) (fun _ _ _ h => h) (by rfl) (fun w' hw' => ?_) hS (listed' := #[true, false, true, true, false, false]) (by kernel_rfl) rfl ?_
      · have f0 := (B13.below hw').cell 0; have f1 := (B13.below hw').cell 1; have f2 := (B13.below hw').cell 2; have f3 := (B13.below hw').cell 3; have f4 := (B13.below hw').cell 4; go_simp
      simp only [List.setIfInBounds_toArray, List.set_cons_zero, List.set_cons_succ]
      refine rg_call 1 36 12 #[.agg #[.string sn, .slice ma mn mc, .slice ea en ec, .slice ta tn tc]] rfl rfl (by kernel_rfl) (by rfl) (listed' := #[true, true, true, true, false, false]) (by kernel_rfl) (fun W => by go_simp) ?_
      refine (HCS13.out _ hS).mono ?_
      rintro ee W14 ⟨vs2, rfl, hvs, hbW14⟩
      have HVS14 : Hid (ScIn W14 vs2 s) := hvs
      clear hvs
      have hS0 := hS
      have hS : Below W13.heap.size W13 W14 := hS0.trans (hbW14.mono hS0.size)
      clear hS0 hbW14
      refine ⟨_, rfl, hS, ?_⟩
      simp only [List.setIfInBounds_toArray, List.set_cons_zero, List.set_cons_succ]
      refine rg_call 4 39 11 #[vs2, .string nm, .agg #[.int .i64 K, .int .i64 N, .string S, .slice x1 Ke x3, .slice x4 0 x6]] rfl rfl (by kernel_rfl) (by rfl) (listed' := #[true, true, true, true, true, false]) (by kernel_rfl) (fun W => by go_simp) ?_
      refine (HVL.out W14 vs2 _ (cutT true 14 t) Y HVS14.out (HT13.out.cel (Cel.ofBelow hS)) (by rw [cutT_cnt]; have := HSM.out.2; omega) (cutT_sm HSM.out.1) HYY.out).mono ?_
      rintro ee W15 ⟨rfl, hbW15⟩
      have hS0 := hS
      have hS : Below W13.heap.size W13 W15 := hS0.trans (hbW15.mono hS0.size)
      clear hS0 hbW15
      refine ⟨_, rfl, hS, ?_⟩
      simp only [List.setIfInBounds_toArray, List.set_cons_zero, List.set_cons_succ]
      refine rg_take 5 8 (.int .i64 Y) _ rfl rfl (by kernel_rfl) (by kernel_rfl) (by kernel_rfl) (fun _ _ _ h => h) (by rfl) (fun w' hw' => ?_) hS (listed' := #[true, true, true, true, true, true]) (by kernel_rfl) rfl ?_
      · go_simp
      simp only [List.setIfInBounds_toArray, List.set_cons_zero, List.set_cons_succ]
      refine wpAnyH_done (by kernel_rfl) ?_ _
      have hbw15 : Below w.heap.size w W15 := hbw13.trans (hS.mono hbw13.size)
      have B15 := B13.below hS
      have y4 := (B15.cell 4).trans rfl
      clear hS B13 BS13 HVS14 HCS13 HT13 hbw13 HYY
      rcases HY.out with hY | hY
      · subst hY
        clear HY
        go_wp2_with fail
        refine (awake_any _).mono ?_
        rintro e wz ⟨rfl, hbz⟩
        have hbwz : Below w.heap.size w wz := hbw15.trans (hbz.mono hbw15.size)
        clear hbz
        go_wp2_with fail
        go_ret
        exact ⟨rfl, hbwz⟩
      · subst hY
        clear HY
        go_wp2_with fail
        refine (awake_any _).mono ?_
        rintro e wz ⟨rfl, hbz⟩
        have hbwz : Below w.heap.size w wz := hbw15.trans (hbz.mono hbw15.size)
        clear hbz
        go_wp2_with fail
        go_ret
        exact ⟨rfl, hbwz⟩
end Go.Proofs.Ytfnjbbaphmmjlaa
