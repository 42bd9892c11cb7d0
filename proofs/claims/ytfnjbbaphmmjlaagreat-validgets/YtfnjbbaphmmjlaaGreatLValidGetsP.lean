/- ValidGets answers true at every schema, message number and list of numbers: of a schema that is small and that Check accepts, and of the tree that is drawn for its message, Get finds each field of the message: what stands in the tree under its tag, or nothing, or the zero value where its label says so; and it finds nothing for a tag that no field has, or a message that is not there. No condition. -/
import Derived.Test.YtfnjbbaphmmjlaaGreatPkAX
import Derived.Carry
namespace Go.Proofs.YtfnjbbaphmmjlaaGreat
open Go.ChangeShapes Go.WideShapes Go.ChangeAt Go.RowKit
set_option linter.unusedVariables false
set_option linter.unusedSimpArgs false
set_option maxRecDepth 20000
theorem typeB_kind {mn en : List ByteArray} {k : Int} {t : ByteArray} (h : typeB mn en k t = true) : 1 ≤ k ∧ k ≤ 7 := by
 unfold typeB at h
 by_cases h1 : 1 ≤ k ∧ k ≤ 7
 ·exact h1
 ·exfalso
  revert h
  simp
  intros
  omega
theorem ok_kinds {s : ScS} (h : OkS s) : ∀ m ∈ s.msgs, ∀ f ∈ m.fields, 1 ≤ f.kind ∧ f.kind ≤ 7 := fun m hm f hf => typeB_kind ((h.msgs m hm).2.2.2.2.1 f hf).1.2.2.2
theorem mtr_len3 (ms : List MtS) : ∀ r ∈ mtRows ms, r.length = 3 := fun r hr => by
 simp only [mtRows, List.mem_map] at hr
 obtain ⟨_, _, rfl⟩ := hr
 rfl
theorem schemaC_any {w : World} {v : Value} {s : ScS} (hr : ScIn w v s) (hf : FewL s) : Calls Tryz.prog 10 #[v] w fun e w' => ∃ r, e = .returned r ∧ ScIn w' r s ∧ Below w.heap.size w w' :=
 (schema_any hr hf).mono fun e w' ⟨vm, ve, vt, pm, pe, h1, h2, h3, h4, h5⟩ => ⟨_, h1, ⟨vm, ve, vt, rfl, h2.to_in, h3.to_in, (RowG.own (mtr_len3 _) (by decide) h4).1⟩, h5⟩
theorem TrW.trIn {n : Nat} {w : World} {v : Value} {t : Tr} (h : TrW n w v t) : TrIn n w v t := by
 obtain ⟨r, h1, h2⟩ := h
 exact ⟨r, h1, h2.trQ.trC⟩
theorem nobody_no : nameB ⟨#[110, 111, 98, 111, 100, 121, 32, 97, 116, 32, 97, 108, 108]⟩ = false := by kernel_rfl
theorem ok_nobody {s : ScS} (h : OkS s) : msgOf s ⟨#[110, 111, 98, 111, 100, 121, 32, 97, 116, 32, 97, 108, 108]⟩ = none := find_none fun m hm => by
 have h1 := (h.msgs m hm).1
 rw [decide_eq_false_iff_not]
 intro e
 rw [e, nobody_no] at h1
 cases h1
theorem ok_501 {s : ScS} (h : OkS s) {m : MsS} (hm : m ∈ s.msgs) : fldOf m.fields 501 = none := find_none fun f hf => by
 have h1 := ((h.msgs m hm).2.2.2.2.1 f hf).1.2.1
 rw [decide_eq_false_iff_not]
 intro e
 rw [e] at h1
 revert h1
 decide
theorem sum_mem {es : List (Int × List Tr)} {e : Int × List Tr} (he : e ∈ es) (f : Tr → Nat) : (e.2.map f).sum ≤ ((subs es).map f).sum := by
 induction es with
 | nil => cases he
 | cons a l ih =>
  simp only [subs, List.flatMap_cons, List.map_append, List.sum_append] at ih ⊢
  rcases List.mem_cons.1 he with rfl | he
  ·omega
  ·have := ih he
   omega
theorem has_und {es : List (Int × List Tr)} {tag : Int} (h : hasB es tag = true) : ∃ e, e ∈ es ∧ undL es tag = some e.2 := by
 unfold undL
 cases hf : es.find? (fun e => e.1 == tag) with
 | some e => exact ⟨e, List.mem_of_find?_eq_some hf, rfl⟩
 | none =>
  rw [List.find?_eq_none] at hf
  simp only [hasB, List.any_eq_true] at h
  obtain ⟨e, he, h1⟩ := h
  exact absurd h1 (hf e he)
theorem has_none {es : List (Int × List Tr)} {tag : Int} (h : hasB es tag = false) : undL es tag = none := undL_no fun e he e1 => by
 simp only [hasB, List.any_eq_false] at h
 exact h e he (by simpa using e1)
theorem ents_eachG : ∀ {es : List (Int × List Tr)} {last : Int}, entsB last es = true → ∀ e ∈ es, 1 ≤ e.2.length
 | [], _, _, e, he => by cases he
 | a :: l, last, h, e, he => by
  simp only [entsB, Bool.and_eq_true, decide_eq_true_eq] at h
  rcases List.mem_cons.1 he with rfl | he
  ·exact h.1.1.1.2
  ·exact ents_eachG h.2 e he
theorem kindT_some {k : Int} (h : 1 ≤ k ∧ k ≤ 7) : kindT k = 1 ∨ kindT k = 2 ∨ kindT k = 3 := by
 unfold kindT
 by_cases h1 : k = 1 ∨ k = 2 ∨ k = 3 ∨ k = 6
 ·rw [if_pos h1]; exact .inl rfl
 ·rw [if_neg h1]
  by_cases h2 : k = 4 ∨ k = 5
  ·rw [if_pos h2]; exact .inr (.inl rfl)
  ·rw [if_neg h2, if_pos (by omega)]; exact .inr (.inr rfl)
set_option maxHeartbeats 8000000 in
theorem validGets_walk (v : Value) (s : ScS) (which : Int) (la : Option Addr) (L lc : Nat) (zs : List Int) (w : World) (hr : ScIn w v s) (hw : ScW s) (g1 : (Lit.int .i64 which).wf = true) (hI : IsRow .i64 w la L lc zs) (hcap : lc * Tryz.prog.bytesOf 3 ≤ 140737488351232) :
  Calls Tryz.prog 5 #[v, .int .i64 which, .slice la L lc] w fun e w' => e = .returned (.bool true) ∧ Below w.heap.size w w' := by
 obtain ⟨i1, i2⟩ := bounds_i64 g1
 obtain ⟨hRl, hLl⟩ := hI.rowG
 have HRL : Hid (RowG w (.slice la L lc) 1 (inRows (zs.take L)) ∧ (zs.take L).length = L) := ⟨hRl, hLl⟩
 have hs' := hr
 obtain ⟨vm, ve, vt, rfl, hms, hen, hmt⟩ := hr
 obtain ⟨ma, mc, rfl, hmc1, hmc2, -⟩ := hms.open
 obtain ⟨ea, ec, rfl, -⟩ := hen.open
 obtain ⟨ta, tn, tc, rfl⟩ := row_slice hmt
 obtain ⟨mn, hmn⟩ : ∃ z, s.msgs.length = z := ⟨_, rfl⟩
 obtain ⟨en, hen'⟩ : ∃ z, s.enums.length = z := ⟨_, rfl⟩
 obtain ⟨sn, hsn⟩ : ∃ z, s.name = z := ⟨_, rfl⟩
 rw [hmn, hen', hsn] at hs' ⊢
 rw [hmn] at hmc1 hms
 unfold maxLen at hmc2
 have HMN : Hid (s.msgs.length = mn) := hmn
 have HSC : Hid (ScIn w (.agg #[.string sn, .slice ma mn mc, .slice ea en ec, .slice ta tn tc]) s) := hs'
 have HMS : Hid (MsIn w (.slice ma mn mc) s.msgs) := hms
 have HSW : Hid (ScW s) := hw
 have al : Below w.heap.size w (w.alloc (Obj.cells #[.string sn, .slice ma mn mc, .slice ea en ec, .slice ta tn tc] 26)) := (Below.refl _ _).alloc (Nat.le_refl _) _
 have BS : Blk (w.alloc (Obj.cells #[.string sn, .slice ma mn mc, .slice ea en ec, .slice ta tn tc] 26)) w.heap.size #[.string sn, .slice ma mn mc, .slice ea en ec, .slice ta tn tc] 26 := Blk.new w _ _
 have HFW : Hid (Calls Tryz.prog 7 #[.agg #[.string sn, .slice ma mn mc, .slice ea en ec, .slice ta tn tc]] (w.alloc (Obj.cells #[.string sn, .slice ma mn mc, .slice ea en ec, .slice ta tn tc] 26)) fun e w' => FewP s e ∧ Below (w.alloc (Obj.cells #[.string sn, .slice ma mn mc, .slice ea en ec, .slice ta tn tc] 26)).heap.size (w.alloc (Obj.cells #[.string sn, .slice ma mn mc, .slice ea en ec, .slice ta tn tc] 26)) w') := few_any (hs'.below al) hw
 clear hRl hLl hI hcap hs' hms hen hmt hmn hen' hsn hw g1
 go_enter Tryz.func5, Tryz.ntmps5
 go_wp2_with fail
 refine HFW.out.mono ?_
 rintro e w2 ⟨hfw, hb2⟩
 have hbw2 : Below w.heap.size w w2 := al.trans (hb2.mono al.size)
 have BS2 := BS.below hb2
 clear hb2 al BS HFW
 rcases hfw with rfl | ⟨rfl, hfs⟩
 ·clear BS2
  go_wp2_with fail
  refine (awake_any _).mono ?_
  rintro e wz ⟨rfl, hbz⟩
  have hbwz : Below w.heap.size w wz := hbw2.trans (hbz.mono hbw2.size)
  clear hbz
  go_wp2_with fail
  go_ret
  exact ⟨rfl, hbwz⟩
 have HFS : Hid (FewS s) := hfs
 have HRK : Hid (Calls Tryz.prog 21 #[.agg #[.string sn, .slice ma mn mc, .slice ea en ec, .slice ta tn tc]] w2 fun e w' => e = .returned (.int .i64 (checkA s)) ∧ Below w2.heap.size w2 w') := rcheck_any (HSC.out.below hbw2) hfs
 have s0 := (BS2.cell 0).trans rfl
 have s1 := (BS2.cell 1).trans rfl
 have s2 := (BS2.cell 2).trans rfl
 have s3 := (BS2.cell 3).trans rfl
 clear hfs
 go_wp2_with fail
 refine HRK.out.mono ?_
 rintro e w3 ⟨rfl, hb3⟩
 have hbw3 : Below w.heap.size w w3 := hbw2.trans (hb3.mono hbw2.size)
 have BS3 := BS2.below hb3
 clear hb3 hbw2 BS2 HRK s0 s1 s2 s3
 obtain ⟨A, hA⟩ : ∃ z, checkA s = z := ⟨_, rfl⟩
 have HA : Hid (checkA s = A) := hA
 rw [hA]
 clear hA
 by_cases hA0 : A = 0
 rotate_left
 ·have d : (A != 0) = true := by simpa using hA0
  clear hA0 BS3
  go_wp2_with fail
  refine (awake_any _).mono ?_
  rintro e wz ⟨rfl, hbz⟩
  have hbwz : Below w.heap.size w wz := hbw3.trans (hbz.mono hbw3.size)
  clear hbz
  go_wp2_with fail
  go_ret
  exact ⟨rfl, hbwz⟩
 subst hA0
 have HOK : Hid (OkS s) := (checkA_ok s).1 HA.out
 by_cases hL2 : 200 < L
 ·have d : decide (200 < (L : Int)) = true := by simp; omega
  clear BS3
  go_wp2_with fail
  refine (awake_any _).mono ?_
  rintro e wz ⟨rfl, hbz⟩
  have hbwz : Below w.heap.size w wz := hbw3.trans (hbz.mono hbw3.size)
  clear hbz
  go_wp2_with fail
  go_ret
  exact ⟨rfl, hbwz⟩
 have d : decide (200 < (L : Int)) = false := by simp; omega
 have hmn1 : 0 < mn := by have := HOK.out.some; rw [HMN.out] at this; exact this
 have hmn2 : mn ≤ 14 := by have := HFS.out.msgs; rw [HMN.out] at this; exact this
 obtain ⟨hp1, hp2⟩ := placeI_in which (mn : Int) (by omega)
 obtain ⟨k, hk⟩ : ∃ z : Nat, placeI which (mn : Int) = (z : Int) := ⟨(placeI which (mn : Int)).toNat, by omega⟩
 have hkm : k < mn := by omega
 have HPL : Hid (∀ W, Calls Tryz.prog 25 #[.int .i64 which, .int .i64 (mn : Int)] W fun e w1 => e = .returned (.int .i64 (k : Int)) ∧ w1 = W) := fun W => by
  have h1 := place_is which (mn : Int) i1 i2 (by omega) (by omega) W
  rw [hk] at h1
  exact h1
 obtain ⟨m, hm⟩ : ∃ x, s.msgs[k]? = some x := ⟨_, List.getElem?_eq_getElem (by rw [HMN.out]; exact hkm)⟩
 have HM : Hid (s.msgs[k]? = some m) := hm
 obtain ⟨g, off, vf, vr, rfl, c0, c1, c2, hrf, hrr⟩ := HMS.out.get hm
 have HRF : Hid (RowG w vf 5 (flRows m.fields)) := hrf
 obtain ⟨fa, fl, fc, rfl⟩ := row_slice hrf
 obtain ⟨ra, rl, rc, rfl⟩ := row_slice hrr
 obtain ⟨mnm, hmnm⟩ : ∃ z, m.name = z := ⟨_, rfl⟩
 have HNM : Hid (m.name = mnm) := hmnm
 rw [hmnm] at c0
 have HCE : Hid (∀ W, Below w3.heap.size w3 W → W.cell? ⟨w.heap.size, 1, none⟩ = some (.slice (some ⟨g, off, none⟩) mn mc) ∧ W.cell? ⟨g, off + k * 3, none⟩ = some (.string mnm) ∧ W.cell? ⟨g, off + k * 3 + 1, none⟩ = some (.slice fa fl fc) ∧ W.cell? ⟨g, off + k * 3 + 2, none⟩ = some (.slice ra rl rc)) := fun W hW => by
  have hb : Below w.heap.size w W := hbw3.trans (hW.mono hbw3.size)
  exact ⟨((BS3.below hW).cell 1).trans rfl, (hb.cell (World.block_lt_of_cell? _ _ c0)).trans c0, (hb.cell (World.block_lt_of_cell? _ _ c1)).trans c1, (hb.cell (World.block_lt_of_cell? _ _ c2)).trans c2⟩
 clear hm hrf hrr hmnm hk c0 c1 c2 hp1 hp2
 go_wp2_with fail
 obtain ⟨b0, hb0⟩ : ∃ z, w.heap.size = z := ⟨_, rfl⟩
 have HBZ : Hid (w.heap.size = b0) := hb0
 rw [hb0] at HCE BS3
 try simp only [hb0]
 clear hb0 d
 refine M_region (T := fun W => W.cell? ⟨b0, 1, none⟩ = some (.slice (some ⟨g, off, none⟩) mn mc) ∧ W.cell? ⟨g, off + k * 3, none⟩ = some (.string mnm) ∧ W.cell? ⟨g, off + k * 3 + 1, none⟩ = some (.slice fa fl fc) ∧ W.cell? ⟨g, off + k * 3 + 2, none⟩ = some (.slice ra rl rc)) (m := 10) (by kernel_rfl) ?_
 have hd : Below w3.heap.size w3 w3.drew := (Below.refl _ _).drew
 have hdz : w3.drew.heap.size = w3.heap.size := rfl
 have hS := HCE.out _ hd
 refine M_take 0 32 (.pointer (some ⟨b0, 1, none⟩)) _ rfl rfl (by kernel_rfl) (by kernel_rfl) (by kernel_rfl) (by kernel_rfl) (by kernel_rfl) (fun _ _ _ h => h) (by rfl) (fun w' hw' => ?_) hS (listed' := #[true, false, false, false, false, false, false, false, false, false, false]) (by kernel_rfl) rfl ?_
 ·go_simp
 simp only [List.setIfInBounds_toArray, List.set_cons_zero, List.set_cons_succ]
 refine M_take 1 33 (.slice (some ⟨g, off, none⟩) mn mc) _ rfl rfl (by kernel_rfl) (by kernel_rfl) (by kernel_rfl) (by kernel_rfl) (by kernel_rfl) (fun _ _ _ h => h) (by rfl) (fun w' hw' => ?_) hS (listed' := #[true, true, false, false, false, false, false, false, false, false, false]) (by kernel_rfl) rfl ?_
 ·obtain ⟨f0, f1, f2, f3⟩ := hw'; go_simp
 simp only [List.setIfInBounds_toArray, List.set_cons_zero, List.set_cons_succ]
 refine M_take 2 34 (.int .i64 which) _ rfl rfl (by kernel_rfl) (by kernel_rfl) (by kernel_rfl) (by kernel_rfl) (by kernel_rfl) (fun _ _ _ h => h) (by rfl) (fun w' hw' => ?_) hS (listed' := #[true, true, true, false, false, false, false, false, false, false, false]) (by kernel_rfl) rfl ?_
 ·go_simp
 simp only [List.setIfInBounds_toArray, List.set_cons_zero, List.set_cons_succ]
 refine M_take 3 35 (.pointer (some ⟨b0, 1, none⟩)) _ rfl rfl (by kernel_rfl) (by kernel_rfl) (by kernel_rfl) (by kernel_rfl) (by kernel_rfl) (fun _ _ _ h => h) (by rfl) (fun w' hw' => ?_) hS (listed' := #[true, true, true, true, false, false, false, false, false, false, false]) (by kernel_rfl) rfl ?_
 ·go_simp
 simp only [List.setIfInBounds_toArray, List.set_cons_zero, List.set_cons_succ]
 refine M_take 4 36 (.slice (some ⟨g, off, none⟩) mn mc) _ rfl rfl (by kernel_rfl) (by kernel_rfl) (by kernel_rfl) (by kernel_rfl) (by kernel_rfl) (fun _ _ _ h => h) (by rfl) (fun w' hw' => ?_) hS (listed' := #[true, true, true, true, true, false, false, false, false, false, false]) (by kernel_rfl) rfl ?_
 ·obtain ⟨f0, f1, f2, f3⟩ := hw'; go_simp
 simp only [List.setIfInBounds_toArray, List.set_cons_zero, List.set_cons_succ]
 refine M_take 5 37 (.int .i64 (mn : Int)) _ rfl rfl (by kernel_rfl) (by kernel_rfl) (by kernel_rfl) (by kernel_rfl) (by kernel_rfl) (fun _ _ _ h => h) (by rfl) (fun w' hw' => ?_) hS (listed' := #[true, true, true, true, true, true, false, false, false, false, false]) (by kernel_rfl) rfl ?_
 ·go_simp
 simp only [List.setIfInBounds_toArray, List.set_cons_zero, List.set_cons_succ]
 have hal4 : Below w3.heap.size w3 (w3.drew.alloc (Obj.cells #[.string ⟨#[]⟩, .slice none 0 0, .slice none 0 0] 50)) := hd.trans (((Below.refl _ _).alloc (Nat.le_refl _) _).mono hd.size)
 refine M_cabl 6 9 7 8 38 7 39 40 25 #[.int .i64 which, .int .i64 (mn : Int)] (.int .i64 (k : Int)) (.pointer (some ⟨g, off + k * 3, none⟩)) (.agg #[.string mnm, .slice fa fl fc, .slice ra rl rc]) (fun W => .pointer (some ⟨W.heap.size, 0, none⟩)) (fun W => W.alloc (Obj.cells #[.string ⟨#[]⟩, .slice none 0 0, .slice none 0 0] 50))
  rfl rfl rfl rfl rfl rfl rfl rfl (by decide) (by decide) (by decide) (by decide) (by decide) (by decide) (by kernel_rfl) (by kernel_rfl) (by kernel_rfl) (by kernel_rfl) (by kernel_rfl) (by kernel_rfl) (by kernel_rfl) (fun _ => rfl) (fun _ => rfl) (fun _ => rfl) (fun _ => rfl) (by kernel_rfl) (by kernel_rfl) (by kernel_rfl) (by kernel_rfl) (by kernel_rfl) (by kernel_rfl) (by kernel_rfl) (fun _ _ _ _ h => h) (fun _ _ _ _ h => h) ?x1 ?x1' ?x2 HPL.out ?xk ?xk' ?xl ?xl' hS (HCE.out _ hal4) ?_
 case x1 => intro W'; go_simp
 case x1' => intro u W'; go_simp
 case x2 => intro a' W'; go_simp
 case xk => intro W'; go_simp
 case xk' => intro u W'; go_simp
 case xl => rintro W' ⟨f0, f1, f2, f3⟩; go_simp
 case xl' => rintro u W' ⟨f0, f1, f2, f3⟩; go_simp
 simp only [List.setIfInBounds_toArray, List.set_cons_zero, List.set_cons_succ]
 have B4 : Blk (w3.drew.alloc (Obj.cells #[.string ⟨#[]⟩, .slice none 0 0, .slice none 0 0] 50)) w3.heap.size #[.string ⟨#[]⟩, .slice none 0 0, .slice none 0 0] 50 := Blk.new w3.drew _ _
 rw [hdz]
 obtain ⟨b4, hb4⟩ : ∃ z, w3.heap.size = z := ⟨_, rfl⟩
 have HB4 : Hid (w3.heap.size = b4) := hb4
 rw [hb4] at B4
 simp only [hb4]
 have h40 := (B4.cell 0).trans rfl
 have h41 := (B4.cell 1).trans rfl
 have h42 := (B4.cell 2).trans rfl
 have z40 := B4.froz 0
 have z41 := B4.froz 1
 have z42 := B4.froz 2
 have HBL4 : Hid (Below w3.heap.size w3 (w3.drew.alloc (Obj.cells #[.string ⟨#[]⟩, .slice none 0 0, .slice none 0 0] 50))) := hal4
 clear hb4 hal4 hd hdz hS
 generalize (w3.drew.alloc (Obj.cells #[.string ⟨#[]⟩, .slice none 0 0, .slice none 0 0] 50)) = W4 at *
 refine M_store 10 ((((W4.setCell ⟨b4, 0, none⟩ (.string mnm)).setCell ⟨b4, 1, none⟩ (.slice fa fl fc)).setCell ⟨b4, 2, none⟩ (.slice ra rl rc))) rfl rfl (by kernel_rfl) (by rfl) (listed' := #[true, true, true, true, true, true, true, true, true, true, true]) (by kernel_rfl) (by go_simp) (by kernel_rfl) ?_
 refine M_done (by kernel_rfl) ?_ _
 have KS : Kp (fun q => q = b4) W4 ((((W4.setCell ⟨b4, 0, none⟩ (.string mnm)).setCell ⟨b4, 1, none⟩ (.slice fa fl fc)).setCell ⟨b4, 2, none⟩ (.slice ra rl rc))) := by
  refine Kp.setCell ?_ (fun _ => by simp) _
  refine Kp.setCell ?_ (fun _ => by simp) _
  refine Kp.setCell ?_ (fun _ => by simp) _
  exact Kp.refl _ _
 have B4a : Blk (W4.setCell ⟨b4, 0, none⟩ (.string mnm)) b4 #[.string mnm, .slice none 0 0, .slice none 0 0] 50 := B4.set 0 _ rfl
 have B4b : Blk ((W4.setCell ⟨b4, 0, none⟩ (.string mnm)).setCell ⟨b4, 1, none⟩ (.slice fa fl fc)) b4 #[.string mnm, .slice fa fl fc, .slice none 0 0] 50 := B4a.set 1 _ rfl
 have B5 : Blk ((((W4.setCell ⟨b4, 0, none⟩ (.string mnm)).setCell ⟨b4, 1, none⟩ (.slice fa fl fc)).setCell ⟨b4, 2, none⟩ (.slice ra rl rc))) b4 #[.string mnm, .slice fa fl fc, .slice ra rl rc] 50 := B4b.set 2 _ rfl
 have hb35 : Below w3.heap.size w3 ((((W4.setCell ⟨b4, 0, none⟩ (.string mnm)).setCell ⟨b4, 1, none⟩ (.slice fa fl fc)).setCell ⟨b4, 2, none⟩ (.slice ra rl rc))) := HBL4.out.trans (KS.toBelow HBL4.out.size (fun q e => by rw [e]; exact Nat.le_of_eq HB4.out))
 have hbw5 : Below w.heap.size w ((((W4.setCell ⟨b4, 0, none⟩ (.string mnm)).setCell ⟨b4, 1, none⟩ (.slice fa fl fc)).setCell ⟨b4, 2, none⟩ (.slice ra rl rc))) := hbw3.trans (hb35.mono hbw3.size)
 have BS5 : Blk ((((W4.setCell ⟨b4, 0, none⟩ (.string mnm)).setCell ⟨b4, 1, none⟩ (.slice fa fl fc)).setCell ⟨b4, 2, none⟩ (.slice ra rl rc))) b0 #[.string sn, .slice (some ⟨g, off, none⟩) mn mc, .slice ea en ec, .slice ta tn tc] 26 := BS3.below hb35
 clear h40 h41 h42 z40 z41 z42 KS B4 B4a B4b hb35 hbw3 BS3 HBL4 HCE HPL
 generalize ((((W4.setCell ⟨b4, 0, none⟩ (.string mnm)).setCell ⟨b4, 1, none⟩ (.slice fa fl fc)).setCell ⟨b4, 2, none⟩ (.slice ra rl rc))) = W5 at *
 have HFT : Hid (Calls Tryz.prog 26 #[.agg #[.string sn, .slice (some ⟨g, off, none⟩) mn mc, .slice ea en ec, .slice ta tn tc], .string mnm, .slice la L lc] W5 (FitA s mnm W5)) := fitAll_any s sn (some ⟨g, off, none⟩) ea ta mn mc en ec tn tc (fun m hm => (HFS.out.few.flds m hm).1) (ok_kinds HOK.out) (zs.take L) la lc L W5 (HSC.out.below hbw5) (HRL.out.1.below hbw5) HRL.out.2 (by omega) mnm
 have s0 := (BS5.cell 0).trans rfl
 have s1 := (BS5.cell 1).trans rfl
 have s2 := (BS5.cell 2).trans rfl
 have s3 := (BS5.cell 3).trans rfl
 have m0 := (B5.cell 0).trans rfl
 go_wp2_with fail
 refine Calls.mono HFT.out ?_
 rintro e w6 ⟨r, t, bs, rfl, hO, hA6, hT, hc6, hb6⟩
 have hbw6 : Below w.heap.size w w6 := hbw5.trans (hb6.mono hbw5.size)
 have BS6 := BS5.below hb6
 have B6 := B5.below hb6
 obtain ⟨x1, x2, x3, x4, x5, x6, hr6⟩ := TrO.open hO
 subst hr6
 have HO6 : Hid (TrO 6 W5.heap.size w6 [.int .i64 t.kind, .int .i64 t.n, .string t.s, .slice x1 x2 x3, .slice x4 x5 x6] t bs ∧ Apt W5.heap.size w6 bs ∧ FitT 6 s mnm t ∧ cntN 6 t ≤ 180) := ⟨hO, hA6, hT, hc6⟩
 clear hO hA6 hT hc6 hb6 hbw5 BS5 B5 HFT s0 s1 s2 s3 m0
 obtain ⟨K, hK⟩ : ∃ z, t.kind = z := ⟨_, rfl⟩
 obtain ⟨N, hN⟩ : ∃ z, t.n = z := ⟨_, rfl⟩
 obtain ⟨S, hS⟩ : ∃ z, t.s = z := ⟨_, rfl⟩
 rw [hK, hN, hS] at HO6
 rw [hK, hN, hS]
 have HFIT : Hid (FitT 6 s mnm t ∧ cntN 6 t ≤ 180) := HO6.out.2.2
 have al7 : Below w6.heap.size w6 (w6.alloc (Obj.cells #[.int .i64 K, .int .i64 N, .string S, .slice x1 x2 x3, .slice x4 x5 x6] 30)) := (Below.refl _ _).alloc (Nat.le_refl _) _
 have hbw7 : Below w.heap.size w (w6.alloc (Obj.cells #[.int .i64 K, .int .i64 N, .string S, .slice x1 x2 x3, .slice x4 x5 x6] 30)) := hbw6.trans (al7.mono hbw6.size)
 have BT7 : Blk (w6.alloc (Obj.cells #[.int .i64 K, .int .i64 N, .string S, .slice x1 x2 x3, .slice x4 x5 x6] 30)) w6.heap.size #[.int .i64 K, .int .i64 N, .string S, .slice x1 x2 x3, .slice x4 x5 x6] 30 := Blk.new w6 _ _
 have BS7 := BS6.below al7
 have B7 := B6.below al7
 have HTW7 : Hid (TrW 6 (w6.alloc (Obj.cells #[.int .i64 K, .int .i64 N, .string S, .slice x1 x2 x3, .slice x4 x5 x6] 30)) (.agg #[.int .i64 K, .int .i64 N, .string S, .slice x1 x2 x3, .slice x4 x5 x6]) t) := (⟨_, rfl, (HO6.out.1.trR).cel (Cel.ofBelow al7)⟩ : TrW 6 (w6.alloc (Obj.cells #[.int .i64 K, .int .i64 N, .string S, .slice x1 x2 x3, .slice x4 x5 x6] 30)) (.agg #[.int .i64 K, .int .i64 N, .string S, .slice x1 x2 x3, .slice x4 x5 x6]) t)
 clear hK hN hS al7 hbw6 BS6 B6 HO6
 go_wp2_with fail
 obtain ⟨bt, hbt⟩ : ∃ z, w6.heap.size = z := ⟨_, rfl⟩
 rw [hbt] at BT7
 try simp only [hbt]
 clear hbt
 generalize (w6.alloc (Obj.cells #[.int .i64 K, .int .i64 N, .string S, .slice x1 x2 x3, .slice x4 x5 x6] 30)) = W7 at *
 have hMO : msgOf s mnm = some m := by
  have h1 := ok_findM HOK.out HM.out
  rw [HNM.out] at h1
  exact h1
 have HMO : Hid (msgOf s mnm = some m) := hMO
 have hFL : (flRows m.fields).length = fl := by
  obtain ⟨a9, c9, e9, -⟩ := HRF.out.open
  simp only [Value.slice.injEq] at e9
  exact e9.2.1.symm
 have HFLL : Hid (m.fields.length = fl ∧ fl ≤ 20) := (by
  have h1 : m.fields.length = fl := by rw [← hFL]; simp [flRows]
  exact ⟨h1, by rw [← h1]; exact (HFS.out.few.flds m (List.mem_of_getElem? HM.out)).1⟩ : m.fields.length = fl ∧ fl ≤ 20)
 have hfl20 : fl ≤ 20 := HFLL.out.2
 have hflc : fl ≤ fc ∧ fc ≤ 9223372036854775807 := by
  obtain ⟨a9, c9, e9, h91, h92, -⟩ := HRF.out.open
  simp only [Value.slice.injEq] at e9
  obtain ⟨-, e91, rfl⟩ := e9
  unfold maxLen at h92
  omega
 obtain ⟨hflc1, hflc2⟩ := hflc
 have HCS : Hid (∀ W, Below W7.heap.size W7 W → Calls Tryz.prog 10 #[.agg #[.string sn, .slice (some ⟨g, off, none⟩) mn mc, .slice ea en ec, .slice ta tn tc]] W fun e w' => ∃ r, e = .returned r ∧ ScIn w' r s ∧ Below W.heap.size W w') := fun W hW => schemaC_any (HSC.out.below (hbw7.trans (hW.mono hbw7.size))) HFS.out.few
 have HCT : Hid (∀ W, Below W7.heap.size W7 W → Calls Tryz.prog 11 #[.agg #[.int .i64 K, .int .i64 N, .string S, .slice x1 x2 x3, .slice x4 x5 x6]] W (CopyP 6 t W)) := fun W hW => copy_any 6 t _ W (HTW7.out.cel (Cel.ofBelow hW)).trIn HFIT.out.1.sm
 have HGT : Hid (∀ W vs va (q : ByteArray) (tag : Int), ScIn W vs s → TrW 6 W va t → Calls Tryz.prog 23 #[vs, .string q, va, .int .i64 tag] W (GetP 4 s q t tag W)) := fun W vs va q tag h1 h2 => get_step 4 h1 HFS.out.few.flds h2 (fun e u W' he h3 h4 => copies_any h4 (HFIT.out.1.sm.2.2.2.2 e he).2 (HFIT.out.1.sm.2.2.2.2 e he).1 (by
  have h5 := sum_mem he (cntN 5)
  have h6 : 1 + ((subs t.es).map (cntN 5)).sum ≤ 180 := HFIT.out.2
  show (e.2.map (cntN 5)).sum ≤ 2000
  omega))
 have HSL : Hid (ScIn w (.agg #[.string sn, .slice (some ⟨g, off, none⟩) mn mc, .slice ea en ec, .slice ta tn tc]) s ∧ Below w.heap.size w W7) := ⟨HSC.out, hbw7⟩
 have HG5 : Hid (getA s mnm t 501 = none) := (by rw [getA, fieldA_some (by rw [hMO]; rfl), hMO]; show (match fldOf m.fields 501 with | none => none | some f => _) = none; rw [ok_501 HOK.out (List.mem_of_getElem? HM.out)] : getA s mnm t 501 = none)
 have HGN : Hid (getA s ⟨#[110, 111, 98, 111, 100, 121, 32, 97, 116, 32, 97, 108, 108]⟩ t 1 = none) := (by rw [getA, fieldA_none (by rw [ok_nobody HOK.out]; rfl)] : getA s ⟨#[110, 111, 98, 111, 100, 121, 32, 97, 116, 32, 97, 108, 108]⟩ t 1 = none)
 have HBK : Hid (∀ W, Below W7.heap.size W7 W → Blk W b0 #[.string sn, .slice (some ⟨g, off, none⟩) mn mc, .slice ea en ec, .slice ta tn tc] 26 ∧ Blk W b4 #[.string mnm, .slice fa fl fc, .slice ra rl rc] 50 ∧ Blk W bt #[.int .i64 K, .int .i64 N, .string S, .slice x1 x2 x3, .slice x4 x5 x6] 30) := fun W hW => ⟨BS7.below hW, B7.below hW, BT7.below hW⟩
 clear hMO hFL BS7 B7 BT7
 go_loopw [9] (fun iv wr => ∃ i : Nat, iv = .int .i64 (i : Int) ∧ i ≤ fl ∧ Below W7.heap.size W7 wr) (fun iv _ => fl - (intOf iv).toNat)
 case atStart => exact ⟨0, rfl, by omega, Below.refl _ _⟩
 case round =>
  obtain ⟨i, rfl, hi, hbr⟩ := hrel
  obtain ⟨BS, BM, BT⟩ := HBK.out _ hbr
  have m1 := (BM.cell 1).trans rfl
  by_cases hlt : i < fl
  ·obtain ⟨f, hf⟩ : ∃ x, m.fields[i]? = some x := ⟨_, List.getElem?_eq_getElem (by rw [HFLL.out.1]; exact hlt)⟩
   have hbwr : Below w.heap.size w wr := hbw7.trans (hbr.mono hbw7.size)
   obtain ⟨a9, c9, e9, -, -, hz9, hrow⟩ := (HRF.out.below hbwr).open
   simp only [Value.slice.injEq] at e9
   obtain ⟨ea9, -, -⟩ := e9
   subst ea9
   obtain ⟨gf, of, hfa⟩ := hz9 (fun e => by have := congrArg List.length e; simp [flRows] at this; have h2 := HFLL.out.1; rw [this] at h2; simp at h2; omega)
   subst hfa
   obtain ⟨y1, y2, y3, y4, y5⟩ := f
   have hc9 := hrow gf of rfl i [.string y1, .int .i64 y2, .int .i64 y3, .int .i64 y4, .string y5] (by simp only [flRows, List.getElem?_map, hf]; rfl)
   have f0 : wr.cell? ⟨gf, of + i * 5, none⟩ = some (.string y1) := hc9 0 _ rfl
   have f1 : wr.cell? ⟨gf, of + i * 5 + 1, none⟩ = some (.int .i64 y2) := hc9 1 _ rfl
   have f2 : wr.cell? ⟨gf, of + i * 5 + 2, none⟩ = some (.int .i64 y3) := hc9 2 _ rfl
   have f3 : wr.cell? ⟨gf, of + i * 5 + 3, none⟩ = some (.int .i64 y4) := hc9 3 _ rfl
   have f4 : wr.cell? ⟨gf, of + i * 5 + 4, none⟩ = some (.string y5) := hc9 4 _ rfl
   have hfi := ok_findF HOK.out (List.mem_of_getElem? HM.out) hf
   have hfo : fieldA s mnm y2 = some ⟨y1, y2, y3, y4, y5⟩ := by
    rw [fieldA_some (by rw [HMO.out]; rfl), HMO.out]
    exact hfi.1
   have hkd := ok_kinds HOK.out m (List.mem_of_getElem? HM.out) _ (List.mem_of_getElem? hf)
   have HGA : Hid (getA s mnm t y2 = some ((undL t.es y2).getD (zeroL ⟨y1, y2, y3, y4, y5⟩))) := (by
    rw [getA, hfo]
    simp only
    rw [if_neg (by simp [HFIT.out.1.kind])] : getA s mnm t y2 = some ((undL t.es y2).getD (zeroL ⟨y1, y2, y3, y4, y5⟩)))
   have HKD : Hid (1 ≤ y4 ∧ y4 ≤ 7) := hkd
   have al8 : Below wr.heap.size wr (wr.alloc (Obj.cells #[.string y1, .int .i64 y2, .int .i64 y3, .int .i64 y4, .string y5] 54)) := (Below.refl _ _).alloc (Nat.le_refl _) _
   have BF8 : Blk (wr.alloc (Obj.cells #[.string y1, .int .i64 y2, .int .i64 y3, .int .i64 y4, .string y5] 54)) wr.heap.size #[.string y1, .int .i64 y2, .int .i64 y3, .int .i64 y4, .string y5] 54 := Blk.new wr _ _
   have BS8 := BS.below al8
   have BM8 := BM.below al8
   have BT8 := BT.below al8
   have hb8 : Below W7.heap.size W7 (wr.alloc (Obj.cells #[.string y1, .int .i64 y2, .int .i64 y3, .int .i64 y4, .string y5] 54)) := hbr.trans (al8.mono hbr.size)
   clear hf hrow hc9 hfi hfo hkd hz9 al8 BS BM BT hbwr hbr
   go_upto_region 9 with fail
   clear f0 f1 f2 f3 f4 m1
   generalize (wr.alloc (Obj.cells #[.string y1, .int .i64 y2, .int .i64 y3, .int .i64 y4, .string y5] 54)) = W8 at *
   obtain ⟨bf, hbf⟩ : ∃ z, wr.heap.size = z := ⟨_, rfl⟩
   rw [hbf] at BF8
   simp only [hbf]
   clear hbf
   have hS : Below W8.heap.size W8 W8.drew := (Below.refl _ _).drew
   refine wp_region_held_drew (S := fun w' => Below W8.heap.size W8 w') (by kernel_rfl) hS (fun hS => ?_)
   refine rg_take 0 59 (.agg #[.string sn, .slice (some ⟨g, off, none⟩) mn mc, .slice ea en ec, .slice ta tn tc]) _ rfl rfl (by kernel_rfl) (by kernel_rfl) (by kernel_rfl) (fun _ _ _ h => h) (by rfl) (fun w' hw' => ?_) hS (listed' := #[true, false, false, false, false, false, false, false, false, false, false, false, false, false]) (by kernel_rfl) rfl ?_
   ·have f0 := ((BS8.below hw').cell 0).trans rfl; have f1 := ((BS8.below hw').cell 1).trans rfl; have f2 := ((BS8.below hw').cell 2).trans rfl; have f3 := ((BS8.below hw').cell 3).trans rfl; go_simp
   simp only [List.setIfInBounds_toArray, List.set_cons_zero, List.set_cons_succ]
   refine rg_take 2 61 (.pointer (some ⟨b4, 0, none⟩)) _ rfl rfl (by kernel_rfl) (by kernel_rfl) (by kernel_rfl) (fun _ _ _ h => h) (by rfl) (fun w' hw' => ?_) hS (listed' := #[true, false, true, false, false, false, false, false, false, false, false, false, false, false]) (by kernel_rfl) rfl ?_
   ·go_simp
   simp only [List.setIfInBounds_toArray, List.set_cons_zero, List.set_cons_succ]
   refine rg_take 3 62 (.string mnm) _ rfl rfl (by kernel_rfl) (by kernel_rfl) (by kernel_rfl) (fun _ _ _ h => h) (by rfl) (fun w' hw' => ?_) hS (listed' := #[true, false, true, true, false, false, false, false, false, false, false, false, false, false]) (by kernel_rfl) rfl ?_
   ·have f0 := ((BM8.below hw').cell 0).trans rfl; go_simp
   simp only [List.setIfInBounds_toArray, List.set_cons_zero, List.set_cons_succ]
   refine rg_take 4 63 (.agg #[.int .i64 K, .int .i64 N, .string S, .slice x1 x2 x3, .slice x4 x5 x6]) _ rfl rfl (by kernel_rfl) (by kernel_rfl) (by kernel_rfl) (fun _ _ _ h => h) (by rfl) (fun w' hw' => ?_) hS (listed' := #[true, false, true, true, true, false, false, false, false, false, false, false, false, false]) (by kernel_rfl) rfl ?_
   ·have f0 := ((BT8.below hw').cell 0).trans rfl; have f1 := ((BT8.below hw').cell 1).trans rfl; have f2 := ((BT8.below hw').cell 2).trans rfl; have f3 := ((BT8.below hw').cell 3).trans rfl; have f4 := ((BT8.below hw').cell 4).trans rfl; go_simp
   simp only [List.setIfInBounds_toArray, List.set_cons_zero, List.set_cons_succ]
   refine rg_take 6 65 (.pointer (some ⟨bf, 1, none⟩)) _ rfl rfl (by kernel_rfl) (by kernel_rfl) (by kernel_rfl) (fun _ _ _ h => h) (by rfl) (fun w' hw' => ?_) hS (listed' := #[true, false, true, true, true, false, true, false, false, false, false, false, false, false]) (by kernel_rfl) rfl ?_
   ·go_simp
   simp only [List.setIfInBounds_toArray, List.set_cons_zero, List.set_cons_succ]
   refine rg_take 7 66 (.int .i64 y2) _ rfl rfl (by kernel_rfl) (by kernel_rfl) (by kernel_rfl) (fun _ _ _ h => h) (by rfl) (fun w' hw' => ?_) hS (listed' := #[true, false, true, true, true, false, true, true, false, false, false, false, false, false]) (by kernel_rfl) rfl ?_
   ·have f1 := ((BF8.below hw').cell 1).trans rfl; go_simp
   simp only [List.setIfInBounds_toArray, List.set_cons_zero, List.set_cons_succ]
   refine rg_call 1 60 10 #[.agg #[.string sn, .slice (some ⟨g, off, none⟩) mn mc, .slice ea en ec, .slice ta tn tc]] rfl rfl (by kernel_rfl) (by rfl) (listed' := #[true, true, true, true, true, false, true, true, false, false, false, false, false, false]) (by kernel_rfl) (fun W => by go_simp) ?_
   refine (HCS.out _ (hb8.trans (hS.mono hb8.size))).mono ?_
   rintro ee W9 ⟨vs, rfl, hvs, hbW9⟩
   have HVS9 : Hid (ScIn W9 vs s) := hvs
   clear hvs
   have hS0 := hS
   have hS : Below W8.heap.size W8 W9 := hS0.trans (hbW9.mono hS0.size)
   clear hS0 hbW9
   refine ⟨_, rfl, hS, ?_⟩
   simp only [List.setIfInBounds_toArray, List.set_cons_zero, List.set_cons_succ]
   refine rg_call 5 64 11 #[.agg #[.int .i64 K, .int .i64 N, .string S, .slice x1 x2 x3, .slice x4 x5 x6]] rfl rfl (by kernel_rfl) (by rfl) (listed' := #[true, true, true, true, true, true, true, true, false, false, false, false, false, false]) (by kernel_rfl) (fun W => by go_simp) ?_
   refine Calls.mono (HCT.out _ (hb8.trans (hS.mono hb8.size))) ?_
   rintro ee W10 ⟨va, bs10, rfl, hva, hbW10⟩
   have HVA10 : Hid (TrW 6 W10 va t) := hva.trW
   have HVS10 : Hid (ScIn W10 vs s) := HVS9.out.below hbW10
   clear hva
   have hS0 := hS
   have hS : Below W8.heap.size W8 W10 := hS0.trans (hbW10.mono hS0.size)
   clear hS0 hbW10
   refine ⟨_, rfl, hS, ?_⟩
   simp only [List.setIfInBounds_toArray, List.set_cons_zero, List.set_cons_succ]
   refine rg_call 8 67 23 #[vs, .string mnm, va, .int .i64 y2] rfl rfl (by kernel_rfl) (by rfl) (listed' := #[true, true, true, true, true, true, true, true, true, false, false, false, false, false]) (by kernel_rfl) (fun W => by go_simp) ?_
   refine Calls.mono (HGT.out W10 vs va mnm y2 HVS10.out HVA10.out) ?_
   rintro ee W11 ⟨vg, rfl, hvg, hbW11⟩
   rw [HGA.out] at hvg
   rw [HGA.out]
   simp only [Option.getD_some] at hvg
   simp only [Option.isSome_some]
   obtain ⟨qa, qc, hqv, hq1, hq2, -⟩ := RowP.open hvg
   obtain ⟨ql, hql⟩ : ∃ z, ((undL t.es y2).getD (zeroL ⟨y1, y2, y3, y4, y5⟩)).length = z := ⟨_, rfl⟩
   rw [hql] at hqv hq1
   subst hqv
   have HQL : Hid (((undL t.es y2).getD (zeroL ⟨y1, y2, y3, y4, y5⟩)).length = ql) := hql
   have HVG : Hid (TrsR 5 W11 (.slice qa ql qc) ((undL t.es y2).getD (zeroL ⟨y1, y2, y3, y4, y5⟩))) := hvg
   unfold maxLen at hq2
   clear hvg hql
   have hS0 := hS
   have hS : Below W8.heap.size W8 W11 := hS0.trans (hbW11.mono hS0.size)
   clear hS0 hbW11
   refine ⟨_, rfl, hS, ?_⟩
   simp only [List.setIfInBounds_toArray, List.set_cons_zero, List.set_cons_succ]
   refine rg_take 9 58 (.tuple #[.slice qa ql qc, .bool true]) _ rfl rfl (by kernel_rfl) (by kernel_rfl) (by kernel_rfl) (fun _ _ _ h => h) (by rfl) (fun w' hw' => ?_) hS (listed' := #[true, true, true, true, true, true, true, true, true, true, false, false, false, false]) (by kernel_rfl) rfl ?_
   ·go_simp
   simp only [List.setIfInBounds_toArray, List.set_cons_zero, List.set_cons_succ]
   refine rg_take 10 68 (.slice qa ql qc) _ rfl rfl (by kernel_rfl) (by kernel_rfl) (by kernel_rfl) (fun _ _ _ h => h) (by rfl) (fun w' hw' => ?_) hS (listed' := #[true, true, true, true, true, true, true, true, true, true, true, false, false, false]) (by kernel_rfl) rfl ?_
   ·go_simp
   simp only [List.setIfInBounds_toArray, List.set_cons_zero, List.set_cons_succ]
   refine rg_take 11 69 (.bool true) _ rfl rfl (by kernel_rfl) (by kernel_rfl) (by kernel_rfl) (fun _ _ _ h => h) (by rfl) (fun w' hw' => ?_) hS (listed' := #[true, true, true, true, true, true, true, true, true, true, true, true, false, false]) (by kernel_rfl) rfl ?_
   ·go_simp
   simp only [List.setIfInBounds_toArray, List.set_cons_zero, List.set_cons_succ]
   refine rg_take 12 11 (.slice qa ql qc) _ rfl rfl (by kernel_rfl) (by kernel_rfl) (by kernel_rfl) (fun _ _ _ h => h) (by rfl) (fun w' hw' => ?_) hS (listed' := #[true, true, true, true, true, true, true, true, true, true, true, true, true, false]) (by kernel_rfl) rfl ?_
   ·go_simp
   simp only [List.setIfInBounds_toArray, List.set_cons_zero, List.set_cons_succ]
   refine rg_take 13 12 (.bool true) _ rfl rfl (by kernel_rfl) (by kernel_rfl) (by kernel_rfl) (fun _ _ _ h => h) (by rfl) (fun w' hw' => ?_) hS (listed' := #[true, true, true, true, true, true, true, true, true, true, true, true, true, true]) (by kernel_rfl) rfl ?_
   ·go_simp
   simp only [List.setIfInBounds_toArray, List.set_cons_zero, List.set_cons_succ]
   refine wpAnyH_done (by kernel_rfl) ?_ _
   have hb11 : Below W7.heap.size W7 W11 := hb8.trans (hS.mono hb8.size)
   have BT11 := BT8.below hS
   have BF11 := BF8.below hS
   have HTW11 : Hid (TrW 6 W11 (.agg #[.int .i64 K, .int .i64 N, .string S, .slice x1 x2 x3, .slice x4 x5 x6]) t) := HTW7.out.cel (Cel.ofBelow hb11)
   have HHA : Hid (Calls Tryz.prog 28 #[.agg #[.int .i64 K, .int .i64 N, .string S, .slice x1 x2 x3, .slice x4 x5 x6], .int .i64 y2] W11 fun e w' => e = .returned (.bool (hasB t.es y2)) ∧ Below W11.heap.size W11 w') := rhas_any 5 t _ y2 W11 HTW11.out.trIn
   have t0 := (BT11.cell 0).trans rfl
   have t1 := (BT11.cell 1).trans rfl
   have t2 := (BT11.cell 2).trans rfl
   have t3 := (BT11.cell 3).trans rfl
   have t4 := (BT11.cell 4).trans rfl
   have g1 := (BF11.cell 1).trans rfl
   clear hS BS8 BM8 BT8 BF8 HVS9 HVS10 HVA10 hb8
   go_wp2_with fail
   refine HHA.out.mono ?_
   rintro ee W12 ⟨rfl, hb12⟩
   have hb712 : Below W7.heap.size W7 W12 := hb11.trans (hb12.mono hb11.size)
   have BT12 := BT11.below hb12
   have BF12 := BF11.below hb12
   have HVG12 : Hid (TrsR 5 W12 (.slice qa ql qc) ((undL t.es y2).getD (zeroL ⟨y1, y2, y3, y4, y5⟩))) := HVG.out.celT (Cel.ofBelow hb12)
   have HTW12 : Hid (TrW 6 W12 (.agg #[.int .i64 K, .int .i64 N, .string S, .slice x1 x2 x3, .slice x4 x5 x6]) t) := HTW7.out.cel (Cel.ofBelow hb712)
   clear t0 t1 t2 t3 t4 g1 HHA BT11 BF11 hb12 hb11 HTW11 HVG
   cases hA : hasB t.es y2 with
   | true =>
    obtain ⟨e, he, hu⟩ := has_und hA
    have HUN : Hid ((undL t.es y2).getD [] = e.2 ∧ e ∈ t.es) := (⟨by rw [hu]; rfl, he⟩ : (undL t.es y2).getD [] = e.2 ∧ e ∈ t.es)
    have hel : 1 ≤ e.2.length := ents_eachG HFIT.out.1.ents e he
    have hqe : e.2.length = ql := by have h := HQL.out; rw [hu] at h; exact h
    have HG13 : Hid (TrsR 5 W12 (.slice qa ql qc) e.2) := (by have h := HVG12.out; rw [hu] at h; exact h : TrsR 5 W12 (.slice qa ql qc) e.2)
    obtain ⟨x, hx⟩ : ∃ z, e.2[0]? = some z := ⟨_, List.getElem?_eq_getElem (by omega)⟩
    have HX : Hid (e.2[0]? = some x ∧ e.2.length = ql) := ⟨hx, hqe⟩
    have hqp : 0 < ql := by omega
    have HUC : Hid (Calls Tryz.prog 29 #[.agg #[.int .i64 K, .int .i64 N, .string S, .slice x1 x2 x3, .slice x4 x5 x6], .int .i64 y2] W12 fun e' w' => ∃ r, e' = .returned r ∧ TrsIn 5 w' r ((undL t.es y2).getD []) ∧ Below W12.heap.size W12 w') := runder_any 5 t _ y2 W12 HTW12.out.trIn
    have t0 := (BT12.cell 0).trans rfl
    have t1 := (BT12.cell 1).trans rfl
    have t2 := (BT12.cell 2).trans rfl
    have t3 := (BT12.cell 3).trans rfl
    have t4 := (BT12.cell 4).trans rfl
    have g1 := (BF12.cell 1).trans rfl
    clear hA he hu hel hqe hx HVG12 HQL HGA
    go_wp2_with fail
    refine Calls.mono HUC.out ?_
    rintro ee W13 ⟨vu, rfl, hvu, hb13⟩
    rw [HUN.out.1] at hvu
    obtain ⟨ua, uc, huv, hu1, hu2, -⟩ := RowP.open hvu
    rw [HX.out.2] at huv hu1
    subst huv
    have HVU : Hid (TrsIn 5 W13 (.slice ua ql uc) e.2) := hvu
    have hb713 : Below W7.heap.size W7 W13 := hb712.trans (hb13.mono hb712.size)
    have HVG13 : Hid (TrsR 5 W13 (.slice qa ql qc) e.2) := HG13.out.celT (Cel.ofBelow hb13)
    obtain ⟨gq, oq, b1, l1, d1, b2, l2, d2, rfl, p0, p1, p2, p3, p4, hxw⟩ := trsR_get HVG13.out HX.out.1
    obtain ⟨gu, ou, hua, cc⟩ := RowP.get hvu HX.out.1
    subst hua
    obtain ⟨b3, l3, d3, b5, l5, d5, r0, r1, r2, r3, r4, hxi⟩ := trs_get (n := 5) (i := 0) cc
    obtain ⟨XK, hXK⟩ : ∃ z, x.kind = z := ⟨_, rfl⟩
    obtain ⟨XN, hXN⟩ : ∃ z, x.n = z := ⟨_, rfl⟩
    obtain ⟨XS, hXS⟩ : ∃ z, x.s = z := ⟨_, rfl⟩
    rw [hXK, hXN, hXS] at hxw hxi
    rw [hXK] at p0 r0
    rw [hXN] at p1 r1
    rw [hXS] at p2 r2
    rw [Nat.zero_mul, Nat.add_zero] at p0 p1 p2 p3 p4 r0 r1 r2 r3 r4
    have HCE : Hid (∀ W, Below W13.heap.size W13 W → (W.cell? ⟨gq, oq, none⟩ = some (.int .i64 XK) ∧ W.cell? ⟨gq, oq + 1, none⟩ = some (.int .i64 XN) ∧ W.cell? ⟨gq, oq + 2, none⟩ = some (.string XS) ∧ W.cell? ⟨gq, oq + 3, none⟩ = some (.slice b1 l1 d1) ∧ W.cell? ⟨gq, oq + 4, none⟩ = some (.slice b2 l2 d2)) ∧ (W.cell? ⟨gu, ou, none⟩ = some (.int .i64 XK) ∧ W.cell? ⟨gu, ou + 1, none⟩ = some (.int .i64 XN) ∧ W.cell? ⟨gu, ou + 2, none⟩ = some (.string XS) ∧ W.cell? ⟨gu, ou + 3, none⟩ = some (.slice b3 l3 d3) ∧ W.cell? ⟨gu, ou + 4, none⟩ = some (.slice b5 l5 d5))) := fun W hW => by
     have hc := Cel.ofBelow hW
     exact ⟨⟨hc.cell p0, hc.cell p1, hc.cell p2, hc.cell p3, hc.cell p4⟩, hc.cell r0, hc.cell r1, hc.cell r2, hc.cell r3, hc.cell r4⟩
    have HSA : Hid (∀ W, Below W13.heap.size W13 W → Calls Tryz.prog 18 #[.agg #[.int .i64 XK, .int .i64 XN, .string XS, .slice b1 l1 d1, .slice b2 l2 d2], .agg #[.int .i64 XK, .int .i64 XN, .string XS, .slice b3 l3 d3, .slice b5 l5 d5]] W fun e' w' => e' = .returned (.bool true) ∧ Below W.heap.size W w') := fun W hW => (rsame_any 5 5 x x _ _ W (hxw.trIn.below hW) (hxi.below hW)).mono fun e' w' ⟨⟨RR, h1, h2⟩, h3⟩ => ⟨by rw [h1, h2.2 rfl], h3⟩
    clear t0 t1 t2 t3 t4 g1 hvu cc hxw hxi p0 p1 p2 p3 p4 r0 r1 r2 r3 r4 hXK hXN hXS HUC BT12 BF12 HG13 HTW12 hb13
    have dq : ((ql : Int) != (ql : Int)) = false := by simp
    unfold maxLen at hu2
    go_upto_region 14 with fail
    have hS : Below W13.heap.size W13 W13.drew := (Below.refl _ _).drew
    refine wp_region_held_drew (S := fun w' => Below W13.heap.size W13 w') (by kernel_rfl) hS (fun hS => ?_)
    refine rg_take 0 80 (.slice (some ⟨gq, oq, none⟩) ql qc) _ rfl rfl (by kernel_rfl) (by kernel_rfl) (by kernel_rfl) (fun _ _ _ h => h) (by rfl) (fun w' hw' => ?_) hS (listed' := #[true, false, false, false, false, false, false, false, false, false, false, false, false, false, false]) (by kernel_rfl) rfl ?_
    ·go_simp
    simp only [List.setIfInBounds_toArray, List.set_cons_zero, List.set_cons_succ]
    refine rg_take 1 81 (.int .i64 (ql : Int)) _ rfl rfl (by kernel_rfl) (by kernel_rfl) (by kernel_rfl) (fun _ _ _ h => h) (by rfl) (fun w' hw' => ?_) hS (listed' := #[true, true, false, false, false, false, false, false, false, false, false, false, false, false, false]) (by kernel_rfl) rfl ?_
    ·go_simp
    simp only [List.setIfInBounds_toArray, List.set_cons_zero, List.set_cons_succ]
    refine rg_take 2 82 (.slice (some ⟨gu, ou, none⟩) ql uc) _ rfl rfl (by kernel_rfl) (by kernel_rfl) (by kernel_rfl) (fun _ _ _ h => h) (by rfl) (fun w' hw' => ?_) hS (listed' := #[true, true, true, false, false, false, false, false, false, false, false, false, false, false, false]) (by kernel_rfl) rfl ?_
    ·go_simp
    simp only [List.setIfInBounds_toArray, List.set_cons_zero, List.set_cons_succ]
    refine rg_take 3 83 (.int .i64 (ql : Int)) _ rfl rfl (by kernel_rfl) (by kernel_rfl) (by kernel_rfl) (fun _ _ _ h => h) (by rfl) (fun w' hw' => ?_) hS (listed' := #[true, true, true, true, false, false, false, false, false, false, false, false, false, false, false]) (by kernel_rfl) rfl ?_
    ·go_simp
    simp only [List.setIfInBounds_toArray, List.set_cons_zero, List.set_cons_succ]
    refine rg_take 4 84 (.bool false) _ rfl rfl (by kernel_rfl) (by kernel_rfl) (by kernel_rfl) (fun _ _ _ h => h) (by rfl) (fun w' hw' => ?_) hS (listed' := #[true, true, true, true, true, false, false, false, false, false, false, false, false, false, false]) (by kernel_rfl) rfl ?_
    ·go_simp
    simp only [List.setIfInBounds_toArray, List.set_cons_zero, List.set_cons_succ]
    refine rg_take 5 85 (.bool false) _ rfl rfl (by kernel_rfl) (by kernel_rfl) (by kernel_rfl) (fun _ _ _ h => h) (by rfl) (fun w' hw' => ?_) hS (listed' := #[true, true, true, true, true, true, false, false, false, false, false, false, false, false, false]) (by kernel_rfl) rfl ?_
    ·go_simp
    simp only [List.setIfInBounds_toArray, List.set_cons_zero, List.set_cons_succ]
    refine rg_take 6 86 (.slice (some ⟨gq, oq, none⟩) ql qc) _ rfl rfl (by kernel_rfl) (by kernel_rfl) (by kernel_rfl) (fun _ _ _ h => h) (by rfl) (fun w' hw' => ?_) hS (listed' := #[true, true, true, true, true, true, true, false, false, false, false, false, false, false, false]) (by kernel_rfl) rfl ?_
    ·go_simp
    simp only [List.setIfInBounds_toArray, List.set_cons_zero, List.set_cons_succ]
    refine rg_take 7 87 (.pointer (some ⟨gq, oq, none⟩)) _ rfl rfl (by kernel_rfl) (by kernel_rfl) (by kernel_rfl) (fun _ _ _ h => h) (by rfl) (fun w' hw' => ?_) hS (listed' := #[true, true, true, true, true, true, true, true, false, false, false, false, false, false, false]) (by kernel_rfl) rfl ?_
    ·go_simp
    simp only [List.setIfInBounds_toArray, List.set_cons_zero, List.set_cons_succ]
    refine rg_take 8 88 (.agg #[.int .i64 XK, .int .i64 XN, .string XS, .slice b1 l1 d1, .slice b2 l2 d2]) _ rfl rfl (by kernel_rfl) (by kernel_rfl) (by kernel_rfl) (fun _ _ _ h => h) (by rfl) (fun w' hw' => ?_) hS (listed' := #[true, true, true, true, true, true, true, true, true, false, false, false, false, false, false]) (by kernel_rfl) rfl ?_
    ·obtain ⟨⟨f0, f1, f2, f3, f4⟩, -⟩ := HCE.out _ hw'; go_simp
    simp only [List.setIfInBounds_toArray, List.set_cons_zero, List.set_cons_succ]
    refine rg_take 9 89 (.slice (some ⟨gu, ou, none⟩) ql uc) _ rfl rfl (by kernel_rfl) (by kernel_rfl) (by kernel_rfl) (fun _ _ _ h => h) (by rfl) (fun w' hw' => ?_) hS (listed' := #[true, true, true, true, true, true, true, true, true, true, false, false, false, false, false]) (by kernel_rfl) rfl ?_
    ·go_simp
    simp only [List.setIfInBounds_toArray, List.set_cons_zero, List.set_cons_succ]
    refine rg_take 10 90 (.pointer (some ⟨gu, ou, none⟩)) _ rfl rfl (by kernel_rfl) (by kernel_rfl) (by kernel_rfl) (fun _ _ _ h => h) (by rfl) (fun w' hw' => ?_) hS (listed' := #[true, true, true, true, true, true, true, true, true, true, true, false, false, false, false]) (by kernel_rfl) rfl ?_
    ·go_simp
    simp only [List.setIfInBounds_toArray, List.set_cons_zero, List.set_cons_succ]
    refine rg_take 11 91 (.agg #[.int .i64 XK, .int .i64 XN, .string XS, .slice b3 l3 d3, .slice b5 l5 d5]) _ rfl rfl (by kernel_rfl) (by kernel_rfl) (by kernel_rfl) (fun _ _ _ h => h) (by rfl) (fun w' hw' => ?_) hS (listed' := #[true, true, true, true, true, true, true, true, true, true, true, true, false, false, false]) (by kernel_rfl) rfl ?_
    ·obtain ⟨-, f0, f1, f2, f3, f4⟩ := HCE.out _ hw'; go_simp
    simp only [List.setIfInBounds_toArray, List.set_cons_zero, List.set_cons_succ]
    refine rg_call 12 92 18 #[.agg #[.int .i64 XK, .int .i64 XN, .string XS, .slice b1 l1 d1, .slice b2 l2 d2], .agg #[.int .i64 XK, .int .i64 XN, .string XS, .slice b3 l3 d3, .slice b5 l5 d5]] rfl rfl (by kernel_rfl) (by rfl) (listed' := #[true, true, true, true, true, true, true, true, true, true, true, true, true, false, false]) (by kernel_rfl) (fun W => by go_simp) ?_
    refine (HSA.out _ hS).mono ?_
    rintro ee W14 ⟨rfl, hbW14⟩
    have hS0 := hS
    have hS : Below W13.heap.size W13 W14 := hS0.trans (hbW14.mono hS0.size)
    clear hS0 hbW14
    refine ⟨_, rfl, hS, ?_⟩
    simp only [List.setIfInBounds_toArray, List.set_cons_zero, List.set_cons_succ]
    refine rg_take 13 93 (.bool false) _ rfl rfl (by kernel_rfl) (by kernel_rfl) (by kernel_rfl) (fun _ _ _ h => h) (by rfl) (fun w' hw' => ?_) hS (listed' := #[true, true, true, true, true, true, true, true, true, true, true, true, true, true, false]) (by kernel_rfl) rfl ?_
    ·go_simp
    simp only [List.setIfInBounds_toArray, List.set_cons_zero, List.set_cons_succ]
    refine rg_take 14 94 (.bool false) _ rfl rfl (by kernel_rfl) (by kernel_rfl) (by kernel_rfl) (fun _ _ _ h => h) (by rfl) (fun w' hw' => ?_) hS (listed' := #[true, true, true, true, true, true, true, true, true, true, true, true, true, true, true]) (by kernel_rfl) rfl ?_
    ·go_simp
    simp only [List.setIfInBounds_toArray, List.set_cons_zero, List.set_cons_succ]
    refine wpAnyH_done (by kernel_rfl) ?_ _
    have hb714 : Below W7.heap.size W7 W14 := hb713.trans (hS.mono hb713.size)
    clear hS HCE HSA HVU HVG13 dq HUN
    go_wp2_with fail
    go_roundw
    case rel => exact ⟨i + 1, by go_num, by omega, hb714⟩
    case measure => simp [intOf]; omega
   | false =>
    have hu := has_none hA
    rw [hu] at HVG12 HQL
    simp only [Option.getD_none] at HVG12 HQL
    have g2 := (BF12.cell 2).trans rfl
    clear hA hu HGA BT12 HTW12
    by_cases hl1 : y3 = 1
    ·subst hl1
     obtain ⟨KT, hKT⟩ : ∃ z, kindT y4 = z := ⟨_, rfl⟩
     have hk3 : KT = 1 ∨ KT = 2 ∨ KT = 3 := by rw [← hKT]; exact kindT_some HKD.out
     have hzl : zeroL ⟨y1, y2, 1, y4, y5⟩ = [⟨KT, 0, ⟨#[]⟩, [], []⟩] := by
      show (if (1 : Int) = 1 ∧ kindT y4 ≠ 0 then [(⟨kindT y4, 0, ⟨#[]⟩, [], []⟩ : Tr)] else []) = _
      rw [if_pos ⟨rfl, by rw [hKT]; omega⟩, hKT]
     rw [hzl] at HVG12 HQL
     have hq1' : (1 : Nat) = ql := HQL.out
     subst hq1'
     obtain ⟨gq, oq, b1, l1, d1, b2, l2, d2, rfl, p0, p1, p2, p3, p4, hxw⟩ := trsR_get (i := 0) HVG12.out rfl
     obtain ⟨-, -, -, k4, k5⟩ := hxw.parts
     have k4' : l1 = 0 := k4.symm
     have k5' : l2 = 0 := k5.symm
     subst k4' k5'
     have HZE : Hid (Calls Tryz.prog 16 #[.agg #[.int .i64 KT, .int .i64 0, .string ⟨#[]⟩, .slice b1 0 d1, .slice b2 0 d2]] W12 fun e' w' => e' = .returned (.bool true) ∧ Below W12.heap.size W12 w') := (by
      have h1 := zero_any ⟨KT, 0, ⟨#[]⟩, [], []⟩ b1 b2 0 d1 0 d2 W12 rfl rfl
      have h2 : zroB ⟨KT, 0, ⟨#[]⟩, [], []⟩ = true := by
       rcases hk3 with rfl | rfl | rfl <;> decide
      rw [h2] at h1
      exact h1 : Calls Tryz.prog 16 #[.agg #[.int .i64 KT, .int .i64 0, .string ⟨#[]⟩, .slice b1 0 d1, .slice b2 0 d2]] W12 fun e' w' => e' = .returned (.bool true) ∧ Below W12.heap.size W12 w')
     rw [Nat.zero_mul, Nat.add_zero] at p0 p1 p2 p3 p4
     clear hxw k4 k5 hzl hKT hk3 HVG12 HQL
     go_wp2_with fail
     refine HZE.out.mono ?_
     rintro ee W13 ⟨rfl, hb13⟩
     have hb713 : Below W7.heap.size W7 W13 := hb712.trans (hb13.mono hb712.size)
     have g3 := ((BF12.below hb13).cell 2).trans rfl
     clear p0 p1 p2 p3 p4 g2 HZE hb13
     go_wp2_with fail
     go_roundw
     case rel => exact ⟨i + 1, by go_num, by omega, hb713⟩
     case measure => simp [intOf]; omega
    ·have hzl : zeroL ⟨y1, y2, y3, y4, y5⟩ = [] := by
      unfold zeroL
      rw [if_neg (fun h => hl1 h.1)]
     rw [hzl] at HVG12 HQL
     have hq1' : (0 : Nat) = ql := HQL.out
     subst hq1'
     have dl : (y3 == 1) = false := by simpa using hl1
     have dn : (y3 != 1) = true := by simpa using hl1
     clear hzl HVG12 HQL hl1
     go_wp2_with fail
     go_roundw
     case rel => exact ⟨i + 1, by go_num, by omega, hb712⟩
     case measure => simp [intOf]; omega
  ·have dlt : decide ((i : Int) < (fl : Int)) = false := by simp; omega
   have hbwr : Below w.heap.size w wr := hbw7.trans (hbr.mono hbw7.size)
   have HT8 : Hid (TrW 6 wr (.agg #[.int .i64 K, .int .i64 N, .string S, .slice x1 x2 x3, .slice x4 x5 x6]) t) := HTW7.out.cel (Cel.ofBelow hbr)
   have HG8 : Hid (Calls Tryz.prog 23 #[.agg #[.string sn, .slice (some ⟨g, off, none⟩) mn mc, .slice ea en ec, .slice ta tn tc], .string mnm, .agg #[.int .i64 K, .int .i64 N, .string S, .slice x1 x2 x3, .slice x4 x5 x6], .int .i64 501] wr (GetP 4 s mnm t 501 wr)) := HGT.out wr _ _ mnm 501 (HSL.out.1.below hbwr) HT8.out
   have s0 := (BS.cell 0).trans rfl
   have s1 := (BS.cell 1).trans rfl
   have s2 := (BS.cell 2).trans rfl
   have s3 := (BS.cell 3).trans rfl
   have m0 := (BM.cell 0).trans rfl
   have t0 := (BT.cell 0).trans rfl
   have t1 := (BT.cell 1).trans rfl
   have t2 := (BT.cell 2).trans rfl
   have t3 := (BT.cell 3).trans rfl
   have t4 := (BT.cell 4).trans rfl
   go_wp2_with fail
   refine Calls.mono HG8.out ?_
   rintro ee w8 ⟨v8, rfl, hv8, hb8⟩
   rw [HG5.out] at hv8
   rw [HG5.out]
   simp only [Option.isSome_none]
   obtain ⟨qa, qc, hqv, -⟩ := RowP.open hv8
   subst hqv
   simp only [Option.getD_none, List.length_nil]
   have hbr8 : Below W7.heap.size W7 w8 := hbr.trans (hb8.mono hbr.size)
   have hbw8 : Below w.heap.size w w8 := hbwr.trans (hb8.mono hbwr.size)
   have BS8 := BS.below hb8
   have BT8 := BT.below hb8
   have HG9 : Hid (Calls Tryz.prog 23 #[.agg #[.string sn, .slice (some ⟨g, off, none⟩) mn mc, .slice ea en ec, .slice ta tn tc], .string ⟨#[110, 111, 98, 111, 100, 121, 32, 97, 116, 32, 97, 108, 108]⟩, .agg #[.int .i64 K, .int .i64 N, .string S, .slice x1 x2 x3, .slice x4 x5 x6], .int .i64 1] w8 (GetP 4 s ⟨#[110, 111, 98, 111, 100, 121, 32, 97, 116, 32, 97, 108, 108]⟩ t 1 w8)) := HGT.out w8 _ _ _ 1 (HSL.out.1.below hbw8) (HT8.out.cel (Cel.ofBelow hb8))
   clear s0 s1 s2 s3 m0 t0 t1 t2 t3 t4 m1 dlt hv8 hb8 BS BM BT hbr HG8
   have s0 := (BS8.cell 0).trans rfl
   have s1 := (BS8.cell 1).trans rfl
   have s2 := (BS8.cell 2).trans rfl
   have s3 := (BS8.cell 3).trans rfl
   have t0 := (BT8.cell 0).trans rfl
   have t1 := (BT8.cell 1).trans rfl
   have t2 := (BT8.cell 2).trans rfl
   have t3 := (BT8.cell 3).trans rfl
   have t4 := (BT8.cell 4).trans rfl
   go_wp2_with fail
   refine Calls.mono HG9.out ?_
   rintro ee w9 ⟨v9, rfl, hv9, hb9⟩
   rw [HGN.out] at hv9
   rw [HGN.out]
   simp only [Option.isSome_none]
   obtain ⟨qa2, qc2, hqv, -⟩ := RowP.open hv9
   subst hqv
   simp only [Option.getD_none, List.length_nil]
   have hbw9 : Below w.heap.size w w9 := hbw8.trans (hb9.mono hbw8.size)
   clear s0 s1 s2 s3 t0 t1 t2 t3 t4 hv9 hb9 BS8 BT8 HG9 hbr8 hbw8
   go_wp2_with fail
   refine (awake_any _).mono ?_
   rintro e wz ⟨rfl, hbz⟩
   have hbwz : Below w.heap.size w wz := hbw9.trans (hbz.mono hbw9.size)
   clear hbz
   go_wp2_with fail
   go_ret
   exact ⟨rfl, hbwz⟩
end Go.Proofs.YtfnjbbaphmmjlaaGreat
namespace Go.Proofs.YtfnjbbaphmmjlaaGreat.LValidGets
open Go.ChangeShapes Go.WideShapes Go.ChangeAt Go.RowKit
open Go.ChangeMaps (open_string shut_string)
set_option linter.unusedVariables false
set_option linter.unusedSimpArgs false
theorem own : ownKnob Tryz.prog.godebug = none := by kernel_rfl
theorem laidOut : laidOutB Tryz.prog = true := by kernel_rfl
set_option maxRecDepth 100000 in
theorem lifted (os : Os) (started : os.Started) (H : Type) (enc : TypeId × Value → H) :
  ReturnsInHanded {} Tryz.checked os 5 .any (Rows.validGetsSpec.pre6 enc Tryz.prog Tryz.f5 Rows.validGetsRow.domain false) (Rows.validGetsSpec.post enc Tryz.prog Tryz.f5 false true false false) := by
 refine returnsInHanded_of_change_sized (C := Tryz.checked) own started (by kernel_rfl) Tryz.func5
  (ChangeSpec.witness6 (enc := enc) (C := Tryz.checked) false ⟨#[], #[.agg #[.string ByteArray.empty, .slice none 0 0, .slice none 0 0, .slice none 0 0], .int .i64 0, .slice none 0 0], []⟩ 8 (by kernel_rfl) (by kernel_rfl) (by kernel_rfl) (by kernel_rfl)) ?_
 intro W base args ds gs before hval0 hW hcnd hsz0 _
 have hval : ∀ (j : Nat) t v, Tryz.f5.params[j]? = some t → args[j]? = some v → Value.okWide Tryz.prog W .any base t v := hval0
 have hsz : (DataW.weightsEach Tryz.prog (Tryz.f5.params.toList ++ Rows.validGetsSpec.plain.varTypes Tryz.prog) (ds ++ gs)).all (· ≤ reachBytes) = true := hsz0
 have hW' := hW
 obtain ⟨p, q, hA0, hV, rfl, hfz, hnd⟩ := hW
 have hA : DataW.TrodAll enc Tryz.prog W 0 (fun _ => true) true Tryz.f5.params.toList args.toList ds p := hA0
 rw [Tryz.params5] at hA hval hsz
 obtain ⟨v0, vs0, d0, ds0, p0, q0, hargs, rfl, rfl, h0, r0⟩ := trodAll_cons hA
 obtain ⟨v1, vs1, d1, ds1, p1, q1, rfl, rfl, rfl, h1, r1⟩ := trodAll_cons r0
 obtain ⟨v2, vs2, d2, ds2, p2, q2, rfl, rfl, rfl, h2, r2⟩ := trodAll_cons r1
 obtain ⟨rfl, rfl, rfl⟩ := trodAll_nil r2
 obtain rfl : args = #[v0, v1, v2] := by cases args; simp_all
 obtain ⟨rfl, rfl⟩ := trodVars_none hV
 have k0 := h0
 have lt0 : ∀ x ∈ p0, x.block < W.heap.size := by obtain ⟨m, hm⟩ := k0; exact DataW.trod_lt m _ _ _ hm
 obtain ⟨z0, w0, b0⟩ := schema_in (hval 0 26 v0 rfl rfl) h0 (lite_each (fun n hn => by have := List.all_eq_true.1 hsz n hn; exact of_decide_eq_true this) (j := 0) rfl rfl)
 obtain ⟨a1, rfl, rfl, rfl, w1⟩ := open_int Tryz.underlying3 (hval 1 3 v1 rfl rfl) h1
 obtain ⟨a2, len2, cap2, rfl⟩ := okWide_slice Tryz.underlying47 (hval 2 47 v2 rfl rfl)
 have k2 := h2
 have lt2 : ∀ x ∈ p2, x.block < W.heap.size := by obtain ⟨m, hm⟩ := k2; exact DataW.trod_lt m _ _ _ hm
 obtain ⟨z2, w2, b2⟩ : ∃ zs, IsRow .i64 W a2 len2 cap2 zs ∧ cap2 * Tryz.prog.bytesOf 3 ≤ 140737488351232 := by
  obtain ⟨fuel, hf⟩ := h2
  rcases open_ints Tryz.underlying47 Tryz.underlying3 (by kernel_rfl) hf with ⟨hcs, _⟩ | ⟨x, l, c, zs, hcs, _, hl, hm, hz, hx, hcell, hwz⟩
  ·simp [Value.cells] at hcs
   obtain ⟨rfl, rfl, rfl⟩ := hcs
   exact ⟨[], .inl ⟨rfl, rfl, rfl, rfl⟩, by simp⟩
  ·simp [Value.cells] at hcs
   obtain ⟨rfl, rfl, rfl⟩ := hcs
   refine ⟨zs, .inr ⟨_, rfl, hl, hm, by simpa using hz, hcell, hwz⟩, ?_⟩
   simp only [Prod.mk.injEq] at hx
   have hd := hx.1
   subst hd
   have := sized_slice hsz (j := 2) (t := 47) (e := 3) rfl rfl Tryz.underlying47
   simp only [lits, List.length_map, List.length_take, List.length_drop, reachBytes] at this
   have e0 : zs.length = cap2 := by simpa using hz
   have e1 : min len2 zs.length + (zs.length - len2) = cap2 := by omega
   rw [e1] at this
   exact this
 clear hA0 hval0 hsz0
 refine (validGets_walk v0 z0 a1 a2 len2 cap2 z2 W w0 b0 w1 w2 b2).mono fun e W' ⟨he, bel⟩ => ?_
 subst he
 exact ⟨_, rfl, _, _, _, [], _, [], hW', trodAll_mk1 (shut_bool Tryz.underlying4 _), (trodAll_cons_mk (Below.trod laidOut (by kernel_rfl) (of_decide_eq_true (by kernel_rfl)) k0 bel lt0) (trodAll_cons_mk (shut_int Tryz.underlying3 w1) (trodAll_cons_mk (Below.trod laidOut (by kernel_rfl) (of_decide_eq_true (by kernel_rfl)) k2 bel lt2) trodAll_mk0))), rfl, bel.frame _, fun h => by cases h⟩
end Go.Proofs.YtfnjbbaphmmjlaaGreat.LValidGets
namespace Go.Proofs.YtfnjbbaphmmjlaaGreat
theorem validGets_holds : Rows.ValidGetsSaid :=
 OpenClaim.holds_of_wide 5 Tryz.f5 rfl rfl rfl rfl rfl rfl rfl ⟨rfl, rfl, rfl, rfl, rfl⟩ rfl rfl rfl rfl rfl (by kernel_rfl) Tryz.func5 (by kernel_rfl)
  (of_decide_eq_true (by kernel_rfl)) (by unfold Func.isWrapper; first | (rw [if_pos (by decide +kernel)]; kernel_rfl) | (rw [if_neg (by decide +kernel)]; exact ⟨rfl, rfl⟩))
  (fun os started H enc _ => LValidGets.lifted os started H enc)
#print axioms validGets_holds
end Go.Proofs.YtfnjbbaphmmjlaaGreat
