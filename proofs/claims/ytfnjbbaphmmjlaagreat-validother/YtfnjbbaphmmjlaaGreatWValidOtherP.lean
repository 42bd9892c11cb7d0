/- ValidOther answers true at every schema, list of numbers and place. -/
import Derived.Test.YtfnjbbaphmmjlaaGreatPkL
import Derived.Test.YtfnjbbaphmmjlaaGreatPkQ
import Derived.Test.YtfnjbbaphmmjlaaGreatPkV
import Derived.Test.YtfnjbbaphmmjlaaGreatPkW
import Derived.Test.YtfnjbbaphmmjlaaGreatPkX
import Derived.Deep.Cut
import Derived.Deep.CutRange
namespace Go.Proofs.YtfnjbbaphmmjlaaGreat
open Go.ChangeShapes Go.WideShapes Go.ChangeAt Go.RowKit
set_option linter.unusedVariables false
set_option linter.unusedSimpArgs false
set_option maxRecDepth 20000

theorem typeB_kind {mn en : List ByteArray} {k : Int} {t : ByteArray} (h : typeB mn en k t = true) : 1 ≤ k ∧ k ≤ 7 := by
  unfold typeB at h
  by_cases h1 : 1 ≤ k ∧ k ≤ 7
  · exact h1
  · exfalso
    revert h
    simp
    intros
    omega
theorem ok_kinds {s : ScS} (h : OkS s) : ∀ m ∈ s.msgs, ∀ f ∈ m.fields, 1 ≤ f.kind ∧ f.kind ≤ 7 := fun m hm f hf => typeB_kind ((h.msgs m hm).2.2.2.2.1 f hf).1.2.2.2
theorem mtr_len3 (ms : List MtS) : ∀ r ∈ mtRows ms, r.length = 3 := fun r hr => by
  simp only [mtRows, List.mem_map] at hr
  obtain ⟨_, _, rfl⟩ := hr
  rfl
theorem schemaC_any {w : World} {v : Value} {s : ScS} (hr : ScIn w v s) (hf : FewL s) : Calls Tryz.prog 10 #[v] w fun e w' => ∃ r, e = .returned r ∧ ScIn w' r s ∧ Below w.heap.size w w' :=
  (schema_any hr hf).mono fun e w' ⟨vm, ve, vt, pm, pe, h1, h2, h3, h4, h5⟩ => ⟨_, h1, ⟨vm, ve, vt, rfl, h2.to_in, h3.to_in, (RowG.own (mtr_len3 _) (by decide) h4).1⟩, h5⟩
theorem TrO.numLeaf (n B : Nat) (W : World) : TrO (n + 1) B W [.int .i64 1, .int .i64 1, .string ⟨#[]⟩, .slice none 0 0, .slice none 0 0] ⟨1, 1, ⟨#[]⟩, [], []⟩ [] :=
  ⟨_, _, [], [], rfl, ⟨by decide, by decide⟩, ⟨by decide, by decide⟩, by decide, (fun f hf => by cases hf), World.ownsRow_nil _ _ _ _, RowO.nil _ _ _ _ _, rfl⟩
theorem TrO.txtLeaf (n B : Nat) (W : World) : TrO (n + 1) B W [.int .i64 2, .int .i64 0, .string ⟨#[97]⟩, .slice none 0 0, .slice none 0 0] ⟨2, 0, ⟨#[97]⟩, [], []⟩ [] :=
  ⟨_, _, [], [], rfl, ⟨by decide, by decide⟩, ⟨by decide, by decide⟩, by decide, (fun f hf => by cases hf), World.ownsRow_nil _ _ _ _, RowO.nil _ _ _ _ _, rfl⟩
theorem oth_sm {n : Nat} {t : Tr} (h : SmN (n + 2) t) (i : Nat) (e : Int × List Tr) (o : Tr) (hi : t.es[i]? = some e) (ho : SmN (n + 1) o) : SmN (n + 2) (othT t i e (List.replicate e.2.length o)) := by
  obtain ⟨h1, h2, h3, h4, h5⟩ := h
  refine ⟨h1, h2, by show (t.es.set i _).length ≤ 500; rw [List.length_set]; exact h3, h4, fun x hx => ?_⟩
  rcases List.mem_or_eq_of_mem_set hx with hx | rfl
  · exact h5 x hx
  · refine ⟨by rw [List.length_replicate]; exact (h5 e (List.mem_of_getElem? hi)).1, fun y hy => ?_⟩
    rw [List.eq_of_mem_replicate hy]
    exact ho
theorem cnt_set : ∀ {es : List (Int × List Tr)} {i : Nat} {e : Int × List Tr} {ts : List Tr} (f : Tr → Nat), es[i]? = some e → ((subs (es.set i (e.1, ts))).map f).sum ≤ ((subs es).map f).sum + (ts.map f).sum
  | [], i, _, _, f, h => by simp at h
  | a :: l, 0, e, ts, f, h => by
    simp only [List.set_cons_zero, subs, List.flatMap_cons, List.map_append, List.sum_append]
    omega
  | a :: l, i + 1, e, ts, f, h => by
    have := cnt_set (es := l) (i := i) (ts := ts) f (by simpa using h)
    simp only [List.set_cons_succ, subs, List.flatMap_cons, List.map_append, List.sum_append] at this ⊢
    omega
theorem oth_cnt {n : Nat} {t : Tr} (h : cntN (n + 2) t ≤ 180) (i : Nat) (e : Int × List Tr) (o : Tr) (hi : t.es[i]? = some e) (hl : e.2.length ≤ 70) (ho : cntN (n + 1) o = 1) : cntN (n + 2) (othT t i e (List.replicate e.2.length o)) ≤ 1000 := by
  simp only [cntN] at h ⊢
  have := cnt_set (ts := List.replicate e.2.length o) (cntN (n + 1)) hi
  have h2 : ((List.replicate e.2.length o).map (cntN (n + 1))).sum = e.2.length := by
    rw [List.map_replicate, ho]; simp
  rw [h2] at this
  have h3 : ((subs (othT t i e (List.replicate e.2.length o)).es).map (cntN (n + 1))).sum ≤ ((subs t.es).map (cntN (n + 1))).sum + e.2.length := this
  simp only [cntN] at h3
  omega
set_option maxHeartbeats 8000000 in
theorem validOther_walk (v : Value) (s : ScS) (which : Int) (la : Option Addr) (L lc : Nat) (zs : List Int) (at0 : Int) (w : World) (hr : ScIn w v s) (hw : ScW s) (g1 : (Lit.int .i64 which).wf = true) (hI : IsRow .i64 w la L lc zs) (hcap : lc * Tryz.prog.bytesOf 3 ≤ 140737488351232) (g3 : (Lit.int .i64 at0).wf = true) :
    Calls Tryz.prog 6 #[v, .int .i64 which, .slice la L lc, .int .i64 at0] w fun e w' => e = .returned (.bool true) ∧ Below w.heap.size w w' := by
  obtain ⟨i1, i2⟩ := bounds_i64 g1
  obtain ⟨t1, t2⟩ := bounds_i64 g3
  obtain ⟨hRl, hLl⟩ := hI.rowG
  have HRL : Hid (RowG w (.slice la L lc) 1 (inRows (zs.take L)) ∧ (zs.take L).length = L) := ⟨hRl, hLl⟩
  have hs' := hr
  obtain ⟨vm, ve, vt, rfl, hms, hen, hmt⟩ := hr
  obtain ⟨ma, mc, rfl, hmc1, hmc2, -⟩ := hms.open
  obtain ⟨ea, ec, rfl, -⟩ := hen.open
  obtain ⟨ta, tn, tc, rfl⟩ := row_slice hmt
  obtain ⟨mn, hmn⟩ : ∃ z, s.msgs.length = z := ⟨_, rfl⟩
  obtain ⟨en, hen'⟩ : ∃ z, s.enums.length = z := ⟨_, rfl⟩
  obtain ⟨sn, hsn⟩ : ∃ z, s.name = z := ⟨_, rfl⟩
  rw [hmn, hen', hsn] at hs' ⊢
  rw [hmn] at hmc1 hms
  unfold maxLen at hmc2
  have HMN : Hid (s.msgs.length = mn) := hmn
  have HSC : Hid (ScIn w (.agg #[.string sn, .slice ma mn mc, .slice ea en ec, .slice ta tn tc]) s) := hs'
  have HMS : Hid (MsIn w (.slice ma mn mc) s.msgs) := hms
  have HSW : Hid (ScW s) := hw
  have al : Below w.heap.size w (w.alloc (Obj.cells #[.string sn, .slice ma mn mc, .slice ea en ec, .slice ta tn tc] 26)) := (Below.refl _ _).alloc (Nat.le_refl _) _
  have BS : Blk (w.alloc (Obj.cells #[.string sn, .slice ma mn mc, .slice ea en ec, .slice ta tn tc] 26)) w.heap.size #[.string sn, .slice ma mn mc, .slice ea en ec, .slice ta tn tc] 26 := Blk.new w _ _
  have HFW : Hid (Calls Tryz.prog 7 #[.agg #[.string sn, .slice ma mn mc, .slice ea en ec, .slice ta tn tc]] (w.alloc (Obj.cells #[.string sn, .slice ma mn mc, .slice ea en ec, .slice ta tn tc] 26)) fun e w' => FewP s e ∧ Below (w.alloc (Obj.cells #[.string sn, .slice ma mn mc, .slice ea en ec, .slice ta tn tc] 26)).heap.size (w.alloc (Obj.cells #[.string sn, .slice ma mn mc, .slice ea en ec, .slice ta tn tc] 26)) w') := few_any (hs'.below al) hw
  clear hRl hLl hI hcap hs' hms hen hmt hmn hen' hsn hw g1
  go_enter Tryz.func6, Tryz.ntmps6
  go_wp2_with fail
  refine HFW.out.mono ?_
  rintro e w2 ⟨hfw, hb2⟩
  have hbw2 : Below w.heap.size w w2 := al.trans (hb2.mono al.size)
  have BS2 := BS.below hb2
  clear hb2 al BS HFW
  rcases hfw with rfl | ⟨rfl, hfs⟩
  · clear BS2
    go_wp2_with fail
    refine (awake_any _).mono ?_
    rintro e wz ⟨rfl, hbz⟩
    have hbwz : Below w.heap.size w wz := hbw2.trans (hbz.mono hbw2.size)
    clear hbz
    go_wp2_with fail
    go_ret
    exact ⟨rfl, hbwz⟩
  have HFS : Hid (FewS s) := hfs
  have HRK : Hid (Calls Tryz.prog 21 #[.agg #[.string sn, .slice ma mn mc, .slice ea en ec, .slice ta tn tc]] w2 fun e w' => e = .returned (.int .i64 (checkA s)) ∧ Below w2.heap.size w2 w') := rcheck_any (HSC.out.below hbw2) hfs
  have s0 := (BS2.cell 0).trans rfl
  have s1 := (BS2.cell 1).trans rfl
  have s2 := (BS2.cell 2).trans rfl
  have s3 := (BS2.cell 3).trans rfl
  clear hfs
  go_wp2_with fail
  refine HRK.out.mono ?_
  rintro e w3 ⟨rfl, hb3⟩
  have hbw3 : Below w.heap.size w w3 := hbw2.trans (hb3.mono hbw2.size)
  have BS3 := BS2.below hb3
  clear hb3 hbw2 BS2 HRK s0 s1 s2 s3
  obtain ⟨A, hA⟩ : ∃ z, checkA s = z := ⟨_, rfl⟩
  have HA : Hid (checkA s = A) := hA
  rw [hA]
  clear hA
  by_cases hA0 : A = 0
  rotate_left
  · have d : (A != 0) = true := by simpa using hA0
    clear hA0 BS3
    go_wp2_with fail
    refine (awake_any _).mono ?_
    rintro e wz ⟨rfl, hbz⟩
    have hbwz : Below w.heap.size w wz := hbw3.trans (hbz.mono hbw3.size)
    clear hbz
    go_wp2_with fail
    go_ret
    exact ⟨rfl, hbwz⟩
  subst hA0
  have HOK : Hid (OkS s) := (checkA_ok s).1 HA.out
  by_cases hL2 : 200 < L
  · have d : decide (200 < (L : Int)) = true := by simp; omega
    clear BS3
    go_wp2_with fail
    refine (awake_any _).mono ?_
    rintro e wz ⟨rfl, hbz⟩
    have hbwz : Below w.heap.size w wz := hbw3.trans (hbz.mono hbw3.size)
    clear hbz
    go_wp2_with fail
    go_ret
    exact ⟨rfl, hbwz⟩
  have d : decide (200 < (L : Int)) = false := by simp; omega
  have hmn1 : 0 < mn := by have := HOK.out.some; rw [HMN.out] at this; exact this
  have hmn2 : mn ≤ 14 := by have := HFS.out.msgs; rw [HMN.out] at this; exact this
  obtain ⟨hp1, hp2⟩ := placeI_in which (mn : Int) (by omega)
  obtain ⟨k, hk⟩ : ∃ z : Nat, placeI which (mn : Int) = (z : Int) := ⟨(placeI which (mn : Int)).toNat, by omega⟩
  have hkm : k < mn := by omega
  have HPL : Hid (∀ W, Calls Tryz.prog 25 #[.int .i64 which, .int .i64 (mn : Int)] W fun e w1 => e = .returned (.int .i64 (k : Int)) ∧ w1 = W) := fun W => by
    have h1 := place_is which (mn : Int) i1 i2 (by omega) (by omega) W
    rw [hk] at h1
    exact h1
  obtain ⟨m, hm⟩ : ∃ x, s.msgs[k]? = some x := ⟨_, List.getElem?_eq_getElem (by rw [HMN.out]; exact hkm)⟩
  have HM : Hid (s.msgs[k]? = some m) := hm
  obtain ⟨g, off, vf, vr, rfl, c0, c1, c2, hrf, hrr⟩ := HMS.out.get hm
  have HRF : Hid (RowG w vf 5 (flRows m.fields)) := hrf
  obtain ⟨fa, fl, fc, rfl⟩ := row_slice hrf
  obtain ⟨ra, rl, rc, rfl⟩ := row_slice hrr
  obtain ⟨mnm, hmnm⟩ : ∃ z, m.name = z := ⟨_, rfl⟩
  have HNM : Hid (m.name = mnm) := hmnm
  rw [hmnm] at c0
  have HCE : Hid (∀ W, Below w3.heap.size w3 W → W.cell? ⟨w.heap.size, 1, none⟩ = some (.slice (some ⟨g, off, none⟩) mn mc) ∧ W.cell? ⟨g, off + k * 3, none⟩ = some (.string mnm) ∧ W.cell? ⟨g, off + k * 3 + 1, none⟩ = some (.slice fa fl fc) ∧ W.cell? ⟨g, off + k * 3 + 2, none⟩ = some (.slice ra rl rc)) := fun W hW => by
    have hb : Below w.heap.size w W := hbw3.trans (hW.mono hbw3.size)
    exact ⟨((BS3.below hW).cell 1).trans rfl, (hb.cell (World.block_lt_of_cell? _ _ c0)).trans c0, (hb.cell (World.block_lt_of_cell? _ _ c1)).trans c1, (hb.cell (World.block_lt_of_cell? _ _ c2)).trans c2⟩
  clear hm hrf hrr hmnm hk c0 c1 c2 hp1 hp2
  go_wp2_with fail
  obtain ⟨b0, hb0⟩ : ∃ z, w.heap.size = z := ⟨_, rfl⟩
  have HBZ : Hid (w.heap.size = b0) := hb0
  rw [hb0] at HCE BS3
  try simp only [hb0]
  clear hb0 d
  refine M_region (T := fun W => W.cell? ⟨b0, 1, none⟩ = some (.slice (some ⟨g, off, none⟩) mn mc) ∧ W.cell? ⟨g, off + k * 3, none⟩ = some (.string mnm) ∧ W.cell? ⟨g, off + k * 3 + 1, none⟩ = some (.slice fa fl fc) ∧ W.cell? ⟨g, off + k * 3 + 2, none⟩ = some (.slice ra rl rc)) (m := 10) (by kernel_rfl) ?_
  have hd : Below w3.heap.size w3 w3.drew := (Below.refl _ _).drew
  have hdz : w3.drew.heap.size = w3.heap.size := rfl
  have hS := HCE.out _ hd
  refine M_take 0 28 (.pointer (some ⟨b0, 1, none⟩)) _ rfl rfl (by kernel_rfl) (by kernel_rfl) (by kernel_rfl) (by kernel_rfl) (by kernel_rfl) (fun _ _ _ h => h) (by rfl) (fun w' hw' => ?_) hS (listed' := #[true, false, false, false, false, false, false, false, false, false, false]) (by kernel_rfl) rfl ?_
  · go_simp
  simp only [List.setIfInBounds_toArray, List.set_cons_zero, List.set_cons_succ]
  refine M_take 1 29 (.slice (some ⟨g, off, none⟩) mn mc) _ rfl rfl (by kernel_rfl) (by kernel_rfl) (by kernel_rfl) (by kernel_rfl) (by kernel_rfl) (fun _ _ _ h => h) (by rfl) (fun w' hw' => ?_) hS (listed' := #[true, true, false, false, false, false, false, false, false, false, false]) (by kernel_rfl) rfl ?_
  · obtain ⟨f0, f1, f2, f3⟩ := hw'; go_simp
  simp only [List.setIfInBounds_toArray, List.set_cons_zero, List.set_cons_succ]
  refine M_take 2 30 (.int .i64 which) _ rfl rfl (by kernel_rfl) (by kernel_rfl) (by kernel_rfl) (by kernel_rfl) (by kernel_rfl) (fun _ _ _ h => h) (by rfl) (fun w' hw' => ?_) hS (listed' := #[true, true, true, false, false, false, false, false, false, false, false]) (by kernel_rfl) rfl ?_
  · go_simp
  simp only [List.setIfInBounds_toArray, List.set_cons_zero, List.set_cons_succ]
  refine M_take 3 31 (.pointer (some ⟨b0, 1, none⟩)) _ rfl rfl (by kernel_rfl) (by kernel_rfl) (by kernel_rfl) (by kernel_rfl) (by kernel_rfl) (fun _ _ _ h => h) (by rfl) (fun w' hw' => ?_) hS (listed' := #[true, true, true, true, false, false, false, false, false, false, false]) (by kernel_rfl) rfl ?_
  · go_simp
  simp only [List.setIfInBounds_toArray, List.set_cons_zero, List.set_cons_succ]
  refine M_take 4 32 (.slice (some ⟨g, off, none⟩) mn mc) _ rfl rfl (by kernel_rfl) (by kernel_rfl) (by kernel_rfl) (by kernel_rfl) (by kernel_rfl) (fun _ _ _ h => h) (by rfl) (fun w' hw' => ?_) hS (listed' := #[true, true, true, true, true, false, false, false, false, false, false]) (by kernel_rfl) rfl ?_
  · obtain ⟨f0, f1, f2, f3⟩ := hw'; go_simp
  simp only [List.setIfInBounds_toArray, List.set_cons_zero, List.set_cons_succ]
  refine M_take 5 33 (.int .i64 (mn : Int)) _ rfl rfl (by kernel_rfl) (by kernel_rfl) (by kernel_rfl) (by kernel_rfl) (by kernel_rfl) (fun _ _ _ h => h) (by rfl) (fun w' hw' => ?_) hS (listed' := #[true, true, true, true, true, true, false, false, false, false, false]) (by kernel_rfl) rfl ?_
  · go_simp
  simp only [List.setIfInBounds_toArray, List.set_cons_zero, List.set_cons_succ]
  have hal4 : Below w3.heap.size w3 (w3.drew.alloc (Obj.cells #[.string ⟨#[]⟩, .slice none 0 0, .slice none 0 0] 50)) := hd.trans (((Below.refl _ _).alloc (Nat.le_refl _) _).mono hd.size)
  refine M_cabl 6 9 7 8 34 9 35 36 25 #[.int .i64 which, .int .i64 (mn : Int)] (.int .i64 (k : Int)) (.pointer (some ⟨g, off + k * 3, none⟩)) (.agg #[.string mnm, .slice fa fl fc, .slice ra rl rc]) (fun W => .pointer (some ⟨W.heap.size, 0, none⟩)) (fun W => W.alloc (Obj.cells #[.string ⟨#[]⟩, .slice none 0 0, .slice none 0 0] 50))
    rfl rfl rfl rfl rfl rfl rfl rfl (by decide) (by decide) (by decide) (by decide) (by decide) (by decide) (by kernel_rfl) (by kernel_rfl) (by kernel_rfl) (by kernel_rfl) (by kernel_rfl) (by kernel_rfl) (by kernel_rfl) (fun _ => rfl) (fun _ => rfl) (fun _ => rfl) (fun _ => rfl) (by kernel_rfl) (by kernel_rfl) (by kernel_rfl) (by kernel_rfl) (by kernel_rfl) (by kernel_rfl) (by kernel_rfl) (fun _ _ _ _ h => h) (fun _ _ _ _ h => h) ?x1 ?x1' ?x2 HPL.out ?xk ?xk' ?xl ?xl' hS (HCE.out _ hal4) ?_
  case x1 => intro W'; go_simp
  case x1' => intro u W'; go_simp
  case x2 => intro a' W'; go_simp
  case xk => intro W'; go_simp
  case xk' => intro u W'; go_simp
  case xl => rintro W' ⟨f0, f1, f2, f3⟩; go_simp
  case xl' => rintro u W' ⟨f0, f1, f2, f3⟩; go_simp
  simp only [List.setIfInBounds_toArray, List.set_cons_zero, List.set_cons_succ]
  have B4 : Blk (w3.drew.alloc (Obj.cells #[.string ⟨#[]⟩, .slice none 0 0, .slice none 0 0] 50)) w3.heap.size #[.string ⟨#[]⟩, .slice none 0 0, .slice none 0 0] 50 := Blk.new w3.drew _ _
  rw [hdz]
  obtain ⟨b4, hb4⟩ : ∃ z, w3.heap.size = z := ⟨_, rfl⟩
  have HB4 : Hid (w3.heap.size = b4) := hb4
  rw [hb4] at B4
  simp only [hb4]
  have h40 := (B4.cell 0).trans rfl
  have h41 := (B4.cell 1).trans rfl
  have h42 := (B4.cell 2).trans rfl
  have z40 := B4.froz 0
  have z41 := B4.froz 1
  have z42 := B4.froz 2
  have HBL4 : Hid (Below w3.heap.size w3 (w3.drew.alloc (Obj.cells #[.string ⟨#[]⟩, .slice none 0 0, .slice none 0 0] 50))) := hal4
  clear hb4 hal4 hd hdz hS
  generalize (w3.drew.alloc (Obj.cells #[.string ⟨#[]⟩, .slice none 0 0, .slice none 0 0] 50)) = W4 at *
  refine M_store 10 ((((W4.setCell ⟨b4, 0, none⟩ (.string mnm)).setCell ⟨b4, 1, none⟩ (.slice fa fl fc)).setCell ⟨b4, 2, none⟩ (.slice ra rl rc))) rfl rfl (by kernel_rfl) (by rfl) (listed' := #[true, true, true, true, true, true, true, true, true, true, true]) (by kernel_rfl) (by go_simp) (by kernel_rfl) ?_
  refine M_done (by kernel_rfl) ?_ _
  have KS : Kp (fun q => q = b4) W4 ((((W4.setCell ⟨b4, 0, none⟩ (.string mnm)).setCell ⟨b4, 1, none⟩ (.slice fa fl fc)).setCell ⟨b4, 2, none⟩ (.slice ra rl rc))) := by
    refine Kp.setCell ?_ (fun _ => by simp) _
    refine Kp.setCell ?_ (fun _ => by simp) _
    refine Kp.setCell ?_ (fun _ => by simp) _
    exact Kp.refl _ _
  have B4a : Blk (W4.setCell ⟨b4, 0, none⟩ (.string mnm)) b4 #[.string mnm, .slice none 0 0, .slice none 0 0] 50 := B4.set 0 _ rfl
  have B4b : Blk ((W4.setCell ⟨b4, 0, none⟩ (.string mnm)).setCell ⟨b4, 1, none⟩ (.slice fa fl fc)) b4 #[.string mnm, .slice fa fl fc, .slice none 0 0] 50 := B4a.set 1 _ rfl
  have B5 : Blk ((((W4.setCell ⟨b4, 0, none⟩ (.string mnm)).setCell ⟨b4, 1, none⟩ (.slice fa fl fc)).setCell ⟨b4, 2, none⟩ (.slice ra rl rc))) b4 #[.string mnm, .slice fa fl fc, .slice ra rl rc] 50 := B4b.set 2 _ rfl
  have hb35 : Below w3.heap.size w3 ((((W4.setCell ⟨b4, 0, none⟩ (.string mnm)).setCell ⟨b4, 1, none⟩ (.slice fa fl fc)).setCell ⟨b4, 2, none⟩ (.slice ra rl rc))) := HBL4.out.trans (KS.toBelow HBL4.out.size (fun q e => by rw [e]; exact Nat.le_of_eq HB4.out))
  have hbw5 : Below w.heap.size w ((((W4.setCell ⟨b4, 0, none⟩ (.string mnm)).setCell ⟨b4, 1, none⟩ (.slice fa fl fc)).setCell ⟨b4, 2, none⟩ (.slice ra rl rc))) := hbw3.trans (hb35.mono hbw3.size)
  have BS5 : Blk ((((W4.setCell ⟨b4, 0, none⟩ (.string mnm)).setCell ⟨b4, 1, none⟩ (.slice fa fl fc)).setCell ⟨b4, 2, none⟩ (.slice ra rl rc))) b0 #[.string sn, .slice (some ⟨g, off, none⟩) mn mc, .slice ea en ec, .slice ta tn tc] 26 := BS3.below hb35
  clear h40 h41 h42 z40 z41 z42 KS B4 B4a B4b hb35 hbw3 BS3 HBL4 HCE HPL
  generalize ((((W4.setCell ⟨b4, 0, none⟩ (.string mnm)).setCell ⟨b4, 1, none⟩ (.slice fa fl fc)).setCell ⟨b4, 2, none⟩ (.slice ra rl rc))) = W5 at *
  have HFT : Hid (Calls Tryz.prog 26 #[.agg #[.string sn, .slice (some ⟨g, off, none⟩) mn mc, .slice ea en ec, .slice ta tn tc], .string mnm, .slice la L lc] W5 (FitA s mnm W5)) := fitAll_any s sn (some ⟨g, off, none⟩) ea ta mn mc en ec tn tc (fun m hm => (HFS.out.few.flds m hm).1) (ok_kinds HOK.out) (zs.take L) la lc L W5 (HSC.out.below hbw5) (HRL.out.1.below hbw5) HRL.out.2 (by omega) mnm
  have s0 := (BS5.cell 0).trans rfl
  have s1 := (BS5.cell 1).trans rfl
  have s2 := (BS5.cell 2).trans rfl
  have s3 := (BS5.cell 3).trans rfl
  have m0 := (B5.cell 0).trans rfl
  go_wp2_with fail
  refine Calls.mono HFT.out ?_
  rintro e w6 ⟨r, t, bs, rfl, hO, hA6, hT, hc6, hb6⟩
  have hbw6 : Below w.heap.size w w6 := hbw5.trans (hb6.mono hbw5.size)
  have BS6 := BS5.below hb6
  have B6 := B5.below hb6
  obtain ⟨x1, x2, x3, x4, x5, x6, hr6⟩ := TrO.open hO
  subst hr6
  have HO6 : Hid (TrO 6 W5.heap.size w6 [.int .i64 t.kind, .int .i64 t.n, .string t.s, .slice x1 x2 x3, .slice x4 x5 x6] t bs ∧ Apt W5.heap.size w6 bs ∧ FitT 6 s mnm t ∧ cntN 6 t ≤ 180) := ⟨hO, hA6, hT, hc6⟩
  clear hO hA6 hT hc6 hb6 hbw5 BS5 B5 HFT s0 s1 s2 s3 m0
  have HFIT : Hid (FitT 6 s mnm t ∧ cntN 6 t ≤ 180) := HO6.out.2.2
  have HCT : Hid (Calls Tryz.prog 11 #[.agg #[.int .i64 t.kind, .int .i64 t.n, .string t.s, .slice x1 x2 x3, .slice x4 x5 x6]] w6 (CopyP 6 t w6)) := copy_any 6 t _ w6 ⟨_, rfl, HO6.out.1.trC⟩ HFIT.out.1.sm
  clear HO6
  go_wp2_with fail
  refine Calls.mono HCT.out ?_
  rintro e w7 ⟨tv, bs7, rfl, ⟨tr, rfl, hO7, hA7⟩, hb7⟩
  obtain ⟨y1, E, y3, y4, y5, y6, hr7⟩ := TrO.open hO7
  have hk3 : t.kind = 3 := by rw [HFIT.out.1.form]
  have hn0 : t.n = 0 := by rw [HFIT.out.1.form]
  have hs0 : t.s = ⟨#[]⟩ := by rw [HFIT.out.1.form]
  have hr0 : t.rest = [] := by rw [HFIT.out.1.form]
  rw [hk3, hn0, hs0] at hr7
  subst hr7
  have hTW : TrW 6 w7 (.agg #[.int .i64 3, .int .i64 0, .string ⟨#[]⟩, .slice y1 E y3, .slice y4 y5 y6]) t := ⟨_, rfl, hO7.trR⟩
  have hpt := hTW.parts
  have hE : t.es.length = E := hpt.2.2.2.1
  have hy5 : y5 = 0 := by rw [← hpt.2.2.2.2, hr0]; rfl
  subst hy5
  obtain ⟨-, -, hE1, hE2⟩ := (by
    obtain ⟨m', a1, c1, a2, c2, -, hv, -, -, -, u1, u2, -⟩ := hTW.open
    simp only [Value.agg.injEq, Array.mk.injEq, List.cons.injEq, Value.slice.injEq, and_true] at hv
    obtain ⟨-, -, -, ⟨rfl, _, rfl⟩, _⟩ := hv
    rw [hE] at u1
    exact ⟨trivial, trivial, u1, u2⟩ : True ∧ True ∧ E ≤ y3 ∧ y3 ≤ maxLen)
  unfold maxLen at hE2
  have HE : Hid (t.es.length = E) := hE
  have HAP : Hid (bs7.Nodup ∧ ∀ k ∈ bs7, w6.heap.size ≤ k ∧ k < w7.heap.size) := hA7
  have HKN : Hid (t.kind = 3 ∧ t.n = 0 ∧ t.s = ⟨#[]⟩ ∧ t.rest = []) := ⟨hk3, hn0, hs0, hr0⟩
  obtain ⟨W8, hW8⟩ : ∃ z, z = w7.alloc (Obj.cells #[.int .i64 3, .int .i64 0, .string ⟨#[]⟩, .slice y1 E y3, .slice y4 0 y6] 30) := ⟨_, rfl⟩
  have al8 : Below w7.heap.size w7 W8 := by rw [hW8]; exact (Below.refl _ _).alloc (Nat.le_refl _) _
  have BT8 : Blk W8 w7.heap.size #[.int .i64 3, .int .i64 0, .string ⟨#[]⟩, .slice y1 E y3, .slice y4 0 y6] 30 := by rw [hW8]; exact Blk.new w7 _ _
  have hb68 : Below w6.heap.size w6 W8 := hb7.trans (al8.mono hb7.size)
  have hbw8 : Below w.heap.size w W8 := hbw6.trans (hb68.mono hbw6.size)
  have BS8 := BS6.below hb68
  have B8 := B6.below hb68
  have HO8 : Hid (TrO 6 w6.heap.size W8 [.int .i64 3, .int .i64 0, .string ⟨#[]⟩, .slice y1 E y3, .slice y4 0 y6] t bs7) := hO7.sm (Sm.below al8 fun k hk => (hA7.2 k hk).2)
  have HB6 : Hid (b0 < w6.heap.size ∧ b4 < w6.heap.size) := ⟨BS6.lt, B6.lt⟩
  clear hO7 hA7 hpt hTW hk3 hn0 hs0 hr0 hE HCT hb7 al8 BS6 B6
  go_upto_region 5 with fail
  rw [← hW8]
  clear hW8
  obtain ⟨bt, hbt⟩ : ∃ z, w7.heap.size = z := ⟨_, rfl⟩
  rw [hbt] at BT8 HAP
  try simp only [hbt]
  clear hbt
  have c3 := (BT8.cell 3).trans rfl
  by_cases hE0 : E = 0
  · subst hE0
    go_wp2_with fail
    refine (awake_any _).mono ?_
    rintro e wz ⟨rfl, hbz⟩
    have hbwz : Below w.heap.size w wz := hbw8.trans (hbz.mono hbw8.size)
    clear hbz
    go_wp2_with fail
    go_ret
    exact ⟨rfl, hbwz⟩
  have hEp : 0 < E := by omega
  have dE : ((E : Int) == 0) = false := by simp; omega
  obtain ⟨hp1, hp2⟩ := placeI_in at0 (E : Int) (by omega)
  have hE500 : E ≤ 500 := by rw [← HE.out]; exact HFIT.out.1.sm.2.2.1
  obtain ⟨kq, hkq⟩ : ∃ z : Nat, placeI at0 (E : Int) = (z : Int) := ⟨(placeI at0 (E : Int)).toNat, by omega⟩
  have hkE : kq < E := by omega
  have HPL : Hid (∀ W, Calls Tryz.prog 25 #[.int .i64 at0, .int .i64 (E : Int)] W fun e w1 => e = .returned (.int .i64 (kq : Int)) ∧ w1 = W) := fun W => by
    have h1 := place_is at0 (E : Int) t1 t2 (by omega) (by omega) W
    rw [hkq] at h1
    exact h1
  obtain ⟨e, hi⟩ : ∃ x, t.es[kq]? = some x := ⟨_, List.getElem?_eq_getElem (by rw [HE.out]; exact hkE)⟩
  have HI : Hid (t.es[kq]? = some e) := hi
  obtain ⟨ge, yc, ga, gc, hve, f0, f1, f2, f3, f4, f5⟩ := TrO.entry (n := 5) HO8.out hi
  rw [HE.out] at hve
  simp only [Value.slice.injEq, true_and] at hve
  obtain ⟨rfl, rfl⟩ := hve
  obtain ⟨x0, hx0⟩ : ∃ x, e.2[0]? = some x := ⟨_, List.getElem?_eq_getElem (by
    have h1 := ents_each HFIT.out.1.ents e (List.mem_of_getElem? hi)
    omega)⟩
  have hne : e.2 ≠ [] := fun h => by rw [h] at hx0; simp at hx0
  obtain ⟨g7, rfl, hg7⟩ : ∃ g, ga = some ⟨g, 0, none⟩ ∧ g ∈ bs7 := by
    rcases f4 with h | h
    · exact absurd h hne
    · exact h
  have f6 := f5 0 x0 hx0 g7 rfl
  obtain ⟨Xl, hXl⟩ : ∃ z, e.2.length = z := ⟨_, rfl⟩
  rw [hXl] at f1 f2
  have HXL : Hid (e.2.length = Xl ∧ e.2.length ≤ 70) := ⟨hXl, (HFIT.out.1.sm.2.2.2.2 e (List.mem_of_getElem? hi)).1⟩
  have hX0 : 0 < Xl := by rw [← hXl]; exact (List.getElem?_eq_some_iff.1 hx0).1
  have hX70 : Xl ≤ 70 := by rw [← hXl]; exact HXL.out.2
  unfold maxLen at f3
  have HX0 : Hid (e.2[0]? = some x0) := hx0
  obtain ⟨KX, hKX⟩ : ∃ z, x0.kind = z := ⟨_, rfl⟩
  have HKX : Hid (x0.kind = KX) := hKX
  rw [hKX] at f6
  have HBT : Hid (Blk W8 bt #[.int .i64 3, .int .i64 0, .string ⟨#[]⟩, .slice (some ⟨ge, 0, none⟩) E y3, .slice y4 0 y6] 30) := BT8
  have HCE : Hid (∀ W, Below W8.heap.size W8 W → W.cell? ⟨bt, 3, none⟩ = some (.slice (some ⟨ge, 0, none⟩) E y3)) := fun W hW => ((HBT.out.below hW).cell 3).trans rfl
  have HBX : Hid (Blk W8 b0 #[.string sn, .slice (some ⟨g, off, none⟩) mn mc, .slice ea en ec, .slice ta tn tc] 26 ∧ Blk W8 b4 #[.string mnm, .slice fa fl fc, .slice ra rl rc] 50) := ⟨BS8, B8⟩
  have HF1 : Hid (W8.cell? ⟨ge, kq * 2 + 1, none⟩ = some (.slice (some ⟨g7, 0, none⟩) Xl gc)) := f1
  have HF6 : Hid (W8.cell? ⟨g7, 0 * 5, none⟩ = some (.int .i64 KX)) := f6
  have hgb : ge < W8.heap.size := World.block_lt_of_cell? _ _ f1
  have hgb7 : g7 < W8.heap.size := World.block_lt_of_cell? _ _ f6
  have HG7 : Hid (g7 ∈ bs7) := hg7
  clear hi hx0 hne f0 f4 f5 hXl hkq hKX hg7 hp1 hp2 BS8 B8 BT8 c3
  have c3 := (HBT.out.cell 3).trans rfl
  go_wp2_with fail
  clear c3
  have hS : Below W8.heap.size W8 W8.drew := (Below.refl _ _).drew
  refine wp_region_held_drew (S := fun w' => Below W8.heap.size W8 w') (by kernel_rfl) hS (fun hS => ?_)
  refine rg_take 0 48 (.pointer (some ⟨bt, 3, none⟩)) _ rfl rfl (by kernel_rfl) (by kernel_rfl) (by kernel_rfl) (fun _ _ _ h => h) (by rfl) (fun w' hw' => ?_) hS (listed' := #[true, false, false, false, false, false, false, false, false]) (by kernel_rfl) rfl ?_
  · go_simp
  simp only [List.setIfInBounds_toArray, List.set_cons_zero, List.set_cons_succ]
  refine rg_take 1 49 (.slice (some ⟨ge, 0, none⟩) E y3) _ rfl rfl (by kernel_rfl) (by kernel_rfl) (by kernel_rfl) (fun _ _ _ h => h) (by rfl) (fun w' hw' => ?_) hS (listed' := #[true, true, false, false, false, false, false, false, false]) (by kernel_rfl) rfl ?_
  · have q3 := HCE.out _ hw'; go_simp
  simp only [List.setIfInBounds_toArray, List.set_cons_zero, List.set_cons_succ]
  refine rg_take 2 50 (.int .i64 at0) _ rfl rfl (by kernel_rfl) (by kernel_rfl) (by kernel_rfl) (fun _ _ _ h => h) (by rfl) (fun w' hw' => ?_) hS (listed' := #[true, true, true, false, false, false, false, false, false]) (by kernel_rfl) rfl ?_
  · go_simp
  simp only [List.setIfInBounds_toArray, List.set_cons_zero, List.set_cons_succ]
  refine rg_take 3 51 (.pointer (some ⟨bt, 3, none⟩)) _ rfl rfl (by kernel_rfl) (by kernel_rfl) (by kernel_rfl) (fun _ _ _ h => h) (by rfl) (fun w' hw' => ?_) hS (listed' := #[true, true, true, true, false, false, false, false, false]) (by kernel_rfl) rfl ?_
  · go_simp
  simp only [List.setIfInBounds_toArray, List.set_cons_zero, List.set_cons_succ]
  refine rg_take 4 52 (.slice (some ⟨ge, 0, none⟩) E y3) _ rfl rfl (by kernel_rfl) (by kernel_rfl) (by kernel_rfl) (fun _ _ _ h => h) (by rfl) (fun w' hw' => ?_) hS (listed' := #[true, true, true, true, true, false, false, false, false]) (by kernel_rfl) rfl ?_
  · have q3 := HCE.out _ hw'; go_simp
  simp only [List.setIfInBounds_toArray, List.set_cons_zero, List.set_cons_succ]
  refine rg_take 5 53 (.int .i64 (E : Int)) _ rfl rfl (by kernel_rfl) (by kernel_rfl) (by kernel_rfl) (fun _ _ _ h => h) (by rfl) (fun w' hw' => ?_) hS (listed' := #[true, true, true, true, true, true, false, false, false]) (by kernel_rfl) rfl ?_
  · go_simp
  simp only [List.setIfInBounds_toArray, List.set_cons_zero, List.set_cons_succ]
  refine rg_call 6 54 25 #[.int .i64 at0, .int .i64 (E : Int)] rfl rfl (by kernel_rfl) (by rfl) (listed' := #[true, true, true, true, true, true, true, false, false]) (by kernel_rfl) (fun W => by go_simp) ?_
  refine (HPL.out _).mono ?_
  rintro ee W9 ⟨rfl, rfl⟩
  refine ⟨_, rfl, hS, ?_⟩
  simp only [List.setIfInBounds_toArray, List.set_cons_zero, List.set_cons_succ]
  refine rg_take 7 55 (.pointer (some ⟨ge, kq * 2, none⟩)) _ rfl rfl (by kernel_rfl) (by kernel_rfl) (by kernel_rfl) (fun _ _ _ h => h) (by rfl) (fun w' hw' => ?_) hS (listed' := #[true, true, true, true, true, true, true, true, false]) (by kernel_rfl) rfl ?_
  · go_simp
  simp only [List.setIfInBounds_toArray, List.set_cons_zero, List.set_cons_succ]
  refine rg_take 8 11 (.pointer (some ⟨ge, kq * 2, none⟩)) _ rfl rfl (by kernel_rfl) (by kernel_rfl) (by kernel_rfl) (fun _ _ _ h => h) (by rfl) (fun w' hw' => ?_) hS (listed' := #[true, true, true, true, true, true, true, true, true]) (by kernel_rfl) rfl ?_
  · go_simp
  simp only [List.setIfInBounds_toArray, List.set_cons_zero, List.set_cons_succ]
  refine wpAnyH_done (by kernel_rfl) ?_ _
  have hge : g7 ≠ ge := by
    obtain ⟨_, _, _, _, _, h⟩ := TrO.setLeaf (n := 5) (t := t) (by rw [HE.out]; exact HO8.out) HAP.out.1 HI.out (by rw [HXL.out.1]; exact HF1.out) (by rw [HXL.out.1]; exact hX0) (TrO.numLeaf 4 w6.heap.size)
    exact h
  have f1 : W8.drew.cell? ⟨ge, kq * 2 + 1, none⟩ = some (.slice (some ⟨g7, 0, none⟩) Xl gc) := HF1.out
  have f6 : W8.drew.cell? ⟨g7, 0, none⟩ = some (.int .i64 KX) := (by have := HF6.out; rwa [Nat.zero_mul] at this : W8.cell? ⟨g7, 0, none⟩ = some (.int .i64 KX))
  have hgz : ge < W8.drew.heap.size := hgb
  have hgz7 : g7 < W8.drew.heap.size := hgb7
  have HO9 : Hid (TrO 6 w6.heap.size W8.drew [.int .i64 3, .int .i64 0, .string ⟨#[]⟩, .slice (some ⟨ge, 0, none⟩) E y3, .slice y4 0 y6] t bs7) := HO8.out.sm fun k hk => rfl
  have HBT9 : Hid (Blk W8.drew bt #[.int .i64 3, .int .i64 0, .string ⟨#[]⟩, .slice (some ⟨ge, 0, none⟩) E y3, .slice y4 0 y6] 30 ∧ Blk W8.drew b0 #[.string sn, .slice (some ⟨g, off, none⟩) mn mc, .slice ea en ec, .slice ta tn tc] 26 ∧ Blk W8.drew b4 #[.string mnm, .slice fa fl fc, .slice ra rl rc] 50) := ⟨HBT.out, HBX.out⟩
  have hbw9 : Below w.heap.size w W8.drew := hbw8.drew
  have hb69 : Below w6.heap.size w6 W8.drew := hb68.drew
  have HG79 : Hid (g7 < bt ∧ w6.heap.size ≤ g7) := ⟨(HAP.out.2 g7 HG7.out).2, (HAP.out.2 g7 HG7.out).1⟩
  have hbt9 : bt < W8.drew.heap.size := HBT.out.lt
  have hb09 : b0 < w6.heap.size ∧ b4 < w6.heap.size := HB6.out
  clear hS HPL HCE HBT HBX HF1 HF6 hbw8 hb68 hgb hgb7 HO8
  generalize W8.drew = W9 at *
  by_cases hK1 : KX = 1
  · subst hK1
    obtain ⟨W10, hW10⟩ : ∃ z, z = (W9.alloc (Obj.cells #[.int .i64 2, .int .i64 0, .string ⟨#[97]⟩, .slice none 0 0, .slice none 0 0] 30)) := ⟨_, rfl⟩
    have al10 : Below W9.heap.size W9 W10 := by rw [hW10]; exact (Below.refl _ _).alloc (Nat.le_refl _) _
    have BO10 : Blk W10 W9.heap.size #[.int .i64 2, .int .i64 0, .string ⟨#[97]⟩, .slice none 0 0, .slice none 0 0] 30 := by rw [hW10]; exact Blk.new W9 _ _
    have HO10 : Hid (TrO 6 w6.heap.size W10 [.int .i64 3, .int .i64 0, .string ⟨#[]⟩, .slice (some ⟨ge, 0, none⟩) E y3, .slice y4 0 y6] t bs7) := HO9.out.sm (Sm.below al10 fun k hk => by have := (HAP.out.2 k hk).2; omega)
    have HB10 : Hid (Blk W10 bt #[.int .i64 3, .int .i64 0, .string ⟨#[]⟩, .slice (some ⟨ge, 0, none⟩) E y3, .slice y4 0 y6] 30 ∧ Blk W10 b0 #[.string sn, .slice (some ⟨g, off, none⟩) mn mc, .slice ea en ec, .slice ta tn tc] 26 ∧ Blk W10 b4 #[.string mnm, .slice fa fl fc, .slice ra rl rc] 50) := ⟨HBT9.out.1.below al10, HBT9.out.2.1.below al10, HBT9.out.2.2.below al10⟩
    have HF10 : Hid (W10.cell? ⟨ge, kq * 2 + 1, none⟩ = some (.slice (some ⟨g7, 0, none⟩) Xl gc)) := (al10.cell (p := ⟨ge, kq * 2 + 1, none⟩) hgz).trans f1
    have hb610 : Below w6.heap.size w6 W10 := hb69.trans (al10.mono hb69.size)
    have hbw10 : Below w.heap.size w W10 := hbw9.trans (al10.mono hbw9.size)
    go_upto_region 12 with fail
    rw [← hW10]
    clear hW10 f1 f6 al10 HO9 HBT9 hb69 hbw9
    obtain ⟨bo, hbo⟩ : ∃ z, W9.heap.size = z := ⟨_, rfl⟩
    rw [hbo] at BO10 hbt9 hgz hgz7
    try simp only [hbo]
    clear hbo
    have HBO10 : Hid (Blk W10 bo #[.int .i64 2, .int .i64 0, .string ⟨#[97]⟩, .slice none 0 0, .slice none 0 0] 30) := BO10
    have HT10 : Hid (∃ bs', TrO 6 w6.heap.size W10 [.int .i64 3, .int .i64 0, .string ⟨#[]⟩, .slice (some ⟨ge, 0, none⟩) E y3, .slice y4 0 y6] (othT t kq e (rowJ e.2 (⟨2, 0, ⟨#[97]⟩, [], []⟩) 0)) bs' ∧ bs'.Nodup ∧ ∀ k ∈ bs', k ∈ bs7) := ⟨bs7, by
      rw [rowJ_zero]
      have h1 : othT t kq e e.2 = t := othT_same HI.out
      rw [h1]
      exact HO10.out, HAP.out.1, fun k hk => hk⟩
    clear HO10 BO10
    go_loopw [13] (fun jv wr => ∃ j : Nat, jv = .int .i64 (j : Int) ∧ j ≤ Xl ∧ Hid (∃ bs', TrO 6 w6.heap.size wr [.int .i64 3, .int .i64 0, .string ⟨#[]⟩, .slice (some ⟨ge, 0, none⟩) E y3, .slice y4 0 y6] (othT t kq e (rowJ e.2 (⟨2, 0, ⟨#[97]⟩, [], []⟩) j)) bs' ∧ bs'.Nodup ∧ ∀ k ∈ bs', k ∈ bs7) ∧ Kp (fun q => q = g7) W10 wr) (fun jv _ => Xl - (intOf jv).toNat)
    case atStart => exact ⟨0, rfl, by omega, HT10, Kp.refl _ _⟩
    case round =>
      obtain ⟨j, rfl, hj, HT, hkp⟩ := hrel
      have HFr : Hid (wr.cell? ⟨ge, kq * 2 + 1, none⟩ = some (.slice (some ⟨g7, 0, none⟩) Xl gc)) := hkp.cell HF10.out (fun h => hge h.symm)
      have fr := HFr.out
      by_cases hlt : j < Xl
      · obtain ⟨bs', hT, hnd, hsub⟩ := HT.out
        have hes : (othT t kq e (rowJ e.2 (⟨2, 0, ⟨#[97]⟩, [], []⟩) j)).es.length = E := by show (t.es.set kq _).length = E; rw [List.length_set, HE.out]
        have hix : (othT t kq e (rowJ e.2 (⟨2, 0, ⟨#[97]⟩, [], []⟩) j)).es[kq]? = some (e.1, rowJ e.2 (⟨2, 0, ⟨#[97]⟩, [], []⟩) j) := by
          show (t.es.set kq _)[kq]? = _
          rw [List.getElem?_set, if_pos rfl, if_pos (by rw [HE.out]; exact hkE)]
        have hrl : (rowJ e.2 (⟨2, 0, ⟨#[97]⟩, [], []⟩) j).length = Xl := by rw [rowJ_len _ _ (by rw [HXL.out.1]; exact hj), HXL.out.1]
        have hTd : TrO 6 w6.heap.size wr.drew [.int .i64 3, .int .i64 0, .string ⟨#[]⟩, .slice (some ⟨ge, 0, none⟩) (othT t kq e (rowJ e.2 (⟨2, 0, ⟨#[97]⟩, [], []⟩) j)).es.length y3, .slice y4 0 y6] (othT t kq e (rowJ e.2 (⟨2, 0, ⟨#[97]⟩, [], []⟩) j)) bs' := by rw [hes]; exact hT.sm fun k hk => rfl
        have hcd : wr.drew.cell? ⟨ge, kq * 2 + 1, none⟩ = some (.slice (some ⟨g7, 0, none⟩) (e.1, rowJ e.2 (⟨2, 0, ⟨#[97]⟩, [], []⟩) j).2.length gc) := by rw [hrl]; exact HFr.out
        obtain ⟨p0, p1, p2, p3, p4, k0, k1, k2, k3, k4, kz⟩ := TrO.leafCells hTd hix hcd (j := j) (by rw [hrl]; exact hlt)
        obtain ⟨bs2, hT2, hnd2, hsub2, -, -⟩ := TrO.setLeaf hTd hnd hix hcd (j := j) (by rw [hrl]; exact hlt) (TrO.txtLeaf 4 w6.heap.size)
        rw [hes] at hT2
        have hst : (⟨(othT t kq e (rowJ e.2 (⟨2, 0, ⟨#[97]⟩, [], []⟩) j)).kind, (othT t kq e (rowJ e.2 (⟨2, 0, ⟨#[97]⟩, [], []⟩) j)).n, (othT t kq e (rowJ e.2 (⟨2, 0, ⟨#[97]⟩, [], []⟩) j)).s, (othT t kq e (rowJ e.2 (⟨2, 0, ⟨#[97]⟩, [], []⟩) j)).es.set kq ((e.1, rowJ e.2 (⟨2, 0, ⟨#[97]⟩, [], []⟩) j).1, (e.1, rowJ e.2 (⟨2, 0, ⟨#[97]⟩, [], []⟩) j).2.set j (⟨2, 0, ⟨#[97]⟩, [], []⟩)), (othT t kq e (rowJ e.2 (⟨2, 0, ⟨#[97]⟩, [], []⟩) j)).rest⟩ : Tr) = othT t kq e (rowJ e.2 (⟨2, 0, ⟨#[97]⟩, [], []⟩) (j + 1)) := by
          have h1 := rowJ_step (ts := e.2) (o := ⟨2, 0, ⟨#[97]⟩, [], []⟩) (j := j) (by rw [HXL.out.1]; exact hlt)
          simp only [othT, List.set_set]
          rw [h1]
        rw [hst] at hT2
        have HT2 : Hid (∃ bs', TrO 6 w6.heap.size (set5 wr.drew g7 (j * 5) (.int .i64 2) (.int .i64 0) (.string ⟨#[97]⟩) (.slice none 0 0) (.slice none 0 0)) [.int .i64 3, .int .i64 0, .string ⟨#[]⟩, .slice (some ⟨ge, 0, none⟩) E y3, .slice y4 0 y6] (othT t kq e (rowJ e.2 (⟨2, 0, ⟨#[97]⟩, [], []⟩) (j + 1))) bs' ∧ bs'.Nodup ∧ ∀ k ∈ bs', k ∈ bs7) := ⟨bs2, hT2, hnd2, fun k hk => hsub k (hsub2 k hk)⟩
        have hkp2 : Kp (fun q => q = g7) W10 (set5 wr.drew g7 (j * 5) (.int .i64 2) (.int .i64 0) (.string ⟨#[97]⟩) (.slice none 0 0) (.slice none 0 0)) := (hkp.drewN 1).trans (set5_kp _ _ _ _ _ _ _ _)
        have z0 := kz (j * 5)
        have z1 := kz (j * 5 + 1)
        have z2 := kz (j * 5 + 2)
        have z3 := kz (j * 5 + 3)
        have z4 := kz (j * 5 + 4)
        have BOr := HBO10.out.kp hkp (by have := HG79.out.1; omega)
        have HTT : Hid (wr.cell? ⟨ge, kq * 2 + 1, none⟩ = some (.slice (some ⟨g7, 0, none⟩) Xl gc) ∧ wr.cell? ⟨bo, 0, none⟩ = #[.int .i64 2, .int .i64 0, .string ⟨#[97]⟩, .slice none 0 0, .slice none 0 0][0]? ∧ wr.cell? ⟨bo, 1, none⟩ = #[.int .i64 2, .int .i64 0, .string ⟨#[97]⟩, .slice none 0 0, .slice none 0 0][1]? ∧ wr.cell? ⟨bo, 2, none⟩ = #[.int .i64 2, .int .i64 0, .string ⟨#[97]⟩, .slice none 0 0, .slice none 0 0][2]? ∧ wr.cell? ⟨bo, 3, none⟩ = #[.int .i64 2, .int .i64 0, .string ⟨#[97]⟩, .slice none 0 0, .slice none 0 0][3]? ∧ wr.cell? ⟨bo, 4, none⟩ = #[.int .i64 2, .int .i64 0, .string ⟨#[97]⟩, .slice none 0 0, .slice none 0 0][4]?) := ⟨HFr.out, BOr.cell 0, BOr.cell 1, BOr.cell 2, BOr.cell 3, BOr.cell 4⟩
        replace k0 : wr.cell? ⟨g7, j * 5, none⟩ = some p0 := k0
        replace z0 : wr.frozen? ⟨g7, j * 5, none⟩ = false := z0
        replace k1 : wr.cell? ⟨g7, j * 5 + 1, none⟩ = some p1 := k1
        replace z1 : wr.frozen? ⟨g7, j * 5 + 1, none⟩ = false := z1
        replace k2 : wr.cell? ⟨g7, j * 5 + 2, none⟩ = some p2 := k2
        replace z2 : wr.frozen? ⟨g7, j * 5 + 2, none⟩ = false := z2
        replace k3 : wr.cell? ⟨g7, j * 5 + 3, none⟩ = some p3 := k3
        replace z3 : wr.frozen? ⟨g7, j * 5 + 3, none⟩ = false := z3
        replace k4 : wr.cell? ⟨g7, j * 5 + 4, none⟩ = some p4 := k4
        replace z4 : wr.frozen? ⟨g7, j * 5 + 4, none⟩ = false := z4
        clear hT hnd hsub hes hix hrl hTd hcd kz hT2 hnd2 hsub2 hst BOr hkp HT
        go_wp2_with fail
        refine M_region (T := fun W => W.cell? ⟨ge, kq * 2 + 1, none⟩ = some (.slice (some ⟨g7, 0, none⟩) Xl gc) ∧ W.cell? ⟨bo, 0, none⟩ = #[.int .i64 2, .int .i64 0, .string ⟨#[97]⟩, .slice none 0 0, .slice none 0 0][0]? ∧ W.cell? ⟨bo, 1, none⟩ = #[.int .i64 2, .int .i64 0, .string ⟨#[97]⟩, .slice none 0 0, .slice none 0 0][1]? ∧ W.cell? ⟨bo, 2, none⟩ = #[.int .i64 2, .int .i64 0, .string ⟨#[97]⟩, .slice none 0 0, .slice none 0 0][2]? ∧ W.cell? ⟨bo, 3, none⟩ = #[.int .i64 2, .int .i64 0, .string ⟨#[97]⟩, .slice none 0 0, .slice none 0 0][3]? ∧ W.cell? ⟨bo, 4, none⟩ = #[.int .i64 2, .int .i64 0, .string ⟨#[97]⟩, .slice none 0 0, .slice none 0 0][4]?) (m := 7) (by kernel_rfl) ?_
        have hS : wr.drew.cell? ⟨ge, kq * 2 + 1, none⟩ = some (.slice (some ⟨g7, 0, none⟩) Xl gc) ∧ wr.drew.cell? ⟨bo, 0, none⟩ = #[.int .i64 2, .int .i64 0, .string ⟨#[97]⟩, .slice none 0 0, .slice none 0 0][0]? ∧ wr.drew.cell? ⟨bo, 1, none⟩ = #[.int .i64 2, .int .i64 0, .string ⟨#[97]⟩, .slice none 0 0, .slice none 0 0][1]? ∧ wr.drew.cell? ⟨bo, 2, none⟩ = #[.int .i64 2, .int .i64 0, .string ⟨#[97]⟩, .slice none 0 0, .slice none 0 0][2]? ∧ wr.drew.cell? ⟨bo, 3, none⟩ = #[.int .i64 2, .int .i64 0, .string ⟨#[97]⟩, .slice none 0 0, .slice none 0 0][3]? ∧ wr.drew.cell? ⟨bo, 4, none⟩ = #[.int .i64 2, .int .i64 0, .string ⟨#[97]⟩, .slice none 0 0, .slice none 0 0][4]? := HTT.out
        refine M_take 0 75 (.pointer (some ⟨ge, kq * 2, none⟩)) _ rfl rfl (by kernel_rfl) (by kernel_rfl) (by kernel_rfl) (by kernel_rfl) (by kernel_rfl) (fun _ _ _ h => h) (by rfl) (fun w' hw' => ?_) hS (listed' := #[true, false, false, false, false, false, false, false]) (by kernel_rfl) rfl ?_
        · go_simp
        simp only [List.setIfInBounds_toArray, List.set_cons_zero, List.set_cons_succ]
        refine M_take 1 76 (.pointer (some ⟨ge, kq * 2, none⟩)) _ rfl rfl (by kernel_rfl) (by kernel_rfl) (by kernel_rfl) (by kernel_rfl) (by kernel_rfl) (fun _ _ _ h => h) (by rfl) (fun w' hw' => ?_) hS (listed' := #[true, true, false, false, false, false, false, false]) (by kernel_rfl) rfl ?_
        · go_simp
        simp only [List.setIfInBounds_toArray, List.set_cons_zero, List.set_cons_succ]
        refine M_take 2 77 (.pointer (some ⟨ge, kq * 2 + 1, none⟩)) _ rfl rfl (by kernel_rfl) (by kernel_rfl) (by kernel_rfl) (by kernel_rfl) (by kernel_rfl) (fun _ _ _ h => h) (by rfl) (fun w' hw' => ?_) hS (listed' := #[true, true, true, false, false, false, false, false]) (by kernel_rfl) rfl ?_
        · go_simp
        simp only [List.setIfInBounds_toArray, List.set_cons_zero, List.set_cons_succ]
        refine M_take 3 78 (.slice (some ⟨g7, 0, none⟩) Xl gc) _ rfl rfl (by kernel_rfl) (by kernel_rfl) (by kernel_rfl) (by kernel_rfl) (by kernel_rfl) (fun _ _ _ h => h) (by rfl) (fun w' hw' => ?_) hS (listed' := #[true, true, true, true, false, false, false, false]) (by kernel_rfl) rfl ?_
        · obtain ⟨f0, f1, f2, f3, f4, f5⟩ := hw'; replace f1 := f1.trans rfl; replace f2 := f2.trans rfl; replace f3 := f3.trans rfl; replace f4 := f4.trans rfl; replace f5 := f5.trans rfl; go_simp
        simp only [List.setIfInBounds_toArray, List.set_cons_zero, List.set_cons_succ]
        refine M_take 4 79 (.int .i64 (j : Int)) _ rfl rfl (by kernel_rfl) (by kernel_rfl) (by kernel_rfl) (by kernel_rfl) (by kernel_rfl) (fun _ _ _ h => h) (by rfl) (fun w' hw' => ?_) hS (listed' := #[true, true, true, true, true, false, false, false]) (by kernel_rfl) rfl ?_
        · go_simp
        simp only [List.setIfInBounds_toArray, List.set_cons_zero, List.set_cons_succ]
        refine M_take 5 80 (.agg #[.int .i64 2, .int .i64 0, .string ⟨#[97]⟩, .slice none 0 0, .slice none 0 0]) _ rfl rfl (by kernel_rfl) (by kernel_rfl) (by kernel_rfl) (by kernel_rfl) (by kernel_rfl) (fun _ _ _ h => h) (by rfl) (fun w' hw' => ?_) hS (listed' := #[true, true, true, true, true, true, false, false]) (by kernel_rfl) rfl ?_
        · obtain ⟨f0, f1, f2, f3, f4, f5⟩ := hw'; replace f1 := f1.trans rfl; replace f2 := f2.trans rfl; replace f3 := f3.trans rfl; replace f4 := f4.trans rfl; replace f5 := f5.trans rfl; go_simp
        simp only [List.setIfInBounds_toArray, List.set_cons_zero, List.set_cons_succ]
        refine M_take 6 81 (.pointer (some ⟨g7, j * 5, none⟩)) _ rfl rfl (by kernel_rfl) (by kernel_rfl) (by kernel_rfl) (by kernel_rfl) (by kernel_rfl) (fun _ _ _ h => h) (by rfl) (fun w' hw' => ?_) hS (listed' := #[true, true, true, true, true, true, true, false]) (by kernel_rfl) rfl ?_
        · go_simp
        simp only [List.setIfInBounds_toArray, List.set_cons_zero, List.set_cons_succ]
        refine M_store 7 (set5 wr.drew g7 (j * 5) (.int .i64 2) (.int .i64 0) (.string ⟨#[97]⟩) (.slice none 0 0) (.slice none 0 0)) rfl rfl (by kernel_rfl) (by rfl) (listed' := #[true, true, true, true, true, true, true, true]) (by kernel_rfl) (by unfold set5; go_simp) (by kernel_rfl) ?_
        refine M_done (by kernel_rfl) ?_ _
        clear hS k0 k1 k2 k3 k4 z0 z1 z2 z3 z4 HTT fr
        go_wp2_with fail
        go_roundw
        case rel => exact ⟨j + 1, by go_num, by omega, HT2, hkp2⟩
        case measure => simp [intOf]; omega
      · have dlt : decide ((j : Int) < (Xl : Int)) = false := by simp; omega
        have hjx : j = e.2.length := by have := HXL.out.1; omega
        have HTW : Hid (TrW 6 wr (.agg #[.int .i64 3, .int .i64 0, .string ⟨#[]⟩, .slice (some ⟨ge, 0, none⟩) E y3, .slice y4 0 y6]) (othT t kq e (List.replicate e.2.length (⟨2, 0, ⟨#[97]⟩, [], []⟩)))) := (by
          obtain ⟨bs', hT, -, -⟩ := HT.out
          have h1 : rowJ e.2 (⟨2, 0, ⟨#[97]⟩, [], []⟩) j = List.replicate e.2.length (⟨2, 0, ⟨#[97]⟩, [], []⟩) := by rw [hjx]; exact rowJ_all _ _
          rw [h1] at hT
          exact ⟨_, rfl, hT.trR⟩ : TrW 6 wr (.agg #[.int .i64 3, .int .i64 0, .string ⟨#[]⟩, .slice (some ⟨ge, 0, none⟩) E y3, .slice y4 0 y6]) (othT t kq e (List.replicate e.2.length (⟨2, 0, ⟨#[97]⟩, [], []⟩))))
        have hMO : msgOf s mnm = some m := by
          have h1 := ok_findM HOK.out HM.out
          rw [HNM.out] at h1
          exact h1
        have HV8 : Hid (validA 6 s mnm (othT t kq e (List.replicate e.2.length (⟨2, 0, ⟨#[97]⟩, [], []⟩))) = 8) := oth_valid HFIT.out.1 (by decide) HA.out (by rw [hMO]; rfl) HI.out HX0.out (by decide) (by rw [HKX.out]; decide)
        have BT := HB10.out.1.kp hkp (by have := HG79.out.1; omega)
        have BS := HB10.out.2.1.kp hkp (by have := HG79.out.2; omega)
        have BM := HB10.out.2.2.kp hkp (by have := HG79.out.2; omega)
        have hbr : Below w6.heap.size w6 wr := hb610.trans (hkp.toBelow hb610.size fun k e => by rw [e]; exact HG79.out.2)
        have hbwr : Below w.heap.size w wr := hbw6.trans (hbr.mono hbw6.size)
        have HCS : Hid (∀ W, Below wr.heap.size wr W → Calls Tryz.prog 10 #[.agg #[.string sn, .slice (some ⟨g, off, none⟩) mn mc, .slice ea en ec, .slice ta tn tc]] W fun e w' => ∃ r, e = .returned r ∧ ScIn w' r s ∧ Below W.heap.size W w') := fun W hW => schemaC_any (HSC.out.below (hbwr.trans (hW.mono hbwr.size))) HFS.out.few
        have HVL : Hid (∀ W vs, Below wr.heap.size wr W → ScIn W vs s → Calls Tryz.prog 12 #[vs, .string mnm, .agg #[.int .i64 3, .int .i64 0, .string ⟨#[]⟩, .slice (some ⟨ge, 0, none⟩) E y3, .slice y4 0 y6]] W fun e w' => e = .returned (.int .i64 8) ∧ Below W.heap.size W w') := fun W vs hW h1 => by
          have h6 := fits_any (nm := mnm) h1 HSW.out HFS.out.few (HTW.out.cel (Cel.ofBelow hW)) (by decide) (oth_cnt HFIT.out.2 kq e _ HI.out HXL.out.2 (by decide)) (oth_sm HFIT.out.1.sm kq e _ HI.out (by exact ⟨by decide, by decide, by decide, (fun f hf => by cases hf), fun e he => by cases he⟩))
          rw [HV8.out] at h6
          exact h6
        clear HT hkp hjx hMO HTW HFr
        go_wp2_with fail
        clear fr dlt
        have hS : Below wr.heap.size wr wr.drew := (Below.refl _ _).drew
        refine wp_region_held_drew (S := fun w' => Below wr.heap.size wr w') (by kernel_rfl) hS (fun hS => ?_)
        refine rg_take 0 82 (.agg #[.string sn, .slice (some ⟨g, off, none⟩) mn mc, .slice ea en ec, .slice ta tn tc]) _ rfl rfl (by kernel_rfl) (by kernel_rfl) (by kernel_rfl) (fun _ _ _ h => h) (by rfl) (fun w' hw' => ?_) hS (listed' := #[true, false, false, false, false, false, false, false, false, false, false]) (by kernel_rfl) rfl ?_
        · have f0 := (BS.below hw').cell 0; have f1 := (BS.below hw').cell 1; have f2 := (BS.below hw').cell 2; have f3 := (BS.below hw').cell 3; go_simp
        simp only [List.setIfInBounds_toArray, List.set_cons_zero, List.set_cons_succ]
        refine rg_take 2 84 (.pointer (some ⟨b4, 0, none⟩)) _ rfl rfl (by kernel_rfl) (by kernel_rfl) (by kernel_rfl) (fun _ _ _ h => h) (by rfl) (fun w' hw' => ?_) hS (listed' := #[true, false, true, false, false, false, false, false, false, false, false]) (by kernel_rfl) rfl ?_
        · go_simp
        simp only [List.setIfInBounds_toArray, List.set_cons_zero, List.set_cons_succ]
        refine rg_take 3 85 (.string mnm) _ rfl rfl (by kernel_rfl) (by kernel_rfl) (by kernel_rfl) (fun _ _ _ h => h) (by rfl) (fun w' hw' => ?_) hS (listed' := #[true, false, true, true, false, false, false, false, false, false, false]) (by kernel_rfl) rfl ?_
        · have f0 := (BM.below hw').cell 0; go_simp
        simp only [List.setIfInBounds_toArray, List.set_cons_zero, List.set_cons_succ]
        refine rg_take 4 86 (.agg #[.int .i64 3, .int .i64 0, .string ⟨#[]⟩, .slice (some ⟨ge, 0, none⟩) E y3, .slice y4 0 y6]) _ rfl rfl (by kernel_rfl) (by kernel_rfl) (by kernel_rfl) (fun _ _ _ h => h) (by rfl) (fun w' hw' => ?_) hS (listed' := #[true, false, true, true, true, false, false, false, false, false, false]) (by kernel_rfl) rfl ?_
        · have f0 := (BT.below hw').cell 0; have f1 := (BT.below hw').cell 1; have f2 := (BT.below hw').cell 2; have f3 := (BT.below hw').cell 3; have f4 := (BT.below hw').cell 4; go_simp
        simp only [List.setIfInBounds_toArray, List.set_cons_zero, List.set_cons_succ]
        refine rg_call 1 83 10 #[.agg #[.string sn, .slice (some ⟨g, off, none⟩) mn mc, .slice ea en ec, .slice ta tn tc]] rfl rfl (by kernel_rfl) (by rfl) (listed' := #[true, true, true, true, true, false, false, false, false, false, false]) (by kernel_rfl) (fun W => by go_simp) ?_
        refine (HCS.out _ hS).mono ?_
        rintro ee W1 ⟨vs, rfl, hvs, hbW1⟩
        have HVS1 : Hid (ScIn W1 vs s) := hvs
        have hS0 := hS
        have hS : Below wr.heap.size wr W1 := hS0.trans (hbW1.mono hS0.size)
        clear hS0 hbW1 hvs
        refine ⟨_, rfl, hS, ?_⟩
        simp only [List.setIfInBounds_toArray, List.set_cons_zero, List.set_cons_succ]
        refine rg_call 5 87 12 #[vs, .string mnm, .agg #[.int .i64 3, .int .i64 0, .string ⟨#[]⟩, .slice (some ⟨ge, 0, none⟩) E y3, .slice y4 0 y6]] rfl rfl (by kernel_rfl) (by rfl) (listed' := #[true, true, true, true, true, true, false, false, false, false, false]) (by kernel_rfl) (fun W => by go_simp) ?_
        refine (HVL.out W1 vs hS HVS1.out).mono ?_
        rintro ee W3 ⟨rfl, hbW3⟩
        have hS0 := hS
        have hS : Below wr.heap.size wr W3 := hS0.trans (hbW3.mono hS0.size)
        clear hS0 hbW3
        refine ⟨_, rfl, hS, ?_⟩
        simp only [List.setIfInBounds_toArray, List.set_cons_zero, List.set_cons_succ]
        refine rg_take 6 88 (.bool true) _ rfl rfl (by kernel_rfl) (by kernel_rfl) (by kernel_rfl) (fun _ _ _ h => h) (by rfl) (fun w' hw' => ?_) hS (listed' := #[true, true, true, true, true, true, true, false, false, false, false]) (by kernel_rfl) rfl ?_
        · go_simp
        simp only [List.setIfInBounds_toArray, List.set_cons_zero, List.set_cons_succ]
        refine rg_take 7 89 (.bool true) _ rfl rfl (by kernel_rfl) (by kernel_rfl) (by kernel_rfl) (fun _ _ _ h => h) (by rfl) (fun w' hw' => ?_) hS (listed' := #[true, true, true, true, true, true, true, true, false, false, false]) (by kernel_rfl) rfl ?_
        · go_simp
        simp only [List.setIfInBounds_toArray, List.set_cons_zero, List.set_cons_succ]
        refine rg_call 8 90 9 #[] rfl rfl (by kernel_rfl) (by rfl) (listed' := #[true, true, true, true, true, true, true, true, true, false, false]) (by kernel_rfl) (fun W => by go_simp) ?_
        refine (awake_any _).mono ?_
        rintro ee W4 ⟨rfl, hbW4⟩
        have hS0 := hS
        have hS : Below wr.heap.size wr W4 := hS0.trans (hbW4.mono hS0.size)
        clear hS0 hbW4
        refine ⟨_, rfl, hS, ?_⟩
        simp only [List.setIfInBounds_toArray, List.set_cons_zero, List.set_cons_succ]
        refine rg_take 9 91 (.bool true) _ rfl rfl (by kernel_rfl) (by kernel_rfl) (by kernel_rfl) (fun _ _ _ h => h) (by rfl) (fun w' hw' => ?_) hS (listed' := #[true, true, true, true, true, true, true, true, true, true, false]) (by kernel_rfl) rfl ?_
        · go_simp
        simp only [List.setIfInBounds_toArray, List.set_cons_zero, List.set_cons_succ]
        refine rg_take 10 8 (.bool true) _ rfl rfl (by kernel_rfl) (by kernel_rfl) (by kernel_rfl) (fun _ _ _ h => h) (by rfl) (fun w' hw' => ?_) hS (listed' := #[true, true, true, true, true, true, true, true, true, true, true]) (by kernel_rfl) rfl ?_
        · go_simp
        simp only [List.setIfInBounds_toArray, List.set_cons_zero, List.set_cons_succ]
        refine wpAnyH_done (by kernel_rfl) ?_ _
        have hbwz : Below w.heap.size w W4 := hbwr.trans (hS.mono hbwr.size)
        go_wp2_with fail
        go_ret
        exact ⟨rfl, hbwz⟩
  · have dK : (KX == 1) = false := by simpa using hK1
    obtain ⟨W10, hW10⟩ : ∃ z, z = (W9.alloc (Obj.cells #[.int .i64 1, .int .i64 1, .string ⟨#[]⟩, .slice none 0 0, .slice none 0 0] 30)) := ⟨_, rfl⟩
    have al10 : Below W9.heap.size W9 W10 := by rw [hW10]; exact (Below.refl _ _).alloc (Nat.le_refl _) _
    have BO10 : Blk W10 W9.heap.size #[.int .i64 1, .int .i64 1, .string ⟨#[]⟩, .slice none 0 0, .slice none 0 0] 30 := by rw [hW10]; exact Blk.new W9 _ _
    have HO10 : Hid (TrO 6 w6.heap.size W10 [.int .i64 3, .int .i64 0, .string ⟨#[]⟩, .slice (some ⟨ge, 0, none⟩) E y3, .slice y4 0 y6] t bs7) := HO9.out.sm (Sm.below al10 fun k hk => by have := (HAP.out.2 k hk).2; omega)
    have HB10 : Hid (Blk W10 bt #[.int .i64 3, .int .i64 0, .string ⟨#[]⟩, .slice (some ⟨ge, 0, none⟩) E y3, .slice y4 0 y6] 30 ∧ Blk W10 b0 #[.string sn, .slice (some ⟨g, off, none⟩) mn mc, .slice ea en ec, .slice ta tn tc] 26 ∧ Blk W10 b4 #[.string mnm, .slice fa fl fc, .slice ra rl rc] 50) := ⟨HBT9.out.1.below al10, HBT9.out.2.1.below al10, HBT9.out.2.2.below al10⟩
    have HF10 : Hid (W10.cell? ⟨ge, kq * 2 + 1, none⟩ = some (.slice (some ⟨g7, 0, none⟩) Xl gc)) := (al10.cell (p := ⟨ge, kq * 2 + 1, none⟩) hgz).trans f1
    have hb610 : Below w6.heap.size w6 W10 := hb69.trans (al10.mono hb69.size)
    have hbw10 : Below w.heap.size w W10 := hbw9.trans (al10.mono hbw9.size)
    go_upto_region 12 with fail
    rw [← hW10]
    clear hW10 f1 f6 al10 HO9 HBT9 hb69 hbw9
    obtain ⟨bo, hbo⟩ : ∃ z, W9.heap.size = z := ⟨_, rfl⟩
    rw [hbo] at BO10 hbt9 hgz hgz7
    try simp only [hbo]
    clear hbo
    have HBO10 : Hid (Blk W10 bo #[.int .i64 1, .int .i64 1, .string ⟨#[]⟩, .slice none 0 0, .slice none 0 0] 30) := BO10
    have HT10 : Hid (∃ bs', TrO 6 w6.heap.size W10 [.int .i64 3, .int .i64 0, .string ⟨#[]⟩, .slice (some ⟨ge, 0, none⟩) E y3, .slice y4 0 y6] (othT t kq e (rowJ e.2 (⟨1, 1, ⟨#[]⟩, [], []⟩) 0)) bs' ∧ bs'.Nodup ∧ ∀ k ∈ bs', k ∈ bs7) := ⟨bs7, by
      rw [rowJ_zero]
      have h1 : othT t kq e e.2 = t := othT_same HI.out
      rw [h1]
      exact HO10.out, HAP.out.1, fun k hk => hk⟩
    clear HO10 BO10
    go_loopw [13] (fun jv wr => ∃ j : Nat, jv = .int .i64 (j : Int) ∧ j ≤ Xl ∧ Hid (∃ bs', TrO 6 w6.heap.size wr [.int .i64 3, .int .i64 0, .string ⟨#[]⟩, .slice (some ⟨ge, 0, none⟩) E y3, .slice y4 0 y6] (othT t kq e (rowJ e.2 (⟨1, 1, ⟨#[]⟩, [], []⟩) j)) bs' ∧ bs'.Nodup ∧ ∀ k ∈ bs', k ∈ bs7) ∧ Kp (fun q => q = g7) W10 wr) (fun jv _ => Xl - (intOf jv).toNat)
    case atStart => exact ⟨0, rfl, by omega, HT10, Kp.refl _ _⟩
    case round =>
      obtain ⟨j, rfl, hj, HT, hkp⟩ := hrel
      have HFr : Hid (wr.cell? ⟨ge, kq * 2 + 1, none⟩ = some (.slice (some ⟨g7, 0, none⟩) Xl gc)) := hkp.cell HF10.out (fun h => hge h.symm)
      have fr := HFr.out
      by_cases hlt : j < Xl
      · obtain ⟨bs', hT, hnd, hsub⟩ := HT.out
        have hes : (othT t kq e (rowJ e.2 (⟨1, 1, ⟨#[]⟩, [], []⟩) j)).es.length = E := by show (t.es.set kq _).length = E; rw [List.length_set, HE.out]
        have hix : (othT t kq e (rowJ e.2 (⟨1, 1, ⟨#[]⟩, [], []⟩) j)).es[kq]? = some (e.1, rowJ e.2 (⟨1, 1, ⟨#[]⟩, [], []⟩) j) := by
          show (t.es.set kq _)[kq]? = _
          rw [List.getElem?_set, if_pos rfl, if_pos (by rw [HE.out]; exact hkE)]
        have hrl : (rowJ e.2 (⟨1, 1, ⟨#[]⟩, [], []⟩) j).length = Xl := by rw [rowJ_len _ _ (by rw [HXL.out.1]; exact hj), HXL.out.1]
        have hTd : TrO 6 w6.heap.size wr.drew [.int .i64 3, .int .i64 0, .string ⟨#[]⟩, .slice (some ⟨ge, 0, none⟩) (othT t kq e (rowJ e.2 (⟨1, 1, ⟨#[]⟩, [], []⟩) j)).es.length y3, .slice y4 0 y6] (othT t kq e (rowJ e.2 (⟨1, 1, ⟨#[]⟩, [], []⟩) j)) bs' := by rw [hes]; exact hT.sm fun k hk => rfl
        have hcd : wr.drew.cell? ⟨ge, kq * 2 + 1, none⟩ = some (.slice (some ⟨g7, 0, none⟩) (e.1, rowJ e.2 (⟨1, 1, ⟨#[]⟩, [], []⟩) j).2.length gc) := by rw [hrl]; exact HFr.out
        obtain ⟨p0, p1, p2, p3, p4, k0, k1, k2, k3, k4, kz⟩ := TrO.leafCells hTd hix hcd (j := j) (by rw [hrl]; exact hlt)
        obtain ⟨bs2, hT2, hnd2, hsub2, -, -⟩ := TrO.setLeaf hTd hnd hix hcd (j := j) (by rw [hrl]; exact hlt) (TrO.numLeaf 4 w6.heap.size)
        rw [hes] at hT2
        have hst : (⟨(othT t kq e (rowJ e.2 (⟨1, 1, ⟨#[]⟩, [], []⟩) j)).kind, (othT t kq e (rowJ e.2 (⟨1, 1, ⟨#[]⟩, [], []⟩) j)).n, (othT t kq e (rowJ e.2 (⟨1, 1, ⟨#[]⟩, [], []⟩) j)).s, (othT t kq e (rowJ e.2 (⟨1, 1, ⟨#[]⟩, [], []⟩) j)).es.set kq ((e.1, rowJ e.2 (⟨1, 1, ⟨#[]⟩, [], []⟩) j).1, (e.1, rowJ e.2 (⟨1, 1, ⟨#[]⟩, [], []⟩) j).2.set j (⟨1, 1, ⟨#[]⟩, [], []⟩)), (othT t kq e (rowJ e.2 (⟨1, 1, ⟨#[]⟩, [], []⟩) j)).rest⟩ : Tr) = othT t kq e (rowJ e.2 (⟨1, 1, ⟨#[]⟩, [], []⟩) (j + 1)) := by
          have h1 := rowJ_step (ts := e.2) (o := ⟨1, 1, ⟨#[]⟩, [], []⟩) (j := j) (by rw [HXL.out.1]; exact hlt)
          simp only [othT, List.set_set]
          rw [h1]
        rw [hst] at hT2
        have HT2 : Hid (∃ bs', TrO 6 w6.heap.size (set5 wr.drew g7 (j * 5) (.int .i64 1) (.int .i64 1) (.string ⟨#[]⟩) (.slice none 0 0) (.slice none 0 0)) [.int .i64 3, .int .i64 0, .string ⟨#[]⟩, .slice (some ⟨ge, 0, none⟩) E y3, .slice y4 0 y6] (othT t kq e (rowJ e.2 (⟨1, 1, ⟨#[]⟩, [], []⟩) (j + 1))) bs' ∧ bs'.Nodup ∧ ∀ k ∈ bs', k ∈ bs7) := ⟨bs2, hT2, hnd2, fun k hk => hsub k (hsub2 k hk)⟩
        have hkp2 : Kp (fun q => q = g7) W10 (set5 wr.drew g7 (j * 5) (.int .i64 1) (.int .i64 1) (.string ⟨#[]⟩) (.slice none 0 0) (.slice none 0 0)) := (hkp.drewN 1).trans (set5_kp _ _ _ _ _ _ _ _)
        have z0 := kz (j * 5)
        have z1 := kz (j * 5 + 1)
        have z2 := kz (j * 5 + 2)
        have z3 := kz (j * 5 + 3)
        have z4 := kz (j * 5 + 4)
        have BOr := HBO10.out.kp hkp (by have := HG79.out.1; omega)
        have HTT : Hid (wr.cell? ⟨ge, kq * 2 + 1, none⟩ = some (.slice (some ⟨g7, 0, none⟩) Xl gc) ∧ wr.cell? ⟨bo, 0, none⟩ = #[.int .i64 1, .int .i64 1, .string ⟨#[]⟩, .slice none 0 0, .slice none 0 0][0]? ∧ wr.cell? ⟨bo, 1, none⟩ = #[.int .i64 1, .int .i64 1, .string ⟨#[]⟩, .slice none 0 0, .slice none 0 0][1]? ∧ wr.cell? ⟨bo, 2, none⟩ = #[.int .i64 1, .int .i64 1, .string ⟨#[]⟩, .slice none 0 0, .slice none 0 0][2]? ∧ wr.cell? ⟨bo, 3, none⟩ = #[.int .i64 1, .int .i64 1, .string ⟨#[]⟩, .slice none 0 0, .slice none 0 0][3]? ∧ wr.cell? ⟨bo, 4, none⟩ = #[.int .i64 1, .int .i64 1, .string ⟨#[]⟩, .slice none 0 0, .slice none 0 0][4]?) := ⟨HFr.out, BOr.cell 0, BOr.cell 1, BOr.cell 2, BOr.cell 3, BOr.cell 4⟩
        replace k0 : wr.cell? ⟨g7, j * 5, none⟩ = some p0 := k0
        replace z0 : wr.frozen? ⟨g7, j * 5, none⟩ = false := z0
        replace k1 : wr.cell? ⟨g7, j * 5 + 1, none⟩ = some p1 := k1
        replace z1 : wr.frozen? ⟨g7, j * 5 + 1, none⟩ = false := z1
        replace k2 : wr.cell? ⟨g7, j * 5 + 2, none⟩ = some p2 := k2
        replace z2 : wr.frozen? ⟨g7, j * 5 + 2, none⟩ = false := z2
        replace k3 : wr.cell? ⟨g7, j * 5 + 3, none⟩ = some p3 := k3
        replace z3 : wr.frozen? ⟨g7, j * 5 + 3, none⟩ = false := z3
        replace k4 : wr.cell? ⟨g7, j * 5 + 4, none⟩ = some p4 := k4
        replace z4 : wr.frozen? ⟨g7, j * 5 + 4, none⟩ = false := z4
        clear hT hnd hsub hes hix hrl hTd hcd kz hT2 hnd2 hsub2 hst BOr hkp HT
        go_wp2_with fail
        refine M_region (T := fun W => W.cell? ⟨ge, kq * 2 + 1, none⟩ = some (.slice (some ⟨g7, 0, none⟩) Xl gc) ∧ W.cell? ⟨bo, 0, none⟩ = #[.int .i64 1, .int .i64 1, .string ⟨#[]⟩, .slice none 0 0, .slice none 0 0][0]? ∧ W.cell? ⟨bo, 1, none⟩ = #[.int .i64 1, .int .i64 1, .string ⟨#[]⟩, .slice none 0 0, .slice none 0 0][1]? ∧ W.cell? ⟨bo, 2, none⟩ = #[.int .i64 1, .int .i64 1, .string ⟨#[]⟩, .slice none 0 0, .slice none 0 0][2]? ∧ W.cell? ⟨bo, 3, none⟩ = #[.int .i64 1, .int .i64 1, .string ⟨#[]⟩, .slice none 0 0, .slice none 0 0][3]? ∧ W.cell? ⟨bo, 4, none⟩ = #[.int .i64 1, .int .i64 1, .string ⟨#[]⟩, .slice none 0 0, .slice none 0 0][4]?) (m := 7) (by kernel_rfl) ?_
        have hS : wr.drew.cell? ⟨ge, kq * 2 + 1, none⟩ = some (.slice (some ⟨g7, 0, none⟩) Xl gc) ∧ wr.drew.cell? ⟨bo, 0, none⟩ = #[.int .i64 1, .int .i64 1, .string ⟨#[]⟩, .slice none 0 0, .slice none 0 0][0]? ∧ wr.drew.cell? ⟨bo, 1, none⟩ = #[.int .i64 1, .int .i64 1, .string ⟨#[]⟩, .slice none 0 0, .slice none 0 0][1]? ∧ wr.drew.cell? ⟨bo, 2, none⟩ = #[.int .i64 1, .int .i64 1, .string ⟨#[]⟩, .slice none 0 0, .slice none 0 0][2]? ∧ wr.drew.cell? ⟨bo, 3, none⟩ = #[.int .i64 1, .int .i64 1, .string ⟨#[]⟩, .slice none 0 0, .slice none 0 0][3]? ∧ wr.drew.cell? ⟨bo, 4, none⟩ = #[.int .i64 1, .int .i64 1, .string ⟨#[]⟩, .slice none 0 0, .slice none 0 0][4]? := HTT.out
        refine M_take 0 75 (.pointer (some ⟨ge, kq * 2, none⟩)) _ rfl rfl (by kernel_rfl) (by kernel_rfl) (by kernel_rfl) (by kernel_rfl) (by kernel_rfl) (fun _ _ _ h => h) (by rfl) (fun w' hw' => ?_) hS (listed' := #[true, false, false, false, false, false, false, false]) (by kernel_rfl) rfl ?_
        · go_simp
        simp only [List.setIfInBounds_toArray, List.set_cons_zero, List.set_cons_succ]
        refine M_take 1 76 (.pointer (some ⟨ge, kq * 2, none⟩)) _ rfl rfl (by kernel_rfl) (by kernel_rfl) (by kernel_rfl) (by kernel_rfl) (by kernel_rfl) (fun _ _ _ h => h) (by rfl) (fun w' hw' => ?_) hS (listed' := #[true, true, false, false, false, false, false, false]) (by kernel_rfl) rfl ?_
        · go_simp
        simp only [List.setIfInBounds_toArray, List.set_cons_zero, List.set_cons_succ]
        refine M_take 2 77 (.pointer (some ⟨ge, kq * 2 + 1, none⟩)) _ rfl rfl (by kernel_rfl) (by kernel_rfl) (by kernel_rfl) (by kernel_rfl) (by kernel_rfl) (fun _ _ _ h => h) (by rfl) (fun w' hw' => ?_) hS (listed' := #[true, true, true, false, false, false, false, false]) (by kernel_rfl) rfl ?_
        · go_simp
        simp only [List.setIfInBounds_toArray, List.set_cons_zero, List.set_cons_succ]
        refine M_take 3 78 (.slice (some ⟨g7, 0, none⟩) Xl gc) _ rfl rfl (by kernel_rfl) (by kernel_rfl) (by kernel_rfl) (by kernel_rfl) (by kernel_rfl) (fun _ _ _ h => h) (by rfl) (fun w' hw' => ?_) hS (listed' := #[true, true, true, true, false, false, false, false]) (by kernel_rfl) rfl ?_
        · obtain ⟨f0, f1, f2, f3, f4, f5⟩ := hw'; replace f1 := f1.trans rfl; replace f2 := f2.trans rfl; replace f3 := f3.trans rfl; replace f4 := f4.trans rfl; replace f5 := f5.trans rfl; go_simp
        simp only [List.setIfInBounds_toArray, List.set_cons_zero, List.set_cons_succ]
        refine M_take 4 79 (.int .i64 (j : Int)) _ rfl rfl (by kernel_rfl) (by kernel_rfl) (by kernel_rfl) (by kernel_rfl) (by kernel_rfl) (fun _ _ _ h => h) (by rfl) (fun w' hw' => ?_) hS (listed' := #[true, true, true, true, true, false, false, false]) (by kernel_rfl) rfl ?_
        · go_simp
        simp only [List.setIfInBounds_toArray, List.set_cons_zero, List.set_cons_succ]
        refine M_take 5 80 (.agg #[.int .i64 1, .int .i64 1, .string ⟨#[]⟩, .slice none 0 0, .slice none 0 0]) _ rfl rfl (by kernel_rfl) (by kernel_rfl) (by kernel_rfl) (by kernel_rfl) (by kernel_rfl) (fun _ _ _ h => h) (by rfl) (fun w' hw' => ?_) hS (listed' := #[true, true, true, true, true, true, false, false]) (by kernel_rfl) rfl ?_
        · obtain ⟨f0, f1, f2, f3, f4, f5⟩ := hw'; replace f1 := f1.trans rfl; replace f2 := f2.trans rfl; replace f3 := f3.trans rfl; replace f4 := f4.trans rfl; replace f5 := f5.trans rfl; go_simp
        simp only [List.setIfInBounds_toArray, List.set_cons_zero, List.set_cons_succ]
        refine M_take 6 81 (.pointer (some ⟨g7, j * 5, none⟩)) _ rfl rfl (by kernel_rfl) (by kernel_rfl) (by kernel_rfl) (by kernel_rfl) (by kernel_rfl) (fun _ _ _ h => h) (by rfl) (fun w' hw' => ?_) hS (listed' := #[true, true, true, true, true, true, true, false]) (by kernel_rfl) rfl ?_
        · go_simp
        simp only [List.setIfInBounds_toArray, List.set_cons_zero, List.set_cons_succ]
        refine M_store 7 (set5 wr.drew g7 (j * 5) (.int .i64 1) (.int .i64 1) (.string ⟨#[]⟩) (.slice none 0 0) (.slice none 0 0)) rfl rfl (by kernel_rfl) (by rfl) (listed' := #[true, true, true, true, true, true, true, true]) (by kernel_rfl) (by unfold set5; go_simp) (by kernel_rfl) ?_
        refine M_done (by kernel_rfl) ?_ _
        clear hS k0 k1 k2 k3 k4 z0 z1 z2 z3 z4 HTT fr
        go_wp2_with fail
        go_roundw
        case rel => exact ⟨j + 1, by go_num, by omega, HT2, hkp2⟩
        case measure => simp [intOf]; omega
      · have dlt : decide ((j : Int) < (Xl : Int)) = false := by simp; omega
        have hjx : j = e.2.length := by have := HXL.out.1; omega
        have HTW : Hid (TrW 6 wr (.agg #[.int .i64 3, .int .i64 0, .string ⟨#[]⟩, .slice (some ⟨ge, 0, none⟩) E y3, .slice y4 0 y6]) (othT t kq e (List.replicate e.2.length (⟨1, 1, ⟨#[]⟩, [], []⟩)))) := (by
          obtain ⟨bs', hT, -, -⟩ := HT.out
          have h1 : rowJ e.2 (⟨1, 1, ⟨#[]⟩, [], []⟩) j = List.replicate e.2.length (⟨1, 1, ⟨#[]⟩, [], []⟩) := by rw [hjx]; exact rowJ_all _ _
          rw [h1] at hT
          exact ⟨_, rfl, hT.trR⟩ : TrW 6 wr (.agg #[.int .i64 3, .int .i64 0, .string ⟨#[]⟩, .slice (some ⟨ge, 0, none⟩) E y3, .slice y4 0 y6]) (othT t kq e (List.replicate e.2.length (⟨1, 1, ⟨#[]⟩, [], []⟩))))
        have hMO : msgOf s mnm = some m := by
          have h1 := ok_findM HOK.out HM.out
          rw [HNM.out] at h1
          exact h1
        have HV8 : Hid (validA 6 s mnm (othT t kq e (List.replicate e.2.length (⟨1, 1, ⟨#[]⟩, [], []⟩))) = 8) := oth_valid HFIT.out.1 (by decide) HA.out (by rw [hMO]; rfl) HI.out HX0.out (by decide) (by rw [HKX.out]; exact fun h => hK1 h.symm)
        have BT := HB10.out.1.kp hkp (by have := HG79.out.1; omega)
        have BS := HB10.out.2.1.kp hkp (by have := HG79.out.2; omega)
        have BM := HB10.out.2.2.kp hkp (by have := HG79.out.2; omega)
        have hbr : Below w6.heap.size w6 wr := hb610.trans (hkp.toBelow hb610.size fun k e => by rw [e]; exact HG79.out.2)
        have hbwr : Below w.heap.size w wr := hbw6.trans (hbr.mono hbw6.size)
        have HCS : Hid (∀ W, Below wr.heap.size wr W → Calls Tryz.prog 10 #[.agg #[.string sn, .slice (some ⟨g, off, none⟩) mn mc, .slice ea en ec, .slice ta tn tc]] W fun e w' => ∃ r, e = .returned r ∧ ScIn w' r s ∧ Below W.heap.size W w') := fun W hW => schemaC_any (HSC.out.below (hbwr.trans (hW.mono hbwr.size))) HFS.out.few
        have HVL : Hid (∀ W vs, Below wr.heap.size wr W → ScIn W vs s → Calls Tryz.prog 12 #[vs, .string mnm, .agg #[.int .i64 3, .int .i64 0, .string ⟨#[]⟩, .slice (some ⟨ge, 0, none⟩) E y3, .slice y4 0 y6]] W fun e w' => e = .returned (.int .i64 8) ∧ Below W.heap.size W w') := fun W vs hW h1 => by
          have h6 := fits_any (nm := mnm) h1 HSW.out HFS.out.few (HTW.out.cel (Cel.ofBelow hW)) (by decide) (oth_cnt HFIT.out.2 kq e _ HI.out HXL.out.2 (by decide)) (oth_sm HFIT.out.1.sm kq e _ HI.out (by exact ⟨by decide, by decide, by decide, (fun f hf => by cases hf), fun e he => by cases he⟩))
          rw [HV8.out] at h6
          exact h6
        clear HT hkp hjx hMO HTW HFr
        go_wp2_with fail
        clear fr dlt
        have hS : Below wr.heap.size wr wr.drew := (Below.refl _ _).drew
        refine wp_region_held_drew (S := fun w' => Below wr.heap.size wr w') (by kernel_rfl) hS (fun hS => ?_)
        refine rg_take 0 82 (.agg #[.string sn, .slice (some ⟨g, off, none⟩) mn mc, .slice ea en ec, .slice ta tn tc]) _ rfl rfl (by kernel_rfl) (by kernel_rfl) (by kernel_rfl) (fun _ _ _ h => h) (by rfl) (fun w' hw' => ?_) hS (listed' := #[true, false, false, false, false, false, false, false, false, false, false]) (by kernel_rfl) rfl ?_
        · have f0 := (BS.below hw').cell 0; have f1 := (BS.below hw').cell 1; have f2 := (BS.below hw').cell 2; have f3 := (BS.below hw').cell 3; go_simp
        simp only [List.setIfInBounds_toArray, List.set_cons_zero, List.set_cons_succ]
        refine rg_take 2 84 (.pointer (some ⟨b4, 0, none⟩)) _ rfl rfl (by kernel_rfl) (by kernel_rfl) (by kernel_rfl) (fun _ _ _ h => h) (by rfl) (fun w' hw' => ?_) hS (listed' := #[true, false, true, false, false, false, false, false, false, false, false]) (by kernel_rfl) rfl ?_
        · go_simp
        simp only [List.setIfInBounds_toArray, List.set_cons_zero, List.set_cons_succ]
        refine rg_take 3 85 (.string mnm) _ rfl rfl (by kernel_rfl) (by kernel_rfl) (by kernel_rfl) (fun _ _ _ h => h) (by rfl) (fun w' hw' => ?_) hS (listed' := #[true, false, true, true, false, false, false, false, false, false, false]) (by kernel_rfl) rfl ?_
        · have f0 := (BM.below hw').cell 0; go_simp
        simp only [List.setIfInBounds_toArray, List.set_cons_zero, List.set_cons_succ]
        refine rg_take 4 86 (.agg #[.int .i64 3, .int .i64 0, .string ⟨#[]⟩, .slice (some ⟨ge, 0, none⟩) E y3, .slice y4 0 y6]) _ rfl rfl (by kernel_rfl) (by kernel_rfl) (by kernel_rfl) (fun _ _ _ h => h) (by rfl) (fun w' hw' => ?_) hS (listed' := #[true, false, true, true, true, false, false, false, false, false, false]) (by kernel_rfl) rfl ?_
        · have f0 := (BT.below hw').cell 0; have f1 := (BT.below hw').cell 1; have f2 := (BT.below hw').cell 2; have f3 := (BT.below hw').cell 3; have f4 := (BT.below hw').cell 4; go_simp
        simp only [List.setIfInBounds_toArray, List.set_cons_zero, List.set_cons_succ]
        refine rg_call 1 83 10 #[.agg #[.string sn, .slice (some ⟨g, off, none⟩) mn mc, .slice ea en ec, .slice ta tn tc]] rfl rfl (by kernel_rfl) (by rfl) (listed' := #[true, true, true, true, true, false, false, false, false, false, false]) (by kernel_rfl) (fun W => by go_simp) ?_
        refine (HCS.out _ hS).mono ?_
        rintro ee W1 ⟨vs, rfl, hvs, hbW1⟩
        have HVS1 : Hid (ScIn W1 vs s) := hvs
        have hS0 := hS
        have hS : Below wr.heap.size wr W1 := hS0.trans (hbW1.mono hS0.size)
        clear hS0 hbW1 hvs
        refine ⟨_, rfl, hS, ?_⟩
        simp only [List.setIfInBounds_toArray, List.set_cons_zero, List.set_cons_succ]
        refine rg_call 5 87 12 #[vs, .string mnm, .agg #[.int .i64 3, .int .i64 0, .string ⟨#[]⟩, .slice (some ⟨ge, 0, none⟩) E y3, .slice y4 0 y6]] rfl rfl (by kernel_rfl) (by rfl) (listed' := #[true, true, true, true, true, true, false, false, false, false, false]) (by kernel_rfl) (fun W => by go_simp) ?_
        refine (HVL.out W1 vs hS HVS1.out).mono ?_
        rintro ee W3 ⟨rfl, hbW3⟩
        have hS0 := hS
        have hS : Below wr.heap.size wr W3 := hS0.trans (hbW3.mono hS0.size)
        clear hS0 hbW3
        refine ⟨_, rfl, hS, ?_⟩
        simp only [List.setIfInBounds_toArray, List.set_cons_zero, List.set_cons_succ]
        refine rg_take 6 88 (.bool true) _ rfl rfl (by kernel_rfl) (by kernel_rfl) (by kernel_rfl) (fun _ _ _ h => h) (by rfl) (fun w' hw' => ?_) hS (listed' := #[true, true, true, true, true, true, true, false, false, false, false]) (by kernel_rfl) rfl ?_
        · go_simp
        simp only [List.setIfInBounds_toArray, List.set_cons_zero, List.set_cons_succ]
        refine rg_take 7 89 (.bool true) _ rfl rfl (by kernel_rfl) (by kernel_rfl) (by kernel_rfl) (fun _ _ _ h => h) (by rfl) (fun w' hw' => ?_) hS (listed' := #[true, true, true, true, true, true, true, true, false, false, false]) (by kernel_rfl) rfl ?_
        · go_simp
        simp only [List.setIfInBounds_toArray, List.set_cons_zero, List.set_cons_succ]
        refine rg_call 8 90 9 #[] rfl rfl (by kernel_rfl) (by rfl) (listed' := #[true, true, true, true, true, true, true, true, true, false, false]) (by kernel_rfl) (fun W => by go_simp) ?_
        refine (awake_any _).mono ?_
        rintro ee W4 ⟨rfl, hbW4⟩
        have hS0 := hS
        have hS : Below wr.heap.size wr W4 := hS0.trans (hbW4.mono hS0.size)
        clear hS0 hbW4
        refine ⟨_, rfl, hS, ?_⟩
        simp only [List.setIfInBounds_toArray, List.set_cons_zero, List.set_cons_succ]
        refine rg_take 9 91 (.bool true) _ rfl rfl (by kernel_rfl) (by kernel_rfl) (by kernel_rfl) (fun _ _ _ h => h) (by rfl) (fun w' hw' => ?_) hS (listed' := #[true, true, true, true, true, true, true, true, true, true, false]) (by kernel_rfl) rfl ?_
        · go_simp
        simp only [List.setIfInBounds_toArray, List.set_cons_zero, List.set_cons_succ]
        refine rg_take 10 8 (.bool true) _ rfl rfl (by kernel_rfl) (by kernel_rfl) (by kernel_rfl) (fun _ _ _ h => h) (by rfl) (fun w' hw' => ?_) hS (listed' := #[true, true, true, true, true, true, true, true, true, true, true]) (by kernel_rfl) rfl ?_
        · go_simp
        simp only [List.setIfInBounds_toArray, List.set_cons_zero, List.set_cons_succ]
        refine wpAnyH_done (by kernel_rfl) ?_ _
        have hbwz : Below w.heap.size w W4 := hbwr.trans (hS.mono hbwr.size)
        go_wp2_with fail
        go_ret
        exact ⟨rfl, hbwz⟩
end Go.Proofs.YtfnjbbaphmmjlaaGreat
