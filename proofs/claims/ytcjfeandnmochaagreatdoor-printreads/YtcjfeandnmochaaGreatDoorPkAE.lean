/- Part 5 of what the proof stands on. -/
import Derived.Test.YtcjfeandnmochaaGreatDoorPkAD
namespace Go.Proofs.YtcjfeandnmochaaGreatDoor
open Go.ChangeShapes Go.WideShapes Go.ChangeAt Go.RowKit
set_option linter.unusedVariables false
set_option linter.unusedSimpArgs false
set_option maxRecDepth 20000
set_option maxHeartbeats 40000000 in
theorem rcanon_any {w : World} {v : Value} {s : ScS} (hr : ScIn w v s) (hf : FewL s) :
  Calls Tryz.prog 15 #[v] w fun e w' => ∃ vm ve vt pm pe, e = .returned (.agg #[.string s.name, vm, ve, vt]) ∧ MsO w' w.heap.size vm (canonS s).msgs pm ∧ EnO w' w.heap.size ve (canonS s).enums pe ∧ w'.ownsRow w.heap.size 46 3 vt s.methods.length (mtRows s.methods).flatten ∧ Below w.heap.size w w' := by
 obtain ⟨vm0, ve0, vt0, rfl, hm, he, ht⟩ := hr
 obtain ⟨am, cm, rfl, qm1, qm2⟩ := hm.form2
 obtain ⟨ae, ce, rfl, qe1, qe2⟩ := he.form2
 obtain ⟨at', ct, rfl, qt1, qt2⟩ := ht.form2
 have hT : (mtRows s.methods).length = s.methods.length := by simp [mtRows]
 rw [hT] at ht qt1 ⊢
 clear hT
 have HM : Hid (MsIn w (.slice am s.msgs.length cm) s.msgs) := hm
 have HE : Hid (EnIn w (.slice ae s.enums.length ce) s.enums) := he
 have HT : Hid (RowG w (.slice at' s.methods.length ct) 3 (mtRows s.methods)) := ht
 have HF : Hid (FewL s) := hf
 have h1 := hf.msgs
 have h2 := hf.enums
 have h3 := hf.meths
 obtain ⟨nm, ms, es, ts⟩ := s
 simp only at *
 have HM : Hid (MsIn w (.slice am ms.length cm) ms) := HM
 have HE : Hid (EnIn w (.slice ae es.length ce) es) := HE
 have HT : Hid (RowG w (.slice at' ts.length ct) 3 (mtRows ts)) := HT
 obtain ⟨M, hM⟩ : ∃ N, ms.length = N := ⟨_, rfl⟩
 obtain ⟨E, hE⟩ : ∃ N, es.length = N := ⟨_, rfl⟩
 obtain ⟨T, hT⟩ : ∃ N, ts.length = N := ⟨_, rfl⟩
 rw [hM] at HM qm1 h1 ⊢
 rw [hE] at HE qe1 h2 ⊢
 rw [hT] at HT qt1 h3 ⊢
 have HNM : Hid (ms.length = M) := hM
 have HNE : Hid (es.length = E) := hE
 have HNT : Hid (ts.length = T) := hT
 have HNR : Hid ((mtRows ts).length = T) := by show _ = _; simp [mtRows, hT]
 clear hM hE hT hf hm he ht
 go_enter Tryz.func15, Tryz.ntmps15
 go_wp2_with fail
 refine M_region (T := fun W => W.cell? ⟨w.heap.size, 0, none⟩ = some (.string nm) ∧ W.cell? ⟨w.heap.size, 3, none⟩ = some (.slice at' T ct)) (m := 7) (by kernel_rfl) ?_
 have HB0 : Hid (Below w.heap.size w ((w.alloc (.cells #[.string nm, .slice am M cm, .slice ae E ce, .slice at' T ct] 27)).alloc (.cells #[.string ⟨#[]⟩, .slice none 0 0, .slice none 0 0, .slice none 0 0] 27)).drew) := below_drewN 1 (((Below.refl _ _).alloc (Nat.le_refl _) _).alloc (by simp) _)
 have HX0 : Hid (Blk ((w.alloc (.cells #[.string nm, .slice am M cm, .slice ae E ce, .slice at' T ct] 27)).alloc (.cells #[.string ⟨#[]⟩, .slice none 0 0, .slice none 0 0, .slice none 0 0] 27)).drew w.heap.size #[.string nm, .slice am M cm, .slice ae E ce, .slice at' T ct] 27) := (Blk.new w _ _).below (below_drewN 1 ((Below.refl _ _).alloc (Nat.le_refl _) _))
 have HR0 : Hid (Blk ((w.alloc (.cells #[.string nm, .slice am M cm, .slice ae E ce, .slice at' T ct] 27)).alloc (.cells #[.string ⟨#[]⟩, .slice none 0 0, .slice none 0 0, .slice none 0 0] 27)).drew (w.heap.size + 1) #[.string ⟨#[]⟩, .slice none 0 0, .slice none 0 0, .slice none 0 0] 27) := by
  have := Blk.new (w.alloc (.cells #[.string nm, .slice am M cm, .slice ae E ce, .slice at' T ct] 27)) #[.string ⟨#[]⟩, .slice none 0 0, .slice none 0 0, .slice none 0 0] 27
  rw [show (w.alloc (.cells #[.string nm, .slice am M cm, .slice ae E ce, .slice at' T ct] 27)).heap.size = w.heap.size + 1 by simp] at this
  exact this
 have HS0 : Hid (((w.alloc (.cells #[.string nm, .slice am M cm, .slice ae E ce, .slice at' T ct] 27)).alloc (.cells #[.string ⟨#[]⟩, .slice none 0 0, .slice none 0 0, .slice none 0 0] 27)).drew.heap.size = w.heap.size + 2) := by show _ = _; simp [World.drew]
 generalize ((w.alloc (.cells #[.string nm, .slice am M cm, .slice ae E ce, .slice at' T ct] 27)).alloc (.cells #[.string ⟨#[]⟩, .slice none 0 0, .slice none 0 0, .slice none 0 0] 27)).drew = W0 at *
 have hT : W0.cell? ⟨w.heap.size, 0, none⟩ = some (.string nm) ∧ W0.cell? ⟨w.heap.size, 3, none⟩ = some (.slice at' T ct) := ⟨HX0.out.cell 0, HX0.out.cell 3⟩
 obtain ⟨b0, hb0⟩ : ∃ n, w.heap.size = n := ⟨_, rfl⟩
 rw [hb0] at HX0 HR0 HS0 hT ⊢
 have HBZ : Hid (w.heap.size = b0) := hb0
 clear hb0
 refine M_take 0 15 (.pointer (some ⟨b0, 0, none⟩)) _ rfl rfl (by kernel_rfl) (by kernel_rfl) (by kernel_rfl) (by kernel_rfl) (by kernel_rfl) (fun _ _ _ h => h) (by rfl) (fun w' hw' => ?_) hT (listed' := #[true, false, false, false, false, false, false, false]) (by kernel_rfl) rfl ?_
 ·obtain ⟨g0, g3⟩ := hw'; go_simp
 simp only [List.setIfInBounds_toArray, List.set_cons_zero, List.set_cons_succ]
 refine M_take 2 17 (.pointer (some ⟨b0, 3, none⟩)) _ rfl rfl (by kernel_rfl) (by kernel_rfl) (by kernel_rfl) (by kernel_rfl) (by kernel_rfl) (fun _ _ _ h => h) (by rfl) (fun w' hw' => ?_) hT (listed' := #[true, false, true, false, false, false, false, false]) (by kernel_rfl) rfl ?_
 ·obtain ⟨g0, g3⟩ := hw'; go_simp
 simp only [List.setIfInBounds_toArray, List.set_cons_zero, List.set_cons_succ]
 refine M_take 1 16 (.string nm) _ rfl rfl (by kernel_rfl) (by kernel_rfl) (by kernel_rfl) (by kernel_rfl) (by kernel_rfl) (fun _ _ _ h => h) (by rfl) (fun w' hw' => ?_) hT (listed' := #[true, true, true, false, false, false, false, false]) (by kernel_rfl) rfl ?_
 ·obtain ⟨g0, g3⟩ := hw'; go_simp
 simp only [List.setIfInBounds_toArray, List.set_cons_zero, List.set_cons_succ]
 refine M_take 3 18 (.slice at' T ct) _ rfl rfl (by kernel_rfl) (by kernel_rfl) (by kernel_rfl) (by kernel_rfl) (by kernel_rfl) (fun _ _ _ h => h) (by rfl) (fun w' hw' => ?_) hT (listed' := #[true, true, true, true, false, false, false, false]) (by kernel_rfl) rfl ?_
 ·obtain ⟨g0, g3⟩ := hw'; go_simp
 simp only [List.setIfInBounds_toArray, List.set_cons_zero, List.set_cons_succ]
 have HAPP : Hid (∀ W : World, Below W0.heap.size W0 W → ∃ u W1, (Builtin.append_ #[25, 25] 25 #[.slice none 0 0, .slice at' T ct]).run Tryz.prog W = .ok u W1 ∧ (∃ a c, u = .slice a T c) ∧ W1.ownsRow (b0 + 2) 46 3 u T (mtRows ts).flatten ∧ Below W.heap.size W W1) := fun W hW => by
  obtain ⟨u, W1, r1, r2, r3⟩ := run_joinG (w := W) 25 25 46 3 48 _ Tryz.underlying25 infoMt rfl (by decide) (b0 + 2) (.slice none 0 0) 0 [] (World.ownsRow_nil _ _ _ _) (.slice at' T ct) (mtRows ts) (HT.out.below (HB0.out.trans (hW.mono HB0.out.size))) (mtr_len ts) (mtr_one ts) (by have := HNR.out; omega) (by decide) (by have := hW.size; have := HS0.out; omega)
  rw [List.nil_append, HNR.out, Nat.zero_add] at r2
  exact ⟨u, W1, r1, own_form r2, r2, (Below.refl _ _).grown r3 (Nat.le_refl _) (fun k hk => by cases hk)⟩
 have hTb : ∀ W, Below W0.heap.size W0 W → W.cell? ⟨b0, 0, none⟩ = some (.string nm) ∧ W.cell? ⟨b0, 3, none⟩ = some (.slice at' T ct) := fun W hW => ⟨(HX0.out.below hW).cell 0, (HX0.out.below hW).cell 3⟩
 have hAl : ∀ W : World, Below W.heap.size W (W.alloc (.cells #[.string ⟨#[]⟩, .slice none 0 0, .slice none 0 0, .slice none 0 0] 27)) := fun W => (Below.refl _ _).alloc (Nat.le_refl _) _
 refine M_aa 4 6 5 19 3 20 (fun W => .pointer (some ⟨W.heap.size, 0, none⟩)) (fun W => W.alloc (.cells #[.string ⟨#[]⟩, .slice none 0 0, .slice none 0 0, .slice none 0 0] 27)) (fun u => .agg #[.string nm, .slice none 0 0, .slice none 0 0, u]) (fun u => ∃ a c, u = .slice a T c)
  (fun u p W => ∃ bt, p = .pointer (some ⟨bt, 0, none⟩) ∧ b0 + 2 ≤ bt ∧ Blk W bt #[.string ⟨#[]⟩, .slice none 0 0, .slice none 0 0, .slice none 0 0] 27 ∧ W.ownsRow (b0 + 2) 46 3 u T (mtRows ts).flatten ∧ Below W0.heap.size W0 W)
  rfl rfl rfl rfl rfl rfl (by decide) (by decide) (by decide) (by decide) (by kernel_rfl) (by kernel_rfl) (by kernel_rfl) (by kernel_rfl) (by kernel_rfl) (fun _ => rfl) (fun _ => rfl) (fun _ => rfl) (by kernel_rfl) (by kernel_rfl) (by kernel_rfl) (by kernel_rfl) (fun _ _ _ _ h => h) ?x2 ?hA ?hB ?xk ?xk' ?_
 case x2 => intro a' W'; go_simp
 case hA =>
  obtain ⟨u, W1, r1, r2, r3, r4⟩ := HAPP.out W0 (Below.refl _ _)
  have r5 : Below W0.heap.size W0 (W1.alloc (.cells #[.string ⟨#[]⟩, .slice none 0 0, .slice none 0 0, .slice none 0 0] 27)) := r4.trans ((hAl W1).mono r4.size)
  exact ⟨u, W1, append_run rfl rfl rfl r1, r2, hTb W1 r4, hTb _ r5, W1.heap.size, rfl, by have := r4.size; have := HS0.out; omega, Blk.new W1 _ _, own_below r3 (hAl W1), r5⟩
 case hB =>
  refine ⟨hTb _ (hAl W0), ?_⟩
  obtain ⟨u, W1, r1, r2, r3, r4⟩ := HAPP.out _ (hAl W0)
  have r5 : Below W0.heap.size W0 W1 := (hAl W0).trans (r4.mono (hAl W0).size)
  exact ⟨u, W1, append_run rfl rfl rfl r1, r2, hTb W1 r5, W0.heap.size, rfl, by have := HS0.out; omega, (Blk.new W0 _ _).below r4, r3, r5⟩
 case xk => rintro u W' ⟨a, c, rfl⟩; go_simp
 case xk' => rintro u v W' ⟨a, c, rfl⟩; go_simp
 rintro u p W1 ⟨ua, uc, rfl⟩ _ ⟨bt, rfl, hbt, BT, ho, hbel⟩
 simp only [List.setIfInBounds_toArray, List.set_cons_zero, List.set_cons_succ]
 have HO : Hid (W1.ownsRow (b0 + 2) 46 3 (.slice ua T uc) T (mtRows ts).flatten) := ho
 have HX1 := HX0.out.below hbel
 have HR1 := HR0.out.below hbel
 have hbw : Below w.heap.size w W1 := HB0.out.trans (hbel.mono HB0.out.size)
 have t0 := (BT.cell 0).trans rfl
 have t1 := (BT.cell 1).trans rfl
 have t2 := (BT.cell 2).trans rfl
 have t3 := (BT.cell 3).trans rfl
 have z0 := BT.froz 0
 have z1 := BT.froz 1
 have z2 := BT.froz 2
 have z3 := BT.froz 3
 refine M_store 7 ((((W1.setCell ⟨bt, 0, none⟩ (.string nm)).setCell ⟨bt, 1, none⟩ (.slice none 0 0)).setCell ⟨bt, 2, none⟩ (.slice none 0 0)).setCell ⟨bt, 3, none⟩ (.slice ua T uc)) rfl rfl (by kernel_rfl) (by rfl) (listed' := #[true, true, true, true, true, true, true, true]) (by kernel_rfl) (by go_simp) (by kernel_rfl) ?_
 refine M_done (by kernel_rfl) ?_ _
 have KS : Kp (fun k => k = bt) W1 ((((W1.setCell ⟨bt, 0, none⟩ (.string nm)).setCell ⟨bt, 1, none⟩ (.slice none 0 0)).setCell ⟨bt, 2, none⟩ (.slice none 0 0)).setCell ⟨bt, 3, none⟩ (.slice ua T uc)) := by
  refine Kp.setCell ?_ (fun _ => by simp) _
  refine Kp.setCell ?_ (fun _ => by simp) _
  refine Kp.setCell ?_ (fun _ => by simp) _
  refine Kp.setCell ?_ (fun _ => by simp) _
  exact Kp.refl _ _
 have BA : Blk (W1.setCell ⟨bt, 0, none⟩ (.string nm)) bt #[.string nm, .slice none 0 0, .slice none 0 0, .slice none 0 0] 27 := BT.set 0 (.string nm) rfl
 have BB : Blk ((W1.setCell ⟨bt, 0, none⟩ (.string nm)).setCell ⟨bt, 1, none⟩ (.slice none 0 0)) bt #[.string nm, .slice none 0 0, .slice none 0 0, .slice none 0 0] 27 := BA.set 1 (.slice none 0 0) rfl
 have BC : Blk (((W1.setCell ⟨bt, 0, none⟩ (.string nm)).setCell ⟨bt, 1, none⟩ (.slice none 0 0)).setCell ⟨bt, 2, none⟩ (.slice none 0 0)) bt #[.string nm, .slice none 0 0, .slice none 0 0, .slice none 0 0] 27 := BB.set 2 (.slice none 0 0) rfl
 have BT2 : Blk ((((W1.setCell ⟨bt, 0, none⟩ (.string nm)).setCell ⟨bt, 1, none⟩ (.slice none 0 0)).setCell ⟨bt, 2, none⟩ (.slice none 0 0)).setCell ⟨bt, 3, none⟩ (.slice ua T uc)) bt #[.string nm, .slice none 0 0, .slice none 0 0, .slice ua T uc] 27 := BC.set 3 (.slice ua T uc) rfl
 clear BA BB BC
 have HO2 : Hid (((((W1.setCell ⟨bt, 0, none⟩ (.string nm)).setCell ⟨bt, 1, none⟩ (.slice none 0 0)).setCell ⟨bt, 2, none⟩ (.slice none 0 0)).setCell ⟨bt, 3, none⟩ (.slice ua T uc)).ownsRow (b0 + 2) 46 3 (.slice ua T uc) T (mtRows ts).flatten) := own_blk HO.out BT (by decide) KS
 have BX2 := HX1.kp KS (by omega)
 have BR2 := HR1.kp KS (by omega)
 have hb2 : Below w.heap.size w ((((W1.setCell ⟨bt, 0, none⟩ (.string nm)).setCell ⟨bt, 1, none⟩ (.slice none 0 0)).setCell ⟨bt, 2, none⟩ (.slice none 0 0)).setCell ⟨bt, 3, none⟩ (.slice ua T uc)) := hbw.trans (KS.toBelow hbw.size (fun k e => by have := HBZ.out; omega))
 generalize ((((W1.setCell ⟨bt, 0, none⟩ (.string nm)).setCell ⟨bt, 1, none⟩ (.slice none 0 0)).setCell ⟨bt, 2, none⟩ (.slice none 0 0)).setCell ⟨bt, 3, none⟩ (.slice ua T uc)) = W2 at *
 have hbt2 : bt < W2.heap.size := BT2.lt
 clear t0 t1 t2 t3 z0 z1 z2 z3 KS HO HX1 HR1 hbw BT ho hbel hT hTb HAPP HB0 HX0 HR0 HS0 hAl
 have HMS0 : Hid (MsO W2 (bt + 1) (.slice none 0 0) ((ms.take 0).map canonM) []) := MsO.nil W2 (bt + 1)
 go_wp2_with fail
 go_loopw [4] (fun iv wr => ∃ (k : Nat) (va : Option Addr) (vc : Nat) (pm : List (Value × Value)), iv = .int .i64 (k : Int) ∧ k ≤ M ∧ Hid (MsO wr (bt + 1) (.slice va k vc) ((ms.take k).map canonM) pm) ∧ Blk wr bt #[.string nm, .slice va k vc, .slice none 0 0, .slice ua T uc] 27 ∧ Hid (wr.ownsRow (b0 + 2) 46 3 (.slice ua T uc) T (mtRows ts).flatten) ∧ Blk wr b0 #[.string nm, .slice am M cm, .slice ae E ce, .slice at' T ct] 27 ∧ Blk wr (b0 + 1) #[.string ⟨#[]⟩, .slice none 0 0, .slice none 0 0, .slice none 0 0] 27 ∧ Below w.heap.size w wr) (fun iv _ => M - (intOf iv).toNat)
 case atStart => exact ⟨0, none, 0, [], rfl, by omega, HMS0, BT2, HO2, BX2, BR2, hb2⟩
 case round =>
  obtain ⟨k, va, vc, pm, rfl, hk, HMS, BT, HO, BX, BR, hbel⟩ := hrel
  clear HMS0 BT2 HO2 BX2 BR2 hb2 hbt2
  have hbtw : bt < wr.heap.size := BT.lt
  have x1 : wr.cell? ⟨b0, 1, none⟩ = some (.slice am M cm) := BX.cell 1
  by_cases hlt : k < M
  ·obtain ⟨m, hm⟩ : ∃ n, ms[k]? = some n := ⟨_, List.getElem?_eq_getElem (by rw [HNM.out]; exact hlt)⟩
   obtain ⟨g, off, vf, vr, rfl, c0, c1, c2, hrf, hrr⟩ := (HM.out.below hbel).get hm
   have HFf : Hid (RowG wr vf 5 (flRows m.fields)) := hrf
   have HRr : Hid (RowG wr vr 1 (inRows m.reserved)) := hrr
   obtain ⟨a3, c3, rfl, _, _⟩ := hrf.form2
   obtain ⟨a4, c4, rfl, _, _⟩ := hrr.form2
   have HFl : Hid (m.fields.length ≤ 20 ∧ m.reserved.length ≤ 40) := HF.out.flds m (List.mem_of_getElem? hm)
   have HTK : Hid ((ms.take (k + 1)).map canonM = (ms.take k).map canonM ++ [canonM m]) := by show _ = _; rw [take_at hm, List.map_append]; rfl
   have HLK : Hid (((ms.take k).map canonM).length = k) := by show _ = _; rw [List.length_map, List.length_take, HNM.out]; omega
   obtain ⟨m0, mf, mr⟩ := m
   simp only at c0 c1 c2 HFl HTK
   have HFf : Hid (RowG wr (.slice a3 (flRows mf).length c3) 5 (flRows mf)) := HFf
   have HRr : Hid (RowG wr (.slice a4 (inRows mr).length c4) 1 (inRows mr)) := HRr
   have HNF : Hid (mf.length = (flRows mf).length) := by show _ = _; simp [flRows]
   have HNR : Hid (mr.length = (inRows mr).length) := by show _ = _; simp [inRows]
   generalize hnF : (flRows mf).length = nF at *
   generalize hnR : (inRows mr).length = nR at *
   have hnF20 : nF ≤ 20 := by have := HFl.out.1; rw [HNF.out] at this; exact this
   have hnR40 : nR ≤ 40 := by have := HFl.out.2; rw [HNR.out] at this; exact this
   clear hrf hrr hm hnF hnR
   go_wp2_with fail
   clear c0 c1 c2 x1
   have hb0 : Below wr.heap.size wr (wr.alloc (.cells #[.string m0, .slice a3 nF c3, .slice a4 nR c4] 40)) := (Below.refl _ _).alloc (Nat.le_refl _) _
   have BM0 : Blk (wr.alloc (.cells #[.string m0, .slice a3 nF c3, .slice a4 nR c4] 40)) wr.heap.size #[.string m0, .slice a3 nF c3, .slice a4 nR c4] 40 := Blk.new wr #[.string m0, .slice a3 nF c3, .slice a4 nR c4] 40
   have hWB : (wr.alloc (.cells #[.string m0, .slice a3 nF c3, .slice a4 nR c4] 40)).heap.size = wr.heap.size + 1 := by simp
   obtain ⟨bm, hbm⟩ : ∃ n, wr.heap.size = n := ⟨_, rfl⟩
   have BT0 := BT.below hb0
   have BX0 := BX.below hb0
   have BR0 := BR.below hb0
   have HMS0 : Hid (MsO (wr.alloc (.cells #[.string m0, .slice a3 nF c3, .slice a4 nR c4] 40)) (bt + 1) (.slice va k vc) ((ms.take k).map canonM) pm) := HMS.out.below hb0
   have HO0 : Hid ((wr.alloc (.cells #[.string m0, .slice a3 nF c3, .slice a4 nR c4] 40)).ownsRow (b0 + 2) 46 3 (.slice ua T uc) T (mtRows ts).flatten) := own_below HO.out hb0
   have HF0 : Hid (RowG (wr.alloc (.cells #[.string m0, .slice a3 nF c3, .slice a4 nR c4] 40)) (.slice a3 nF c3) 5 (flRows mf)) := HFf.out.below hb0
   have HR0 : Hid (RowG (wr.alloc (.cells #[.string m0, .slice a3 nF c3, .slice a4 nR c4] 40)) (.slice a4 nR c4) 1 (inRows mr)) := HRr.out.below hb0
   have hbel0 : Below w.heap.size w (wr.alloc (.cells #[.string m0, .slice a3 nF c3, .slice a4 nR c4] 40)) := hbel.trans (hb0.mono hbel.size)
   have BZ := Blk.new (wr.alloc (.cells #[.string m0, .slice a3 nF c3, .slice a4 nR c4] 40)) #[.string m0, .slice none 0 0, .slice none 0 0] 40
   have HBW : Hid (Below (wr.alloc (.cells #[.string m0, .slice a3 nF c3, .slice a4 nR c4] 40)).heap.size (wr.alloc (.cells #[.string m0, .slice a3 nF c3, .slice a4 nR c4] 40)) ((wr.alloc (.cells #[.string m0, .slice a3 nF c3, .slice a4 nR c4] 40)).alloc (.cells #[.string m0, .slice none 0 0, .slice none 0 0] 40))) := (Below.refl _ _).alloc (Nat.le_refl _) _
   rw [hWB] at BZ
   obtain ⟨bx, hbx⟩ : ∃ n, wr.heap.size + 1 = n := ⟨_, rfl⟩
   have HBX : Hid ((wr.alloc (.cells #[.string m0, .slice a3 nF c3, .slice a4 nR c4] 40)).heap.size = bx) := by show _ = _; rw [hWB, hbx]
   rw [hbx] at BZ ⊢
   rw [hbm] at BM0 ⊢
   have hbmx : bm < bx := by omega
   have hbtx : bt < bx := by omega
   generalize hZ : (wr.alloc (.cells #[.string m0, .slice a3 nF c3, .slice a4 nR c4] 40)).alloc (.cells #[.string m0, .slice none 0 0, .slice none 0 0] 40) = WZ at *
   generalize wr.alloc (.cells #[.string m0, .slice a3 nF c3, .slice a4 nR c4] 40) = WB at *
   clear hZ hWB hbx hbm hb0 BT BX BR HMS HO HFf HRr hbel hbtw
   refine loopF _ (by kernel_rfl) BM0 HF0 HBX HNF hnF20 BZ HBW (fun fa fc wr ty7 ty8 ty36 ty37 ty38 ty39 ty40 ty41 ty42 ty43 ty44 ty45 ty46 ty47 ty48 ty49 ty50 ty51 ty52 ty53 ty54 ty55 ty56 ty57 ty58 ty59 ty60 ty61 ty62 ty63 ty64 ty65 ty66 ty67 ty68 ty69 ty70 ty71 ty72 ty73 ty74 ty75 ty76 ty77 ty78 ty79 ty80 ty81 ty82 ty83 ty84 ty85 ty86 ty87 ty88 ty89 ty90 ty91 ty92 ty93 ty94 ty95 ty96 HOE BZ HBW => ?_)
   go_wp2_with fail
   generalize fa = xa at *
   generalize fc = xc at *
   have HX : Hid (wr.ownsRow (bx + 1) 90 5 (.slice xa nF xc) nF (flRows (srtF FlS.tag mf)).flatten) := HOE
   clear HOE
   refine loopR _ (by kernel_rfl) BM0 HR0 HBX HNR hnR40 BZ HX HBW (fun fa fc wr ty9 ty10 ty97 ty98 ty99 ty100 ty101 ty102 ty103 ty104 ty105 ty106 ty107 ty108 ty109 ty110 ty111 ty112 ty113 ty114 ty115 ty116 ty117 ty118 ty119 ty120 ty121 ty122 ty123 ty124 ty125 ty126 ty127 ty128 ty129 ty130 ty131 ty132 ty133 ty134 ty135 ty136 ty137 ty138 ty139 ty140 ty141 ty142 ty143 ty144 ty145 ty146 ty147 ty148 ty149 ty150 ty151 ty152 ty153 ty154 ty155 HOE BZ HX HBW => ?_)
   generalize fa = ra at *
   generalize fc = rc at *
   have BTz := BT0.below HBW.out
   have BXz := BX0.below HBW.out
   have BRz := BR0.below HBW.out
   have t1 : wr.cell? ⟨bt, 1, none⟩ = some (.slice va k vc) := BTz.cell 1
   have e0 := (BZ.cell 0).trans rfl
   have e1 := (BZ.cell 1).trans rfl
   have e2 := (BZ.cell 2).trans rfl
   have HMSz : Hid (MsO wr (bt + 1) (.slice va k vc) ((ms.take k).map canonM) pm) := HMS0.out.below HBW.out
   have HOz : Hid (wr.ownsRow (b0 + 2) 46 3 (.slice ua T uc) T (mtRows ts).flatten) := own_below HO0.out HBW.out
   have hbz : Below w.heap.size w wr := hbel0.trans (HBW.out.mono hbel0.size)
   obtain ⟨i0, hi0, hz0, hz1, hz2⟩ := info_parts infoMs
   obtain ⟨RW, hRW⟩ : ∃ R, (msRows ((ms.take k).map canonM) pm).flatten = R := ⟨_, rfl⟩
   have HRW : Hid ((msRows ((ms.take k).map canonM) pm).flatten = RW) := hRW
   have HOW : Hid (wr.ownsRow (bt + 1) 40 3 (.slice va k vc) k RW) := by
    have := HMSz.out.own
    rw [HLK.out, hRW] at this
    exact this
   clear hRW
   have hbtw : bt < wr.heap.size := BTz.lt
   go_wp2_with (first
    | (at_builtin; go_loud (refine wpList_append_own_at _ rfl _ _ 23 rfl (bt + 1) 40 i0 _ 3 64 Tryz.underlying23 hi0 hz0 hz1 hz2 rfl (by decide) _ _ _ rfl (HOW.out.alloc _) ⟨wr.heap.size, 0, none⟩ 1 1 [.string m0, .slice xa nF xc, .slice ra nR rc] rfl rfl (cells_fresh _ #[.string m0, .slice xa nF xc, .slice ra nR rc] _) ?c2 ?c3 ?c4 ?c5 ?_))
    | fail)
   case c2 => first | exact ⟨rfl, rfl, rfl⟩ | (intro u hu; simp at hu; rcases hu with rfl | rfl | rfl <;> rfl)
   case c3 => first | omega | (unfold maxLen; omega)
   case c4 => omega
   case c5 => first | omega | (simp; omega)
   intro v6 w6 ho6 hg6 _ hat6
   have hal : Below wr.heap.size wr (wr.alloc (.cells #[.string m0, .slice xa nF xc, .slice ra nR rc] 40)) := (Below.refl _ _).alloc (Nat.le_refl _) _
   have hown := HOW.out.alloc (.cells #[.string m0, .slice xa nF xc, .slice ra nR rc] 40)
   have KA : Kp (fun q => (Value.slice va k vc).ownBlock = some q) (wr.alloc (.cells #[.string m0, .slice xa nF xc, .slice ra nR rc] 40)) w6 := (Kp.refl _ _).grown hg6 (fun q hq _ => hq)
   have HMS6 : Hid (MsO w6 (bt + 1) v6 ((ms.take (k + 1)).map canonM) (pm ++ [(.slice xa nF xc, .slice ra nR rc)])) := by
    show MsO _ _ _ _ _
    rw [HTK.out]
    refine MsO.snoc (m := canonM ⟨m0, mf, mr⟩) (HMSz.out.below hal) (H := bx + 1) (fun i p q hp hq => by have h7 := HMS0.out.high i p q hp hq; have := HBX.out; omega) (by omega) ?_ ?_ ?_ KA
    ·rw [show (canonM ⟨m0, mf, mr⟩).fields.length = nF from (srtF_len _ _).trans HNF.out]
     exact own_below HX.out hal
    ·rw [show (canonM ⟨m0, mf, mr⟩).reserved.length = nR from (srtF_len _ _).trans HNR.out]
     exact own_below HOE.out hal
    ·rw [HLK.out, HRW.out]; exact ho6
   obtain ⟨na, nc, hv'⟩ := own_form ho6
   subst hv'
   have HMS6 : Hid (MsO w6 (bt + 1) (.slice na (k + 1) nc) ((ms.take (k + 1)).map canonM) (pm ++ [(.slice xa nF xc, .slice ra nR rc)])) := HMS6
   have hnob : ∀ b cs t, Blk (wr.alloc (.cells #[.string m0, .slice xa nF xc, .slice ra nR rc] 40)) b cs t → t ≠ 40 → ¬ (Value.slice va k vc).ownBlock = some b := fun b cs t hb ht hq => ht (own_type hown hq hb).symm
   have BT6 := (BTz.below hal).kp KA (hnob _ _ _ (BTz.below hal) (by decide))
   have BX6 := (BXz.below hal).kp KA (hnob _ _ _ (BXz.below hal) (by decide))
   have BR6 := (BRz.below hal).kp KA (hnob _ _ _ (BRz.below hal) (by decide))
   have HO6 : Hid (w6.ownsRow (b0 + 2) 46 3 (.slice ua T uc) T (mtRows ts).flatten) := own_kpV (own_below HOz.out hal) KA (fun q hv hq => own_apart hown (own_below HOz.out hal) (by decide) q hq hv)
   have hb6 : Below w.heap.size w w6 := (hbz.trans (hal.mono hbz.size)).grown hg6 (by have := hal.size; have := hbz.size; omega) (fun q hq => by have := (hown.lt q hq).1; have := HBZ.out; omega)
   have y1 := (BT6.cell 1).trans rfl
   have z1 := BT6.froz 1
   have KS : Kp (fun q => q = bt) w6 (w6.setCell ⟨bt, 1, none⟩ (.slice na (k + 1) nc)) := by
    refine Kp.setCell ?_ (fun _ => by simp) _
    exact Kp.refl _ _
   have BT7 : Blk (w6.setCell ⟨bt, 1, none⟩ (.slice na (k + 1) nc)) bt #[.string nm, .slice na (k + 1) nc, .slice none 0 0, .slice ua T uc] 27 := BT6.set 1 _ rfl
   have BX7 := BX6.kp KS (by omega)
   have BR7 := BR6.kp KS (by omega)
   have HMS7 : Hid (MsO (w6.setCell ⟨bt, 1, none⟩ (.slice na (k + 1) nc)) (bt + 1) (.slice na (k + 1) nc) ((ms.take (k + 1)).map canonM) (pm ++ [(.slice xa nF xc, .slice ra nR rc)])) := HMS6.out.kp KS (fun q h1 h2 => by omega)
   have HO7 : Hid ((w6.setCell ⟨bt, 1, none⟩ (.slice na (k + 1) nc)).ownsRow (b0 + 2) 46 3 (.slice ua T uc) T (mtRows ts).flatten) := own_blk HO6.out BT6 (by decide) KS
   have hb7 : Below w.heap.size w (w6.setCell ⟨bt, 1, none⟩ (.slice na (k + 1) nc)) := hb6.trans (KS.toBelow hb6.size (fun q e => by have := HBZ.out; omega))
   clear KS hb6 HO6 BR6 BX6 HMS6 BT6 hnob KA hown hal ho6 hg6 hat6
   go_wp2_with fail
   go_roundw
   case rel => exact ⟨k + 1, _, _, _, by go_num, by omega, HMS7, BT7, HO7, BX7, BR7, hb7⟩
   case measure => simp [intOf]; omega
  ·obtain rfl : M = k := by omega
   have HMS0 : Hid (MsO wr (bt + 1) (.slice va M vc) (ms.map canonM) pm) := by
    have := HMS.out
    rw [List.take_of_length_le (by rw [HNM.out]; omega)] at this
    exact this
   have HES0 : Hid (EnO wr (bt + 1) (.slice none 0 0) ((es.take 0).map canonE) []) := EnO.nil wr (bt + 1)
   clear HMS
   go_wp2_with fail
   clear x1
   go_loopw [11] (fun iv wr => ∃ (ei : Nat) (na : Option Addr) (nc : Nat) (pe : List Value), iv = .int .i64 (ei : Int) ∧ ei ≤ E ∧ Hid (EnO wr (bt + 1) (.slice na ei nc) ((es.take ei).map canonE) pe) ∧ Hid (MsO wr (bt + 1) (.slice va M vc) (ms.map canonM) pm) ∧ Blk wr bt #[.string nm, .slice va M vc, .slice na ei nc, .slice ua T uc] 27 ∧ Hid (wr.ownsRow (b0 + 2) 46 3 (.slice ua T uc) T (mtRows ts).flatten) ∧ Blk wr b0 #[.string nm, .slice am M cm, .slice ae E ce, .slice at' T ct] 27 ∧ Blk wr (b0 + 1) #[.string ⟨#[]⟩, .slice none 0 0, .slice none 0 0, .slice none 0 0] 27 ∧ Below w.heap.size w wr) (fun iv _ => E - (intOf iv).toNat)
   case atStart => exact ⟨0, none, 0, [], rfl, by omega, HES0, HMS0, BT, HO, BX, BR, hbel⟩
   case round =>
    obtain ⟨ei, na, nc, pe, rfl, hi, HES, HMS, BT, HO, BX, BR, hbel⟩ := hrel
    clear HES0 HMS0
    have hbtw : bt < wr.heap.size := BT.lt
    have x2 : wr.cell? ⟨b0, 2, none⟩ = some (.slice ae E ce) := BX.cell 2
    by_cases hlt : ei < E
    ·have heiz : (ei : Int) < (E : Int) := by omega
     obtain ⟨m, hm⟩ : ∃ n, es[ei]? = some n := ⟨_, List.getElem?_eq_getElem (by rw [HNE.out]; exact hlt)⟩
     obtain ⟨g, off, vv, rfl, c0, c1, hrf⟩ := (HE.out.below hbel).get hm
     have HFf : Hid (RowG wr vv 2 (nmRows m.values)) := hrf
     obtain ⟨a3, c3, rfl, _, _⟩ := hrf.form2
     have HFl : Hid (m.values.length ≤ 24) := HF.out.vals m (List.mem_of_getElem? hm)
     have HTK : Hid ((es.take (ei + 1)).map canonE = (es.take ei).map canonE ++ [canonE m]) := by show _ = _; rw [take_at hm, List.map_append]; rfl
     have HLK : Hid (((es.take ei).map canonE).length = ei) := by show _ = _; rw [List.length_map, List.length_take, HNE.out]; omega
     obtain ⟨m0, mf⟩ := m
     simp only at c0 c1 HFl HTK
     have HFf : Hid (RowG wr (.slice a3 (nmRows mf).length c3) 2 (nmRows mf)) := HFf
     have HNV : Hid (mf.length = (nmRows mf).length) := by show _ = _; simp [nmRows]
     generalize hnV : (nmRows mf).length = nV at *
     have hnV24 : nV ≤ 24 := by have := HFl.out; rw [HNV.out] at this; exact this
     have C1 : Hid (wr.cell? ⟨g, off + ei * 2 + 1, none⟩ = some (.slice a3 nV c3)) := c1
     clear hrf hm hnV c1
     go_wp2_with fail
     clear c0 x2
     have BZ := Blk.new wr #[.string m0, .slice none 0 0] 44
     have HBW : Hid (Below wr.heap.size wr (wr.alloc (.cells #[.string m0, .slice none 0 0] 44))) := (Below.refl _ _).alloc (Nat.le_refl _) _
     obtain ⟨bx, hbx⟩ : ∃ n, wr.heap.size = n := ⟨_, rfl⟩
     have HBX : Hid (wr.heap.size = bx) := hbx
     rw [hbx] at BZ hbtw ⊢
     generalize (wr.alloc (.cells #[.string m0, .slice none 0 0] 44)) = WZ at *
     clear hbx
     generalize wr = WB at *
     have BT0 := BT
     have BX0 := BX
     have BR0 := BR
     have HMS0 : Hid _ := HMS
     have HES0 : Hid _ := HES
     have HO0 : Hid _ := HO
     have HV0 : Hid (RowG WB (.slice a3 nV c3) 2 (nmRows mf)) := HFf
     have hbel0 := hbel
     clear BT BX BR HMS HES HO HFf hbel
     refine loopV _ (by kernel_rfl) BX0 C1 HV0 HBX HNV hnV24 heiz BZ HBW (fun fa fc wr ty13 ty14 ty176 ty177 ty178 ty179 ty180 ty181 ty182 ty183 ty184 ty185 ty186 ty187 ty188 ty189 ty190 ty191 ty192 ty193 ty194 ty195 ty196 ty197 ty198 ty199 ty200 ty201 ty202 ty203 ty204 ty205 ty206 ty207 ty208 ty209 ty210 ty211 ty212 ty213 ty214 ty215 ty216 ty217 ty218 ty219 ty220 ty221 ty222 ty223 ty224 ty225 ty226 ty227 ty228 ty229 ty230 ty231 ty232 ty233 ty234 ty235 ty236 ty237 ty238 ty239 ty240 ty241 ty242 ty243 ty244 HOE BZ HBW => ?_)
     generalize fa = ra at *
     generalize fc = rc at *
     have BTz := BT0.below HBW.out
     have BXz := BX0.below HBW.out
     have BRz := BR0.below HBW.out
     have t1 : wr.cell? ⟨bt, 2, none⟩ = some (.slice na ei nc) := BTz.cell 2
     have e0 := (BZ.cell 0).trans rfl
     have e1 := (BZ.cell 1).trans rfl
     have HMSz : Hid (MsO wr (bt + 1) (.slice va M vc) (ms.map canonM) pm) := HMS0.out.below HBW.out
     have HESz : Hid (EnO wr (bt + 1) (.slice na ei nc) ((es.take ei).map canonE) pe) := HES0.out.below HBW.out
     have HOz : Hid (wr.ownsRow (b0 + 2) 46 3 (.slice ua T uc) T (mtRows ts).flatten) := own_below HO0.out HBW.out
     have hbz : Below w.heap.size w wr := hbel0.trans (HBW.out.mono hbel0.size)
     obtain ⟨i0, hi0, hz0, hz1, hz2⟩ := info_parts infoEn
     obtain ⟨RW, hRW⟩ : ∃ R, (enRows ((es.take ei).map canonE) pe).flatten = R := ⟨_, rfl⟩
     have HRW : Hid ((enRows ((es.take ei).map canonE) pe).flatten = RW) := hRW
     have HOW : Hid (wr.ownsRow (bt + 1) 44 2 (.slice na ei nc) ei RW) := by
      have := HESz.out.own
      rw [HLK.out, hRW] at this
      exact this
     clear hRW
     have hbtw : bt < wr.heap.size := BTz.lt
     go_wp2_with (first
      | (at_builtin; go_loud (refine wpList_append_own_at _ rfl _ _ 24 rfl (bt + 1) 44 i0 _ 2 40 Tryz.underlying24 hi0 hz0 hz1 hz2 rfl (by decide) _ _ _ rfl (HOW.out.alloc _) ⟨wr.heap.size, 0, none⟩ 1 1 [.string m0, .slice ra nV rc] rfl rfl (cells_fresh _ #[.string m0, .slice ra nV rc] _) ?c2 ?c3 ?c4 ?c5 ?_))
      | fail)
     case c2 => first | exact ⟨rfl, rfl⟩ | (intro u hu; simp at hu; rcases hu with rfl | rfl <;> rfl)
     case c3 => first | omega | (unfold maxLen; omega)
     case c4 => omega
     case c5 => first | omega | (simp; omega)
     intro v6 w6 ho6 hg6 _ hat6
     have hal : Below wr.heap.size wr (wr.alloc (.cells #[.string m0, .slice ra nV rc] 44)) := (Below.refl _ _).alloc (Nat.le_refl _) _
     have hown := HOW.out.alloc (.cells #[.string m0, .slice ra nV rc] 44)
     have KA : Kp (fun q => (Value.slice na ei nc).ownBlock = some q) (wr.alloc (.cells #[.string m0, .slice ra nV rc] 44)) w6 := (Kp.refl _ _).grown hg6 (fun q hq _ => hq)
     have HES6 : Hid (EnO w6 (bt + 1) v6 ((es.take (ei + 1)).map canonE) (pe ++ [.slice ra nV rc])) := by
      show EnO _ _ _ _ _
      rw [HTK.out]
      refine EnO.snoc (m := canonE ⟨m0, mf⟩) (HESz.out.below hal) (H := bx + 1) (by omega) ?_ ?_ KA
      ·rw [show (canonE ⟨m0, mf⟩).values.length = nV from (srtF_len _ _).trans HNV.out]
       exact own_below HOE.out hal
      ·rw [HLK.out, HRW.out]; exact ho6
     obtain ⟨ya, yc, hv'⟩ := own_form ho6
     subst hv'
     have HES6 : Hid (EnO w6 (bt + 1) (.slice ya (ei + 1) yc) ((es.take (ei + 1)).map canonE) (pe ++ [.slice ra nV rc])) := HES6
     have hnob : ∀ b cs t, Blk (wr.alloc (.cells #[.string m0, .slice ra nV rc] 44)) b cs t → t ≠ 44 → ¬ (Value.slice na ei nc).ownBlock = some b := fun b cs t hb ht hq => ht (own_type hown hq hb).symm
     have BT6 := (BTz.below hal).kp KA (hnob _ _ _ (BTz.below hal) (by decide))
     have BX6 := (BXz.below hal).kp KA (hnob _ _ _ (BXz.below hal) (by decide))
     have BR6 := (BRz.below hal).kp KA (hnob _ _ _ (BRz.below hal) (by decide))
     have HMS6 : Hid (MsO w6 (bt + 1) (.slice va M vc) (ms.map canonM) pm) := (HMSz.out.below hal).beside hown (by decide) (by decide) (by decide) KA
     have HO6 : Hid (w6.ownsRow (b0 + 2) 46 3 (.slice ua T uc) T (mtRows ts).flatten) := own_kpV (own_below HOz.out hal) KA (fun q hv hq => own_apart hown (own_below HOz.out hal) (by decide) q hq hv)
     have hb6 : Below w.heap.size w w6 := (hbz.trans (hal.mono hbz.size)).grown hg6 (by have := hal.size; have := hbz.size; omega) (fun q hq => by have := (hown.lt q hq).1; have := HBZ.out; omega)
     have y1 := (BT6.cell 2).trans rfl
     have z1 := BT6.froz 2
     have KS : Kp (fun q => q = bt) w6 (w6.setCell ⟨bt, 2, none⟩ (.slice ya (ei + 1) yc)) := by
      refine Kp.setCell ?_ (fun _ => by simp) _
      exact Kp.refl _ _
     have BT7 : Blk (w6.setCell ⟨bt, 2, none⟩ (.slice ya (ei + 1) yc)) bt #[.string nm, .slice va M vc, .slice ya (ei + 1) yc, .slice ua T uc] 27 := BT6.set 2 _ rfl
     have BX7 := BX6.kp KS (by omega)
     have BR7 := BR6.kp KS (by omega)
     have HES7 : Hid (EnO (w6.setCell ⟨bt, 2, none⟩ (.slice ya (ei + 1) yc)) (bt + 1) (.slice ya (ei + 1) yc) ((es.take (ei + 1)).map canonE) (pe ++ [.slice ra nV rc])) := HES6.out.kp KS (fun q h1 h2 => by omega)
     have HMS7 : Hid (MsO (w6.setCell ⟨bt, 2, none⟩ (.slice ya (ei + 1) yc)) (bt + 1) (.slice va M vc) (ms.map canonM) pm) := HMS6.out.kp KS (fun q h1 h2 => by omega)
     have HO7 : Hid ((w6.setCell ⟨bt, 2, none⟩ (.slice ya (ei + 1) yc)).ownsRow (b0 + 2) 46 3 (.slice ua T uc) T (mtRows ts).flatten) := own_blk HO6.out BT6 (by decide) KS
     have hb7 : Below w.heap.size w (w6.setCell ⟨bt, 2, none⟩ (.slice ya (ei + 1) yc)) := hb6.trans (KS.toBelow hb6.size (fun q e => by have := HBZ.out; omega))
     clear KS hb6 HO6 BR6 BX6 HMS6 HES6 BT6 hnob KA hown hal ho6 hg6 hat6
     go_wp2_with fail
     go_roundw
     case rel => exact ⟨ei + 1, _, _, _, by go_num, by omega, HES7, HMS7, BT7, HO7, BX7, BR7, hb7⟩
     case measure => simp [intOf]; omega
    ·have HES1 : Hid (EnO wr (bt + 1) (.slice na ei nc) (es.map canonE) pe) := by
      have := HES.out
      rw [List.take_of_length_le (by rw [HNE.out]; omega)] at this
      exact this
     have hbtw2 := hbtw
     have t0 : wr.cell? ⟨bt, 0, none⟩ = some (.string nm) := BT.cell 0
     have t1 : wr.cell? ⟨bt, 1, none⟩ = some (.slice va M vc) := BT.cell 1
     have t2 : wr.cell? ⟨bt, 2, none⟩ = some (.slice na ei nc) := BT.cell 2
     have t3 : wr.cell? ⟨bt, 3, none⟩ = some (.slice ua T uc) := BT.cell 3
     have r0 := (BR.cell 0).trans rfl
     have r1 := (BR.cell 1).trans rfl
     have r2 := (BR.cell 2).trans rfl
     have r3 := (BR.cell 3).trans rfl
     have z0 := BR.froz 0
     have z1 := BR.froz 1
     have z2 := BR.froz 2
     have z3 := BR.froz 3
     go_wp2_with fail
     refine bodyPost_ret (results_cell rfl _ _ _ ⟨b0 + 1, 0, none⟩ (.agg #[.string nm, .slice va M vc, .slice na ei nc, .slice ua T uc]) (by go_simp) (by go_simp)) rfl ?_
     have KS : Kp (fun q => q = b0 + 1) wr ((((wr.setCell ⟨b0 + 1, 0, none⟩ (.string nm)).setCell ⟨b0 + 1, 1, none⟩ (.slice va M vc)).setCell ⟨b0 + 1, 2, none⟩ (.slice na ei nc)).setCell ⟨b0 + 1, 3, none⟩ (.slice ua T uc)) := by
      refine Kp.setCell ?_ (fun _ => by simp) _
      refine Kp.setCell ?_ (fun _ => by simp) _
      refine Kp.setCell ?_ (fun _ => by simp) _
      refine Kp.setCell ?_ (fun _ => by simp) _
      exact Kp.refl _ _
     refine ⟨_, _, _, pm, pe, rfl, ?_, ?_, ?_, ?_⟩
     ·exact (HMS.out.kp KS (fun q h1 h2 => by omega)).base (by have := HBZ.out; omega)
     ·exact (HES1.out.kp KS (fun q h1 h2 => by omega)).base (by have := HBZ.out; omega)
     ·exact own_base (own_kp HO.out KS (fun q h1 h2 => by omega)) (by have := HBZ.out; omega)
     ·exact hbel.trans (KS.toBelow hbel.size (fun q e => by have := HBZ.out; omega))
end Go.Proofs.YtcjfeandnmochaaGreatDoor
