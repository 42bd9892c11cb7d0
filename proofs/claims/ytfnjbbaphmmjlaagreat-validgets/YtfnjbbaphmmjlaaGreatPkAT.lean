/- Part 20 of what the proof stands on. -/
import Derived.Test.YtfnjbbaphmmjlaaGreatPkAS
namespace Go.Proofs.YtfnjbbaphmmjlaaGreat
open Go.ChangeShapes Go.WideShapes Go.ChangeAt Go.RowKit
set_option linter.unusedVariables false
set_option linter.unusedSimpArgs false
set_option maxRecDepth 20000
set_option maxHeartbeats 8000000 in
theorem schema_ap {w : World} {v : Value} {s : ScS} (hr : ScIn w v s) (hf : FewL s) :
  Calls Tryz.prog 10 #[v] w fun e w' => ∃ vm ve vt pm pe, e = .returned (.agg #[.string s.name, vm, ve, vt]) ∧ MsO w' w.heap.size vm s.msgs pm ∧ EnO w' w.heap.size ve s.enums pe ∧ w'.ownsRow w.heap.size 72 3 vt s.methods.length (mtRows s.methods).flatten ∧ Below w.heap.size w w' ∧ ApR pm ∧ ApE pe := by
 obtain ⟨vm0, ve0, vt0, rfl, hm, he, ht⟩ := hr
 obtain ⟨am, cm, rfl, qm1, qm2⟩ := hm.form2
 obtain ⟨ae, ce, rfl, qe1, qe2⟩ := he.form2
 obtain ⟨at', ct, rfl, qt1, qt2⟩ := ht.form2
 have hT : (mtRows s.methods).length = s.methods.length := by simp [mtRows]
 rw [hT] at ht qt1 ⊢
 clear hT
 have HM : Hid (MsIn w (.slice am s.msgs.length cm) s.msgs) := hm
 have HE : Hid (EnIn w (.slice ae s.enums.length ce) s.enums) := he
 have HT : Hid (RowG w (.slice at' s.methods.length ct) 3 (mtRows s.methods)) := ht
 have HF : Hid (FewL s) := hf
 have h1 := hf.msgs
 have h2 := hf.enums
 have h3 := hf.meths
 obtain ⟨nm, ms, es, ts⟩ := s
 simp only at *
 have HM : Hid (MsIn w (.slice am ms.length cm) ms) := HM
 have HE : Hid (EnIn w (.slice ae es.length ce) es) := HE
 have HT : Hid (RowG w (.slice at' ts.length ct) 3 (mtRows ts)) := HT
 obtain ⟨M, hM⟩ : ∃ N, ms.length = N := ⟨_, rfl⟩
 obtain ⟨E, hE⟩ : ∃ N, es.length = N := ⟨_, rfl⟩
 obtain ⟨T, hT⟩ : ∃ N, ts.length = N := ⟨_, rfl⟩
 rw [hM] at HM qm1 h1 ⊢
 rw [hE] at HE qe1 h2 ⊢
 rw [hT] at HT qt1 h3 ⊢
 have HNM : Hid (ms.length = M) := hM
 have HNE : Hid (es.length = E) := hE
 have HNT : Hid (ts.length = T) := hT
 have HNR : Hid ((mtRows ts).length = T) := by show _ = _; simp [mtRows, hT]
 clear hM hE hT hf hm he ht
 go_enter Tryz.func10, Tryz.ntmps10
 go_wp2_with fail
 refine M_region (T := fun W => W.cell? ⟨w.heap.size, 0, none⟩ = some (.string nm) ∧ W.cell? ⟨w.heap.size, 3, none⟩ = some (.slice at' T ct)) (m := 7) (by kernel_rfl) ?_
 have HB0 : Hid (Below w.heap.size w ((w.alloc (.cells #[.string nm, .slice am M cm, .slice ae E ce, .slice at' T ct] 26)).alloc (.cells #[.string ⟨#[]⟩, .slice none 0 0, .slice none 0 0, .slice none 0 0] 26)).drew) := below_drewN 1 (((Below.refl _ _).alloc (Nat.le_refl _) _).alloc (by simp) _)
 have HX0 : Hid (Blk ((w.alloc (.cells #[.string nm, .slice am M cm, .slice ae E ce, .slice at' T ct] 26)).alloc (.cells #[.string ⟨#[]⟩, .slice none 0 0, .slice none 0 0, .slice none 0 0] 26)).drew w.heap.size #[.string nm, .slice am M cm, .slice ae E ce, .slice at' T ct] 26) := (Blk.new w _ _).below (below_drewN 1 ((Below.refl _ _).alloc (Nat.le_refl _) _))
 have HR0 : Hid (Blk ((w.alloc (.cells #[.string nm, .slice am M cm, .slice ae E ce, .slice at' T ct] 26)).alloc (.cells #[.string ⟨#[]⟩, .slice none 0 0, .slice none 0 0, .slice none 0 0] 26)).drew (w.heap.size + 1) #[.string ⟨#[]⟩, .slice none 0 0, .slice none 0 0, .slice none 0 0] 26) := by
  have := Blk.new (w.alloc (.cells #[.string nm, .slice am M cm, .slice ae E ce, .slice at' T ct] 26)) #[.string ⟨#[]⟩, .slice none 0 0, .slice none 0 0, .slice none 0 0] 26
  rw [show (w.alloc (.cells #[.string nm, .slice am M cm, .slice ae E ce, .slice at' T ct] 26)).heap.size = w.heap.size + 1 by simp] at this
  exact this
 have HS0 : Hid (((w.alloc (.cells #[.string nm, .slice am M cm, .slice ae E ce, .slice at' T ct] 26)).alloc (.cells #[.string ⟨#[]⟩, .slice none 0 0, .slice none 0 0, .slice none 0 0] 26)).drew.heap.size = w.heap.size + 2) := by show _ = _; simp [World.drew]
 generalize ((w.alloc (.cells #[.string nm, .slice am M cm, .slice ae E ce, .slice at' T ct] 26)).alloc (.cells #[.string ⟨#[]⟩, .slice none 0 0, .slice none 0 0, .slice none 0 0] 26)).drew = W0 at *
 have hT : W0.cell? ⟨w.heap.size, 0, none⟩ = some (.string nm) ∧ W0.cell? ⟨w.heap.size, 3, none⟩ = some (.slice at' T ct) := ⟨HX0.out.cell 0, HX0.out.cell 3⟩
 obtain ⟨b0, hb0⟩ : ∃ n, w.heap.size = n := ⟨_, rfl⟩
 rw [hb0] at HX0 HR0 HS0 hT ⊢
 have HBZ : Hid (w.heap.size = b0) := hb0
 clear hb0
 refine M_take 0 7 (.pointer (some ⟨b0, 0, none⟩)) _ rfl rfl (by kernel_rfl) (by kernel_rfl) (by kernel_rfl) (by kernel_rfl) (by kernel_rfl) (fun _ _ _ h => h) (by rfl) (fun w' hw' => ?_) hT (listed' := #[true, false, false, false, false, false, false, false]) (by kernel_rfl) rfl ?_
 ·obtain ⟨g0, g3⟩ := hw'; go_simp
 simp only [List.setIfInBounds_toArray, List.set_cons_zero, List.set_cons_succ]
 refine M_take 2 9 (.pointer (some ⟨b0, 3, none⟩)) _ rfl rfl (by kernel_rfl) (by kernel_rfl) (by kernel_rfl) (by kernel_rfl) (by kernel_rfl) (fun _ _ _ h => h) (by rfl) (fun w' hw' => ?_) hT (listed' := #[true, false, true, false, false, false, false, false]) (by kernel_rfl) rfl ?_
 ·obtain ⟨g0, g3⟩ := hw'; go_simp
 simp only [List.setIfInBounds_toArray, List.set_cons_zero, List.set_cons_succ]
 refine M_take 1 8 (.string nm) _ rfl rfl (by kernel_rfl) (by kernel_rfl) (by kernel_rfl) (by kernel_rfl) (by kernel_rfl) (fun _ _ _ h => h) (by rfl) (fun w' hw' => ?_) hT (listed' := #[true, true, true, false, false, false, false, false]) (by kernel_rfl) rfl ?_
 ·obtain ⟨g0, g3⟩ := hw'; go_simp
 simp only [List.setIfInBounds_toArray, List.set_cons_zero, List.set_cons_succ]
 refine M_take 3 10 (.slice at' T ct) _ rfl rfl (by kernel_rfl) (by kernel_rfl) (by kernel_rfl) (by kernel_rfl) (by kernel_rfl) (fun _ _ _ h => h) (by rfl) (fun w' hw' => ?_) hT (listed' := #[true, true, true, true, false, false, false, false]) (by kernel_rfl) rfl ?_
 ·obtain ⟨g0, g3⟩ := hw'; go_simp
 simp only [List.setIfInBounds_toArray, List.set_cons_zero, List.set_cons_succ]
 have HAPP : Hid (∀ W : World, Below W0.heap.size W0 W → ∃ u W1, (Builtin.append_ #[24, 24] 24 #[.slice none 0 0, .slice at' T ct]).run Tryz.prog W = .ok u W1 ∧ (∃ a c, u = .slice a T c) ∧ W1.ownsRow (b0 + 2) 72 3 u T (mtRows ts).flatten ∧ Below W.heap.size W W1) := fun W hW => by
  obtain ⟨u, W1, r1, r2, r3⟩ := run_joinG (w := W) 24 24 72 3 48 _ Tryz.underlying24 infoMt rfl (by decide) (b0 + 2) (.slice none 0 0) 0 [] (World.ownsRow_nil _ _ _ _) (.slice at' T ct) (mtRows ts) (HT.out.below (HB0.out.trans (hW.mono HB0.out.size))) (mtr_len ts) (mtr_one ts) (by have := HNR.out; omega) (by decide) (by have := hW.size; have := HS0.out; omega)
  rw [List.nil_append, HNR.out, Nat.zero_add] at r2
  exact ⟨u, W1, r1, own_form r2, r2, (Below.refl _ _).grown r3 (Nat.le_refl _) (fun k hk => by cases hk)⟩
 have hTb : ∀ W, Below W0.heap.size W0 W → W.cell? ⟨b0, 0, none⟩ = some (.string nm) ∧ W.cell? ⟨b0, 3, none⟩ = some (.slice at' T ct) := fun W hW => ⟨(HX0.out.below hW).cell 0, (HX0.out.below hW).cell 3⟩
 have hAl : ∀ W : World, Below W.heap.size W (W.alloc (.cells #[.string ⟨#[]⟩, .slice none 0 0, .slice none 0 0, .slice none 0 0] 26)) := fun W => (Below.refl _ _).alloc (Nat.le_refl _) _
 refine M_aa 4 6 5 11 3 12 (fun W => .pointer (some ⟨W.heap.size, 0, none⟩)) (fun W => W.alloc (.cells #[.string ⟨#[]⟩, .slice none 0 0, .slice none 0 0, .slice none 0 0] 26)) (fun u => .agg #[.string nm, .slice none 0 0, .slice none 0 0, u]) (fun u => ∃ a c, u = .slice a T c)
  (fun u p W => ∃ bt, p = .pointer (some ⟨bt, 0, none⟩) ∧ b0 + 2 ≤ bt ∧ Blk W bt #[.string ⟨#[]⟩, .slice none 0 0, .slice none 0 0, .slice none 0 0] 26 ∧ W.ownsRow (b0 + 2) 72 3 u T (mtRows ts).flatten ∧ Below W0.heap.size W0 W)
  rfl rfl rfl rfl rfl rfl (by decide) (by decide) (by decide) (by decide) (by kernel_rfl) (by kernel_rfl) (by kernel_rfl) (by kernel_rfl) (by kernel_rfl) (fun _ => rfl) (fun _ => rfl) (fun _ => rfl) (by kernel_rfl) (by kernel_rfl) (by kernel_rfl) (by kernel_rfl) (fun _ _ _ _ h => h) ?x2 ?hA ?hB ?xk ?xk' ?_
 case x2 => intro a' W'; go_simp
 case hA =>
  obtain ⟨u, W1, r1, r2, r3, r4⟩ := HAPP.out W0 (Below.refl _ _)
  have r5 : Below W0.heap.size W0 (W1.alloc (.cells #[.string ⟨#[]⟩, .slice none 0 0, .slice none 0 0, .slice none 0 0] 26)) := r4.trans ((hAl W1).mono r4.size)
  exact ⟨u, W1, append_run rfl rfl rfl r1, r2, hTb W1 r4, hTb _ r5, W1.heap.size, rfl, by have := r4.size; have := HS0.out; omega, Blk.new W1 _ _, own_below r3 (hAl W1), r5⟩
 case hB =>
  refine ⟨hTb _ (hAl W0), ?_⟩
  obtain ⟨u, W1, r1, r2, r3, r4⟩ := HAPP.out _ (hAl W0)
  have r5 : Below W0.heap.size W0 W1 := (hAl W0).trans (r4.mono (hAl W0).size)
  exact ⟨u, W1, append_run rfl rfl rfl r1, r2, hTb W1 r5, W0.heap.size, rfl, by have := HS0.out; omega, (Blk.new W0 _ _).below r4, r3, r5⟩
 case xk => rintro u W' ⟨a, c, rfl⟩; go_simp
 case xk' => rintro u v W' ⟨a, c, rfl⟩; go_simp
 rintro u p W1 ⟨ua, uc, rfl⟩ _ ⟨bt, rfl, hbt, BT, ho, hbel⟩
 simp only [List.setIfInBounds_toArray, List.set_cons_zero, List.set_cons_succ]
 have HO : Hid (W1.ownsRow (b0 + 2) 72 3 (.slice ua T uc) T (mtRows ts).flatten) := ho
 have HX1 := HX0.out.below hbel
 have HR1 := HR0.out.below hbel
 have hbw : Below w.heap.size w W1 := HB0.out.trans (hbel.mono HB0.out.size)
 have t0 := (BT.cell 0).trans rfl
 have t1 := (BT.cell 1).trans rfl
 have t2 := (BT.cell 2).trans rfl
 have t3 := (BT.cell 3).trans rfl
 have z0 := BT.froz 0
 have z1 := BT.froz 1
 have z2 := BT.froz 2
 have z3 := BT.froz 3
 refine M_store 7 ((((W1.setCell ⟨bt, 0, none⟩ (.string nm)).setCell ⟨bt, 1, none⟩ (.slice none 0 0)).setCell ⟨bt, 2, none⟩ (.slice none 0 0)).setCell ⟨bt, 3, none⟩ (.slice ua T uc)) rfl rfl (by kernel_rfl) (by rfl) (listed' := #[true, true, true, true, true, true, true, true]) (by kernel_rfl) (by go_simp) (by kernel_rfl) ?_
 refine M_done (by kernel_rfl) ?_ _
 have KS : Kp (fun k => k = bt) W1 ((((W1.setCell ⟨bt, 0, none⟩ (.string nm)).setCell ⟨bt, 1, none⟩ (.slice none 0 0)).setCell ⟨bt, 2, none⟩ (.slice none 0 0)).setCell ⟨bt, 3, none⟩ (.slice ua T uc)) := by
  refine Kp.setCell ?_ (fun _ => by simp) _
  refine Kp.setCell ?_ (fun _ => by simp) _
  refine Kp.setCell ?_ (fun _ => by simp) _
  refine Kp.setCell ?_ (fun _ => by simp) _
  exact Kp.refl _ _
 have BA : Blk (W1.setCell ⟨bt, 0, none⟩ (.string nm)) bt #[.string nm, .slice none 0 0, .slice none 0 0, .slice none 0 0] 26 := BT.set 0 (.string nm) rfl
 have BB : Blk ((W1.setCell ⟨bt, 0, none⟩ (.string nm)).setCell ⟨bt, 1, none⟩ (.slice none 0 0)) bt #[.string nm, .slice none 0 0, .slice none 0 0, .slice none 0 0] 26 := BA.set 1 (.slice none 0 0) rfl
 have BC : Blk (((W1.setCell ⟨bt, 0, none⟩ (.string nm)).setCell ⟨bt, 1, none⟩ (.slice none 0 0)).setCell ⟨bt, 2, none⟩ (.slice none 0 0)) bt #[.string nm, .slice none 0 0, .slice none 0 0, .slice none 0 0] 26 := BB.set 2 (.slice none 0 0) rfl
 have BT2 : Blk ((((W1.setCell ⟨bt, 0, none⟩ (.string nm)).setCell ⟨bt, 1, none⟩ (.slice none 0 0)).setCell ⟨bt, 2, none⟩ (.slice none 0 0)).setCell ⟨bt, 3, none⟩ (.slice ua T uc)) bt #[.string nm, .slice none 0 0, .slice none 0 0, .slice ua T uc] 26 := BC.set 3 (.slice ua T uc) rfl
 clear BA BB BC
 have HO2 : Hid (((((W1.setCell ⟨bt, 0, none⟩ (.string nm)).setCell ⟨bt, 1, none⟩ (.slice none 0 0)).setCell ⟨bt, 2, none⟩ (.slice none 0 0)).setCell ⟨bt, 3, none⟩ (.slice ua T uc)).ownsRow (b0 + 2) 72 3 (.slice ua T uc) T (mtRows ts).flatten) := own_blk HO.out BT (by decide) KS
 have BX2 := HX1.kp KS (by omega)
 have BR2 := HR1.kp KS (by omega)
 have hb2 : Below w.heap.size w ((((W1.setCell ⟨bt, 0, none⟩ (.string nm)).setCell ⟨bt, 1, none⟩ (.slice none 0 0)).setCell ⟨bt, 2, none⟩ (.slice none 0 0)).setCell ⟨bt, 3, none⟩ (.slice ua T uc)) := hbw.trans (KS.toBelow hbw.size (fun k e => by have := HBZ.out; omega))
 generalize ((((W1.setCell ⟨bt, 0, none⟩ (.string nm)).setCell ⟨bt, 1, none⟩ (.slice none 0 0)).setCell ⟨bt, 2, none⟩ (.slice none 0 0)).setCell ⟨bt, 3, none⟩ (.slice ua T uc)) = W2 at *
 have hbt2 : bt < W2.heap.size := BT2.lt
 clear t0 t1 t2 t3 z0 z1 z2 z3 KS HO HX1 HR1 hbw BT ho hbel hT hTb HAPP HB0 HX0 HR0 HS0 hAl
 have HMS0 : Hid (MsO W2 (bt + 1) (.slice none 0 0) (ms.take 0) []) := MsO.nil W2 (bt + 1)
 go_wp2_with fail
 go_loopw [4] (fun iv wr => ∃ (k : Nat) (va : Option Addr) (vc : Nat) (pm : List (Value × Value)), iv = .int .i64 (k : Int) ∧ k ≤ M ∧ Hid (MsO wr (bt + 1) (.slice va k vc) (ms.take k) pm) ∧ Hid (ApR pm) ∧ Blk wr bt #[.string nm, .slice va k vc, .slice none 0 0, .slice ua T uc] 26 ∧ Hid (wr.ownsRow (b0 + 2) 72 3 (.slice ua T uc) T (mtRows ts).flatten) ∧ Blk wr b0 #[.string nm, .slice am M cm, .slice ae E ce, .slice at' T ct] 26 ∧ Blk wr (b0 + 1) #[.string ⟨#[]⟩, .slice none 0 0, .slice none 0 0, .slice none 0 0] 26 ∧ Below w.heap.size w wr) (fun iv _ => M - (intOf iv).toNat)
 case atStart => exact ⟨0, none, 0, [], rfl, by omega, HMS0, ApR.nil, BT2, HO2, BX2, BR2, hb2⟩
 case round =>
  obtain ⟨k, va, vc, pm, rfl, hk, HMS, HAR, BT, HO, BX, BR, hbel⟩ := hrel
  clear HMS0 BT2 HO2 BX2 BR2 hb2 hbt2
  have hbtw : bt < wr.heap.size := BT.lt
  have x1 : wr.cell? ⟨b0, 1, none⟩ = some (.slice am M cm) := BX.cell 1
  by_cases hlt : k < M
  ·obtain ⟨m, hm⟩ : ∃ n, ms[k]? = some n := ⟨_, List.getElem?_eq_getElem (by rw [HNM.out]; exact hlt)⟩
   obtain ⟨g, off, vf, vr, rfl, c0, c1, c2, hrf, hrr⟩ := (HM.out.below hbel).get hm
   have HFf : Hid (RowG wr vf 5 (flRows m.fields)) := hrf
   have HRr : Hid (RowG wr vr 1 (inRows m.reserved)) := hrr
   obtain ⟨a3, c3, rfl, _, _⟩ := hrf.form2
   obtain ⟨a4, c4, rfl, _, _⟩ := hrr.form2
   have HFl : Hid (m.fields.length ≤ 20 ∧ m.reserved.length ≤ 40) := HF.out.flds m (List.mem_of_getElem? hm)
   have HTK : Hid (ms.take (k + 1) = ms.take k ++ [m]) := take_at hm
   have HLK : Hid ((ms.take k).length = k) := by show _ = _; rw [List.length_take, HNM.out]; omega
   obtain ⟨m0, mf, mr⟩ := m
   simp only at c0 c1 c2 HFl HTK
   have HFf : Hid (RowG wr (.slice a3 (flRows mf).length c3) 5 (flRows mf)) := HFf
   have HRr : Hid (RowG wr (.slice a4 (inRows mr).length c4) 1 (inRows mr)) := HRr
   generalize hnF : (flRows mf).length = nF at *
   generalize hnR : (inRows mr).length = nR at *
   clear hrf hrr hm hnF hnR
   have HLF : Hid ((flRows mf).length = mf.length) := by show _ = _; simp [flRows]
   go_wp2_with fail
   clear c0 c1 c2 x1
   refine M_region (T := fun W => W.cell? ⟨bt, 1, none⟩ = some (.slice va k vc) ∧ W.cell? ⟨wr.heap.size, 0, none⟩ = some (.string m0) ∧ W.cell? ⟨wr.heap.size, 1, none⟩ = some (.slice a3 nF c3) ∧ W.cell? ⟨wr.heap.size, 2, none⟩ = some (.slice a4 nR c4)) (m := 14) (by kernel_rfl) ?_
   have hb0 : Below wr.heap.size wr (wr.alloc (.cells #[.string m0, .slice a3 nF c3, .slice a4 nR c4] 50)).drew := below_drewN 1 ((Below.refl _ _).alloc (Nat.le_refl _) _)
   have BM0 : Blk (wr.alloc (.cells #[.string m0, .slice a3 nF c3, .slice a4 nR c4] 50)).drew wr.heap.size #[.string m0, .slice a3 nF c3, .slice a4 nR c4] 50 := Blk.new wr #[.string m0, .slice a3 nF c3, .slice a4 nR c4] 50
   generalize (wr.alloc (.cells #[.string m0, .slice a3 nF c3, .slice a4 nR c4] 50)).drew = W0 at *
   have BT0 := BT.below hb0
   have BX0 := BX.below hb0
   have BR0 := BR.below hb0
   have HMS0 : Hid (MsO W0 (bt + 1) (.slice va k vc) (ms.take k) pm) := HMS.out.below hb0
   have HO0 : Hid (W0.ownsRow (b0 + 2) 72 3 (.slice ua T uc) T (mtRows ts).flatten) := own_below HO.out hb0
   have HF0 : Hid (RowG W0 (.slice a3 nF c3) 5 (flRows mf)) := HFf.out.below hb0
   have HR0 : Hid (RowG W0 (.slice a4 nR c4) 1 (inRows mr)) := HRr.out.below hb0
   have hbel0 : Below w.heap.size w W0 := hbel.trans (hb0.mono hbel.size)
   have HOB : Hid (∀ q, (Value.slice va k vc).ownBlock = some q → q < wr.heap.size) := fun q hq => (HMS.out.own.lt q hq).2
   obtain ⟨bm, hbm⟩ : ∃ n, wr.heap.size = n := ⟨_, rfl⟩
   rw [hbm] at BM0 hbtw HOB ⊢
   clear hbm BT BX BR HMS HO HFf HRr hb0 hbel
   have hTW : ∀ W, Below W0.heap.size W0 W → W.cell? ⟨bt, 1, none⟩ = some (.slice va k vc) ∧ W.cell? ⟨bm, 0, none⟩ = some (.string m0) ∧ W.cell? ⟨bm, 1, none⟩ = some (.slice a3 nF c3) ∧ W.cell? ⟨bm, 2, none⟩ = some (.slice a4 nR c4) := fun W hW => ⟨(BT0.below hW).cell 1, (BM0.below hW).cell 0, (BM0.below hW).cell 1, (BM0.below hW).cell 2⟩
   have hT := hTW W0 (Below.refl _ _)
   refine M_take 0 25 (.pointer (some ⟨bt, 1, none⟩)) _ rfl rfl (by kernel_rfl) (by kernel_rfl) (by kernel_rfl) (by kernel_rfl) (by kernel_rfl) (fun _ _ _ h => h) (by rfl) (fun w' hw' => ?_) hT (listed' := #[true, false, false, false, false, false, false, false, false, false, false, false, false, false, false]) (by kernel_rfl) rfl ?_
   ·obtain ⟨g0, g1, g2, g3⟩ := hw'; go_simp
   simp only [List.setIfInBounds_toArray, List.set_cons_zero, List.set_cons_succ]
   refine M_take 2 27 (.pointer (some ⟨bm, 0, none⟩)) _ rfl rfl (by kernel_rfl) (by kernel_rfl) (by kernel_rfl) (by kernel_rfl) (by kernel_rfl) (fun _ _ _ h => h) (by rfl) (fun w' hw' => ?_) hT (listed' := #[true, false, true, false, false, false, false, false, false, false, false, false, false, false, false]) (by kernel_rfl) rfl ?_
   ·obtain ⟨g0, g1, g2, g3⟩ := hw'; go_simp
   simp only [List.setIfInBounds_toArray, List.set_cons_zero, List.set_cons_succ]
   refine M_take 4 29 (.pointer (some ⟨bm, 1, none⟩)) _ rfl rfl (by kernel_rfl) (by kernel_rfl) (by kernel_rfl) (by kernel_rfl) (by kernel_rfl) (fun _ _ _ h => h) (by rfl) (fun w' hw' => ?_) hT (listed' := #[true, false, true, false, true, false, false, false, false, false, false, false, false, false, false]) (by kernel_rfl) rfl ?_
   ·obtain ⟨g0, g1, g2, g3⟩ := hw'; go_simp
   simp only [List.setIfInBounds_toArray, List.set_cons_zero, List.set_cons_succ]
   refine M_take 7 32 (.pointer (some ⟨bm, 2, none⟩)) _ rfl rfl (by kernel_rfl) (by kernel_rfl) (by kernel_rfl) (by kernel_rfl) (by kernel_rfl) (fun _ _ _ h => h) (by rfl) (fun w' hw' => ?_) hT (listed' := #[true, false, true, false, true, false, false, true, false, false, false, false, false, false, false]) (by kernel_rfl) rfl ?_
   ·obtain ⟨g0, g1, g2, g3⟩ := hw'; go_simp
   simp only [List.setIfInBounds_toArray, List.set_cons_zero, List.set_cons_succ]
   refine M_take 1 26 (.slice va k vc) _ rfl rfl (by kernel_rfl) (by kernel_rfl) (by kernel_rfl) (by kernel_rfl) (by kernel_rfl) (fun _ _ _ h => h) (by rfl) (fun w' hw' => ?_) hT (listed' := #[true, true, true, false, true, false, false, true, false, false, false, false, false, false, false]) (by kernel_rfl) rfl ?_
   ·obtain ⟨g0, g1, g2, g3⟩ := hw'; go_simp
   simp only [List.setIfInBounds_toArray, List.set_cons_zero, List.set_cons_succ]
   refine M_take 3 28 (.string m0) _ rfl rfl (by kernel_rfl) (by kernel_rfl) (by kernel_rfl) (by kernel_rfl) (by kernel_rfl) (fun _ _ _ h => h) (by rfl) (fun w' hw' => ?_) hT (listed' := #[true, true, true, true, true, false, false, true, false, false, false, false, false, false, false]) (by kernel_rfl) rfl ?_
   ·obtain ⟨g0, g1, g2, g3⟩ := hw'; go_simp
   simp only [List.setIfInBounds_toArray, List.set_cons_zero, List.set_cons_succ]
   refine M_take 5 30 (.slice a3 nF c3) _ rfl rfl (by kernel_rfl) (by kernel_rfl) (by kernel_rfl) (by kernel_rfl) (by kernel_rfl) (fun _ _ _ h => h) (by rfl) (fun w' hw' => ?_) hT (listed' := #[true, true, true, true, true, true, false, true, false, false, false, false, false, false, false]) (by kernel_rfl) rfl ?_
   ·obtain ⟨g0, g1, g2, g3⟩ := hw'; go_simp
   simp only [List.setIfInBounds_toArray, List.set_cons_zero, List.set_cons_succ]
   refine M_take 8 33 (.slice a4 nR c4) _ rfl rfl (by kernel_rfl) (by kernel_rfl) (by kernel_rfl) (by kernel_rfl) (by kernel_rfl) (fun _ _ _ h => h) (by rfl) (fun w' hw' => ?_) hT (listed' := #[true, true, true, true, true, true, false, true, true, false, false, false, false, false, false]) (by kernel_rfl) rfl ?_
   ·obtain ⟨g0, g1, g2, g3⟩ := hw'; go_simp
   simp only [List.setIfInBounds_toArray, List.set_cons_zero, List.set_cons_succ]
   obtain ⟨vf, W1, r1, r2, r3⟩ := run_joinG (w := W0) 48 48 54 5 56 _ Tryz.underlying48 infoFl rfl (by decide) W0.heap.size (.slice none 0 0) 0 [] (World.ownsRow_nil _ _ _ _) (.slice a3 nF c3) (flRows mf) HF0.out (flr_len mf) (flr_one mf) (by have := HLF.out; have := HFl.out; omega) (by decide) (Nat.le_refl _)
   rw [List.nil_append, HLF.out, Nat.zero_add] at r2
   have hb1 : Below W0.heap.size W0 W1 := (Below.refl _ _).grown r3 (Nat.le_refl _) (fun k hk => by cases hk)
   obtain ⟨fa, fc, rfl⟩ := own_form r2
   have HO1 : Hid (W1.ownsRow W0.heap.size 54 5 (.slice fa mf.length fc) mf.length (flRows mf).flatten) := r2
   have HRUN : Hid _ := r1
   clear r1 r2 r3
   refine M_run 6 31 (.slice fa mf.length fc) (W1) rfl rfl (by kernel_rfl) (by rfl) (listed' := #[true, true, true, true, true, true, true, true, true, false, false, false, false, false, false]) (by kernel_rfl) (append_run rfl rfl rfl HRUN.out) (hTW W1 hb1) ?_
   simp only [List.setIfInBounds_toArray, List.set_cons_zero, List.set_cons_succ]
   clear HRUN
   refine M_call 9 34 31 #[.slice a4 nR c4] rfl rfl (by kernel_rfl) (by rfl) (listed' := #[true, true, true, true, true, true, true, true, true, true, false, false, false, false, false]) (by kernel_rfl) (fun W => by go_simp) ?_
   refine (ints_any (HR0.out.below hb1) (by have := HFl.out; omega)).mono ?_
   rintro e W2 ⟨vr, rfl, ho2, hb2⟩
   have hb02 : Below W0.heap.size W0 W2 := hb1.trans (hb2.mono hb1.size)
   have hT := hTW W2 hb02
   obtain ⟨ra, rc, hrv⟩ := own_form ho2
   subst hrv
   refine ⟨_, rfl, hT, ?_⟩
   simp only [List.setIfInBounds_toArray, List.set_cons_zero, List.set_cons_succ]
   have HO2 : Hid (W2.ownsRow W0.heap.size 3 1 (.slice ra mr.length rc) mr.length (inRows mr).flatten) := own_base ho2 hb1.size
   have HAR5 : Hid (ApR (pm ++ [(.slice fa mf.length fc, .slice ra mr.length rc)])) := HAR.out.snoc HMS0.out.highR (fun k hk => (HO2.out.lt k hk).1)
   have HO1 : Hid (W2.ownsRow W0.heap.size 54 5 (.slice fa mf.length fc) mf.length (flRows mf).flatten) := own_below HO1.out hb2
   clear ho2 hb2 hb1
   refine M_take 10 35 (.agg #[.string m0, .slice fa mf.length fc, .slice ra mr.length rc]) _ rfl rfl (by kernel_rfl) (by kernel_rfl) (by kernel_rfl) (by kernel_rfl) (by kernel_rfl) (fun _ _ _ h => h) (by rfl) (fun w' hw' => ?_) hT (listed' := #[true, true, true, true, true, true, true, true, true, true, true, false, false, false, false]) (by kernel_rfl) rfl ?_
   ·obtain ⟨g0, g1, g2, g3⟩ := hw'; go_simp
   simp only [List.setIfInBounds_toArray, List.set_cons_zero, List.set_cons_succ]
   have hal : Below W2.heap.size W2 (W2.alloc (.cells #[.string m0, .slice fa mf.length fc, .slice ra mr.length rc] 50)) := (Below.refl _ _).alloc (Nat.le_refl _) _
   have hb03 : Below W0.heap.size W0 (W2.alloc (.cells #[.string m0, .slice fa mf.length fc, .slice ra mr.length rc] 50)) := hb02.trans (hal.mono hb02.size)
   have BE := Blk.new W2 #[.string m0, .slice fa mf.length fc, .slice ra mr.length rc] 50
   have HO1 : Hid ((W2.alloc (.cells #[.string m0, .slice fa mf.length fc, .slice ra mr.length rc] 50)).ownsRow W0.heap.size 54 5 (.slice fa mf.length fc) mf.length (flRows mf).flatten) := own_below HO1.out hal
   have HO2 : Hid ((W2.alloc (.cells #[.string m0, .slice fa mf.length fc, .slice ra mr.length rc] 50)).ownsRow W0.heap.size 3 1 (.slice ra mr.length rc) mr.length (inRows mr).flatten) := own_below HO2.out hal
   obtain ⟨bz, hbz⟩ : ∃ n, W2.heap.size = n := ⟨_, rfl⟩
   refine M_run 11 36 (.slice (some ⟨W2.heap.size, 0, none⟩) 1 1) (W2.alloc (.cells #[.string m0, .slice fa mf.length fc, .slice ra mr.length rc] 50)) rfl rfl (by kernel_rfl) (by rfl) (listed' := #[true, true, true, true, true, true, true, true, true, true, true, true, false, false, false]) (by kernel_rfl) (by go_simp) (hTW _ hb03) ?_
   simp only [List.setIfInBounds_toArray, List.set_cons_zero, List.set_cons_succ]
   rw [hbz] at BE ⊢
   generalize (W2.alloc (.cells #[.string m0, .slice fa mf.length fc, .slice ra mr.length rc] 50)) = W3 at *
   clear hbz hal hb02
   have HMS3 : Hid (MsO W3 (bt + 1) (.slice va k vc) (ms.take k) pm) := HMS0.out.below hb03
   obtain ⟨i0, hi0, hz0, hz1, hz2⟩ := info_parts infoMs
   have hown := HMS3.out.own
   rw [HLK.out] at hown
   obtain ⟨v', W4, r1, r2, r3, _⟩ := run_append_own W3 (bt + 1) 22 22 50 i0 _ 3 64 Tryz.underlying22 hi0 hz0 hz1 hz2 rfl (by decide) (.slice va k vc) k _ hown ⟨bz, 0, none⟩ 1 1 [.string m0, .slice fa mf.length fc, .slice ra mr.length rc] rfl (fun j u hu => by
    have := BE.cell j
    rw [Addr.add_lit, Nat.zero_add, this]
    simpa using hu) (fun u hu => by
    simp only [List.mem_cons, List.not_mem_nil, or_false] at hu
    rcases hu with rfl | rfl | rfl <;> rfl) (by unfold maxLen; omega) (by omega) (by have := hb03.size; have := BT0.lt; omega)
   have HRUN : Hid _ := r1
   have KA : Kp (fun q => (Value.slice va k vc).ownBlock = some q) W3 W4 := (Kp.refl _ _).grown r3 (fun q hq _ => hq)
   have HMS4 : Hid (MsO W4 (bt + 1) v' (ms.take (k + 1)) (pm ++ [(.slice fa mf.length fc, .slice ra mr.length rc)])) := by
    show MsO _ _ _ _ _
    rw [HTK.out]
    refine MsO.snoc (m := ⟨m0, mf, mr⟩) HMS3.out HMS0.out.high (by have := BT0.lt; omega) HO1.out HO2.out ?_ KA
    rw [HLK.out]; exact r2
   obtain ⟨na, nc, hv'⟩ := own_form r2
   subst hv'
   have HMS4 : Hid (MsO W4 (bt + 1) (.slice na (k + 1) nc) (ms.take (k + 1)) (pm ++ [(.slice fa mf.length fc, .slice ra mr.length rc)])) := HMS4
   have hnob : ∀ b cs t, Blk W3 b cs t → t ≠ 50 → ¬ (Value.slice va k vc).ownBlock = some b := fun b cs t hb ht hq => ht (own_type hown hq hb).symm
   have BT4 := (BT0.below hb03).kp KA (hnob _ _ _ (BT0.below hb03) (by decide))
   have BX4 := (BX0.below hb03).kp KA (hnob _ _ _ (BX0.below hb03) (by decide))
   have BR4 := (BR0.below hb03).kp KA (hnob _ _ _ (BR0.below hb03) (by decide))
   have BMb := BM0.below hb03
   have HO4 : Hid (W4.ownsRow (b0 + 2) 72 3 (.slice ua T uc) T (mtRows ts).flatten) := own_kpV (own_below HO0.out hb03) KA (fun q hv hq => own_apart hown (own_below HO0.out hb03) (by decide) q hq hv)
   have hb4 : Below w.heap.size w W4 := (hbel0.trans (hb03.mono hbel0.size)).grown r3 (by have := hb03.size; have := hbel0.size; omega) (fun q hq => by have := (hown.lt q hq).1; have := HBZ.out; omega)
   have hTm : W4.cell? ⟨bt, 1, none⟩ = some (.slice va k vc) ∧ W4.cell? ⟨bm, 0, none⟩ = some (.string m0) ∧ W4.cell? ⟨bm, 1, none⟩ = some (.slice a3 nF c3) ∧ W4.cell? ⟨bm, 2, none⟩ = some (.slice a4 nR c4) := by
    have hq : ¬ (Value.slice va k vc).ownBlock = some bm := fun hq => by
     have := HOB.out bm hq
     omega
    exact ⟨BT4.cell 1, (BMb.kp KA hq).cell 0, (BMb.kp KA hq).cell 1, (BMb.kp KA hq).cell 2⟩
   clear r1 r2 r3 hown
   refine M_run 12 37 (.slice na (k + 1) nc) (W4) rfl rfl (by kernel_rfl) (by rfl) (listed' := #[true, true, true, true, true, true, true, true, true, true, true, true, true, false, false]) (by kernel_rfl) (append_run rfl rfl rfl HRUN.out) hTm ?_
   simp only [List.setIfInBounds_toArray, List.set_cons_zero, List.set_cons_succ]
   clear HRUN
   have hT := hTm
   refine M_take 13 38 (.pointer (some ⟨bt, 1, none⟩)) _ rfl rfl (by kernel_rfl) (by kernel_rfl) (by kernel_rfl) (by kernel_rfl) (by kernel_rfl) (fun _ _ _ h => h) (by rfl) (fun w' hw' => ?_) hT (listed' := #[true, true, true, true, true, true, true, true, true, true, true, true, true, true, false]) (by kernel_rfl) rfl ?_
   ·obtain ⟨g0, g1, g2, g3⟩ := hw'; go_simp
   simp only [List.setIfInBounds_toArray, List.set_cons_zero, List.set_cons_succ]
   have y1 := (BT4.cell 1).trans rfl
   have z1 := BT4.froz 1
   refine M_store 14 (W4.setCell ⟨bt, 1, none⟩ (.slice na (k + 1) nc)) rfl rfl (by kernel_rfl) (by rfl) (listed' := #[true, true, true, true, true, true, true, true, true, true, true, true, true, true, true]) (by kernel_rfl) (by go_simp) (by kernel_rfl) ?_
   refine M_done (by kernel_rfl) ?_ _
   have KS : Kp (fun q => q = bt) W4 (W4.setCell ⟨bt, 1, none⟩ (.slice na (k + 1) nc)) := by
    refine Kp.setCell ?_ (fun _ => by simp) _
    exact Kp.refl _ _
   have BT5 : Blk (W4.setCell ⟨bt, 1, none⟩ (.slice na (k + 1) nc)) bt #[.string nm, .slice na (k + 1) nc, .slice none 0 0, .slice ua T uc] 26 := BT4.set 1 _ rfl
   have BX5 := BX4.kp KS (by omega)
   have BR5 := BR4.kp KS (by omega)
   have HMS5 : Hid (MsO (W4.setCell ⟨bt, 1, none⟩ (.slice na (k + 1) nc)) (bt + 1) (.slice na (k + 1) nc) (ms.take (k + 1)) (pm ++ [(.slice fa mf.length fc, .slice ra mr.length rc)])) := HMS4.out.kp KS (fun q h1 h2 => by omega)
   have HO5 : Hid ((W4.setCell ⟨bt, 1, none⟩ (.slice na (k + 1) nc)).ownsRow (b0 + 2) 72 3 (.slice ua T uc) T (mtRows ts).flatten) := own_blk HO4.out BT4 (by decide) KS
   have hb5 : Below w.heap.size w (W4.setCell ⟨bt, 1, none⟩ (.slice na (k + 1) nc)) := hb4.trans (KS.toBelow hb4.size (fun q e => by have := HBZ.out; omega))
   generalize (W4.setCell ⟨bt, 1, none⟩ (.slice na (k + 1) nc)) = W5 at *
   clear y1 z1 KS BT4 BX4 BR4 HMS4 HO4 hb4 hT hTm hTW BM0 BT0 BX0 BR0 HMS0 HO0 HF0 HR0 hbel0 HMS3 KA BE hb03 HO1 HO2 hnob BMb
   go_wp2_with fail
   go_roundw
   case rel => exact ⟨k + 1, _, _, _, by go_num, by omega, HMS5, HAR5, BT5, HO5, BX5, BR5, hb5⟩
   case measure => simp [intOf]; omega
  ·obtain rfl : k = M := by omega
   have HMS0 : Hid (MsO wr (bt + 1) (.slice va k vc) ms pm) := by
    have := HMS.out
    rw [List.take_of_length_le (by rw [HNM.out]; omega)] at this
    exact this
   have HES0 : Hid (EnO wr (bt + 1) (.slice none 0 0) (es.take 0) []) := EnO.nil wr (bt + 1)
   clear HMS
   go_wp2_with fail
   clear x1
   go_loopw [6] (fun iv wr => ∃ (i : Nat) (na : Option Addr) (nc : Nat) (pe : List Value), iv = .int .i64 (i : Int) ∧ i ≤ E ∧ Hid (EnO wr (bt + 1) (.slice na i nc) (es.take i) pe) ∧ Hid (ApE pe) ∧ Hid (MsO wr (bt + 1) (.slice va k vc) ms pm) ∧ Blk wr bt #[.string nm, .slice va k vc, .slice na i nc, .slice ua T uc] 26 ∧ Hid (wr.ownsRow (b0 + 2) 72 3 (.slice ua T uc) T (mtRows ts).flatten) ∧ Blk wr b0 #[.string nm, .slice am k cm, .slice ae E ce, .slice at' T ct] 26 ∧ Blk wr (b0 + 1) #[.string ⟨#[]⟩, .slice none 0 0, .slice none 0 0, .slice none 0 0] 26 ∧ Below w.heap.size w wr) (fun iv _ => E - (intOf iv).toNat)
   case atStart => exact ⟨0, none, 0, [], rfl, by omega, HES0, ApE.nil, HMS0, BT, HO, BX, BR, hbel⟩
   case round =>
    obtain ⟨i, na, nc, pe, rfl, hi, HES, HAE, HMS, BT, HO, BX, BR, hbel⟩ := hrel
    clear HES0 HMS0
    have hbtw : bt < wr.heap.size := BT.lt
    have x2 : wr.cell? ⟨b0, 2, none⟩ = some (.slice ae E ce) := BX.cell 2
    by_cases hlt : i < E
    ·obtain ⟨m, hm⟩ : ∃ n, es[i]? = some n := ⟨_, List.getElem?_eq_getElem (by rw [HNE.out]; exact hlt)⟩
     obtain ⟨g, off, vv, rfl, c0, c1, hrf⟩ := (HE.out).get hm
     have HFf : Hid (RowG w vv 2 (nmRows m.values)) := hrf
     obtain ⟨a3, c3, rfl, _, _⟩ := hrf.form2
     have HFl : Hid (m.values.length ≤ 24) := HF.out.vals m (List.mem_of_getElem? hm)
     have HTK : Hid (es.take (i + 1) = es.take i ++ [m]) := take_at hm
     have HLK : Hid ((es.take i).length = i) := by show _ = _; rw [List.length_take, HNE.out]; omega
     obtain ⟨m0, mf⟩ := m
     simp only at c0 c1 HFl HTK
     have HFf : Hid (RowG w (.slice a3 (nmRows mf).length c3) 2 (nmRows mf)) := HFf
     generalize hnF : (nmRows mf).length = nF at *
     clear hrf hm hnF
     have HLF : Hid ((nmRows mf).length = mf.length) := by show _ = _; simp [nmRows]
     have hgb : g < b0 := by have h9 : g < w.heap.size := World.block_lt_of_cell? _ _ c0; have := HBZ.out; omega
     have C0 : Hid (w.cell? ⟨g, off + i * 2, none⟩ = some (.string m0)) := c0
     have C1 : Hid (w.cell? ⟨g, off + i * 2 + 1, none⟩ = some (.slice a3 nF c3)) := c1
     clear c0 c1
     go_wp2_with fail
     clear x2
     refine M_region (T := fun W => W.cell? ⟨bt, 2, none⟩ = some (.slice na i nc) ∧ W.cell? ⟨b0, 2, none⟩ = some (.slice (some ⟨g, off, none⟩) E ce) ∧ W.cell? ⟨g, off + i * 2, none⟩ = some (.string m0) ∧ W.cell? ⟨g, off + i * 2 + 1, none⟩ = some (.slice a3 nF c3)) (m := 19) (by kernel_rfl) ?_
     have hb0 : Below wr.heap.size wr wr.drew := below_drewN 1 (Below.refl _ _)
     generalize wr.drew = W0 at *
     have BT0 := BT.below hb0
     have BX0 := BX.below hb0
     have BR0 := BR.below hb0
     have HES0 : Hid (EnO W0 (bt + 1) (.slice na i nc) (es.take i) pe) := HES.out.below hb0
     have HMS0 : Hid (MsO W0 (bt + 1) (.slice va k vc) ms pm) := HMS.out.below hb0
     have HO0 : Hid (W0.ownsRow (b0 + 2) 72 3 (.slice ua T uc) T (mtRows ts).flatten) := own_below HO.out hb0
     have hbel0 : Below w.heap.size w W0 := hbel.trans (hb0.mono hbel.size)
     have hbtw : bt < W0.heap.size := BT0.lt
     clear BT BX BR HES HMS HO hb0 hbel
     have hTW : ∀ W, Below W0.heap.size W0 W → W.cell? ⟨bt, 2, none⟩ = some (.slice na i nc) ∧ W.cell? ⟨b0, 2, none⟩ = some (.slice (some ⟨g, off, none⟩) E ce) ∧ W.cell? ⟨g, off + i * 2, none⟩ = some (.string m0) ∧ W.cell? ⟨g, off + i * 2 + 1, none⟩ = some (.slice a3 nF c3) := fun W hW => by
      have hwW : Below w.heap.size w W := hbel0.trans (hW.mono hbel0.size)
      exact ⟨(BT0.below hW).cell 2, (BX0.below hW).cell 2, (hwW.cell (World.block_lt_of_cell? _ _ C0.out)).trans C0.out, (hwW.cell (World.block_lt_of_cell? _ _ C1.out)).trans C1.out⟩
     have hT := hTW W0 (Below.refl _ _)
     refine M_take 0 46 (.pointer (some ⟨bt, 2, none⟩)) _ rfl rfl (by kernel_rfl) (by kernel_rfl) (by kernel_rfl) (by kernel_rfl) (by kernel_rfl) (fun _ _ _ h => h) (by rfl) (fun w' hw' => ?_) hT (listed' := #[true, false, false, false, false, false, false, false, false, false, false, false, false, false, false, false, false, false, false, false]) (by kernel_rfl) rfl ?_
     ·obtain ⟨g0, g1, g2, g3⟩ := hw'; go_simp
     simp only [List.setIfInBounds_toArray, List.set_cons_zero, List.set_cons_succ]
     refine M_take 2 48 (.pointer (some ⟨b0, 2, none⟩)) _ rfl rfl (by kernel_rfl) (by kernel_rfl) (by kernel_rfl) (by kernel_rfl) (by kernel_rfl) (fun _ _ _ h => h) (by rfl) (fun w' hw' => ?_) hT (listed' := #[true, false, true, false, false, false, false, false, false, false, false, false, false, false, false, false, false, false, false, false]) (by kernel_rfl) rfl ?_
     ·obtain ⟨g0, g1, g2, g3⟩ := hw'; go_simp
     simp only [List.setIfInBounds_toArray, List.set_cons_zero, List.set_cons_succ]
     refine M_take 4 50 (.int .i64 (i : Int)) _ rfl rfl (by kernel_rfl) (by kernel_rfl) (by kernel_rfl) (by kernel_rfl) (by kernel_rfl) (fun _ _ _ h => h) (by rfl) (fun w' hw' => ?_) hT (listed' := #[true, false, true, false, true, false, false, false, false, false, false, false, false, false, false, false, false, false, false, false]) (by kernel_rfl) rfl ?_
     ·obtain ⟨g0, g1, g2, g3⟩ := hw'; go_simp
     simp only [List.setIfInBounds_toArray, List.set_cons_zero, List.set_cons_succ]
     refine M_take 8 54 (.pointer (some ⟨b0, 2, none⟩)) _ rfl rfl (by kernel_rfl) (by kernel_rfl) (by kernel_rfl) (by kernel_rfl) (by kernel_rfl) (fun _ _ _ h => h) (by rfl) (fun w' hw' => ?_) hT (listed' := #[true, false, true, false, true, false, false, false, true, false, false, false, false, false, false, false, false, false, false, false]) (by kernel_rfl) rfl ?_
     ·obtain ⟨g0, g1, g2, g3⟩ := hw'; go_simp
     simp only [List.setIfInBounds_toArray, List.set_cons_zero, List.set_cons_succ]
     refine M_take 10 56 (.int .i64 (i : Int)) _ rfl rfl (by kernel_rfl) (by kernel_rfl) (by kernel_rfl) (by kernel_rfl) (by kernel_rfl) (fun _ _ _ h => h) (by rfl) (fun w' hw' => ?_) hT (listed' := #[true, false, true, false, true, false, false, false, true, false, true, false, false, false, false, false, false, false, false, false]) (by kernel_rfl) rfl ?_
     ·obtain ⟨g0, g1, g2, g3⟩ := hw'; go_simp
     simp only [List.setIfInBounds_toArray, List.set_cons_zero, List.set_cons_succ]
     refine M_take 1 47 (.slice na i nc) _ rfl rfl (by kernel_rfl) (by kernel_rfl) (by kernel_rfl) (by kernel_rfl) (by kernel_rfl) (fun _ _ _ h => h) (by rfl) (fun w' hw' => ?_) hT (listed' := #[true, true, true, false, true, false, false, false, true, false, true, false, false, false, false, false, false, false, false, false]) (by kernel_rfl) rfl ?_
     ·obtain ⟨g0, g1, g2, g3⟩ := hw'; go_simp
     simp only [List.setIfInBounds_toArray, List.set_cons_zero, List.set_cons_succ]
     refine M_take 3 49 (.slice (some ⟨g, off, none⟩) E ce) _ rfl rfl (by kernel_rfl) (by kernel_rfl) (by kernel_rfl) (by kernel_rfl) (by kernel_rfl) (fun _ _ _ h => h) (by rfl) (fun w' hw' => ?_) hT (listed' := #[true, true, true, true, true, false, false, false, true, false, true, false, false, false, false, false, false, false, false, false]) (by kernel_rfl) rfl ?_
     ·obtain ⟨g0, g1, g2, g3⟩ := hw'; go_simp
     simp only [List.setIfInBounds_toArray, List.set_cons_zero, List.set_cons_succ]
     refine M_take 9 55 (.slice (some ⟨g, off, none⟩) E ce) _ rfl rfl (by kernel_rfl) (by kernel_rfl) (by kernel_rfl) (by kernel_rfl) (by kernel_rfl) (fun _ _ _ h => h) (by rfl) (fun w' hw' => ?_) hT (listed' := #[true, true, true, true, true, false, false, false, true, true, true, false, false, false, false, false, false, false, false, false]) (by kernel_rfl) rfl ?_
     ·obtain ⟨g0, g1, g2, g3⟩ := hw'; go_simp
     simp only [List.setIfInBounds_toArray, List.set_cons_zero, List.set_cons_succ]
     refine M_take 5 51 (.pointer (some ⟨g, off + i * 2, none⟩)) _ rfl rfl (by kernel_rfl) (by kernel_rfl) (by kernel_rfl) (by kernel_rfl) (by kernel_rfl) (fun _ _ _ h => h) (by rfl) (fun w' hw' => ?_) hT (listed' := #[true, true, true, true, true, true, false, false, true, true, true, false, false, false, false, false, false, false, false, false]) (by kernel_rfl) rfl ?_
     ·obtain ⟨g0, g1, g2, g3⟩ := hw'; go_simp
     simp only [List.setIfInBounds_toArray, List.set_cons_zero, List.set_cons_succ]
     refine M_take 11 57 (.pointer (some ⟨g, off + i * 2, none⟩)) _ rfl rfl (by kernel_rfl) (by kernel_rfl) (by kernel_rfl) (by kernel_rfl) (by kernel_rfl) (fun _ _ _ h => h) (by rfl) (fun w' hw' => ?_) hT (listed' := #[true, true, true, true, true, true, false, false, true, true, true, true, false, false, false, false, false, false, false, false]) (by kernel_rfl) rfl ?_
     ·obtain ⟨g0, g1, g2, g3⟩ := hw'; go_simp
     simp only [List.setIfInBounds_toArray, List.set_cons_zero, List.set_cons_succ]
     refine M_take 6 52 (.pointer (some ⟨g, off + i * 2, none⟩)) _ rfl rfl (by kernel_rfl) (by kernel_rfl) (by kernel_rfl) (by kernel_rfl) (by kernel_rfl) (fun _ _ _ h => h) (by rfl) (fun w' hw' => ?_) hT (listed' := #[true, true, true, true, true, true, true, false, true, true, true, true, false, false, false, false, false, false, false, false]) (by kernel_rfl) rfl ?_
     ·obtain ⟨g0, g1, g2, g3⟩ := hw'; go_simp
     simp only [List.setIfInBounds_toArray, List.set_cons_zero, List.set_cons_succ]
     refine M_take 12 58 (.pointer (some ⟨g, off + i * 2 + 1, none⟩)) _ rfl rfl (by kernel_rfl) (by kernel_rfl) (by kernel_rfl) (by kernel_rfl) (by kernel_rfl) (fun _ _ _ h => h) (by rfl) (fun w' hw' => ?_) hT (listed' := #[true, true, true, true, true, true, true, false, true, true, true, true, true, false, false, false, false, false, false, false]) (by kernel_rfl) rfl ?_
     ·obtain ⟨g0, g1, g2, g3⟩ := hw'; go_simp
     simp only [List.setIfInBounds_toArray, List.set_cons_zero, List.set_cons_succ]
     refine M_take 7 53 (.string m0) _ rfl rfl (by kernel_rfl) (by kernel_rfl) (by kernel_rfl) (by kernel_rfl) (by kernel_rfl) (fun _ _ _ h => h) (by rfl) (fun w' hw' => ?_) hT (listed' := #[true, true, true, true, true, true, true, true, true, true, true, true, true, false, false, false, false, false, false, false]) (by kernel_rfl) rfl ?_
     ·obtain ⟨g0, g1, g2, g3⟩ := hw'; go_simp
     simp only [List.setIfInBounds_toArray, List.set_cons_zero, List.set_cons_succ]
     refine M_take 13 59 (.slice a3 nF c3) _ rfl rfl (by kernel_rfl) (by kernel_rfl) (by kernel_rfl) (by kernel_rfl) (by kernel_rfl) (fun _ _ _ h => h) (by rfl) (fun w' hw' => ?_) hT (listed' := #[true, true, true, true, true, true, true, true, true, true, true, true, true, true, false, false, false, false, false, false]) (by kernel_rfl) rfl ?_
     ·obtain ⟨g0, g1, g2, g3⟩ := hw'; go_simp
     simp only [List.setIfInBounds_toArray, List.set_cons_zero, List.set_cons_succ]
     obtain ⟨vf, W1, r1, r2, r3⟩ := run_joinG (w := W0) 66 66 70 2 24 _ Tryz.underlying66 infoNm rfl (by decide) W0.heap.size (.slice none 0 0) 0 [] (World.ownsRow_nil _ _ _ _) (.slice a3 nF c3) (nmRows mf) (HFf.out.below hbel0) (nmr_len mf) (nmr_one mf) (by have := HLF.out; have := HFl.out; omega) (by decide) (Nat.le_refl _)
     rw [List.nil_append, HLF.out, Nat.zero_add] at r2
     have hb1 : Below W0.heap.size W0 W1 := (Below.refl _ _).grown r3 (Nat.le_refl _) (fun k hk => by cases hk)
     obtain ⟨fa, fc, rfl⟩ := own_form r2
     have HO1 : Hid (W1.ownsRow W0.heap.size 70 2 (.slice fa mf.length fc) mf.length (nmRows mf).flatten) := r2
     have HAE5 : Hid (ApE (pe ++ [.slice fa mf.length fc])) := HAE.out.snoc HES0.out.highE (fun k hk => (HO1.out.lt k hk).1)
     have HRUN : Hid _ := r1
     have hT := hTW W1 hb1
     clear r1 r2 r3
     refine M_run 14 60 (.slice fa mf.length fc) (W1) rfl rfl (by kernel_rfl) (by rfl) (listed' := #[true, true, true, true, true, true, true, true, true, true, true, true, true, true, true, false, false, false, false, false]) (by kernel_rfl) (append_run rfl rfl rfl HRUN.out) hT ?_
     simp only [List.setIfInBounds_toArray, List.set_cons_zero, List.set_cons_succ]
     clear HRUN
     refine M_take 15 61 (.agg #[.string m0, .slice fa mf.length fc]) _ rfl rfl (by kernel_rfl) (by kernel_rfl) (by kernel_rfl) (by kernel_rfl) (by kernel_rfl) (fun _ _ _ h => h) (by rfl) (fun w' hw' => ?_) hT (listed' := #[true, true, true, true, true, true, true, true, true, true, true, true, true, true, true, true, false, false, false, false]) (by kernel_rfl) rfl ?_
     ·obtain ⟨g0, g1, g2, g3⟩ := hw'; go_simp
     simp only [List.setIfInBounds_toArray, List.set_cons_zero, List.set_cons_succ]
     have hal : Below W1.heap.size W1 (W1.alloc (.cells #[.string m0, .slice fa mf.length fc] 68)) := (Below.refl _ _).alloc (Nat.le_refl _) _
     have hb03 : Below W0.heap.size W0 (W1.alloc (.cells #[.string m0, .slice fa mf.length fc] 68)) := hb1.trans (hal.mono hb1.size)
     have BE := Blk.new W1 #[.string m0, .slice fa mf.length fc] 68
     have HO1 : Hid ((W1.alloc (.cells #[.string m0, .slice fa mf.length fc] 68)).ownsRow W0.heap.size 70 2 (.slice fa mf.length fc) mf.length (nmRows mf).flatten) := own_below HO1.out hal
     obtain ⟨bz, hbz⟩ : ∃ n, W1.heap.size = n := ⟨_, rfl⟩
     refine M_run 16 62 (.slice (some ⟨W1.heap.size, 0, none⟩) 1 1) (W1.alloc (.cells #[.string m0, .slice fa mf.length fc] 68)) rfl rfl (by kernel_rfl) (by rfl) (listed' := #[true, true, true, true, true, true, true, true, true, true, true, true, true, true, true, true, true, false, false, false]) (by kernel_rfl) (by go_simp) (hTW _ hb03) ?_
     simp only [List.setIfInBounds_toArray, List.set_cons_zero, List.set_cons_succ]
     rw [hbz] at BE ⊢
     generalize (W1.alloc (.cells #[.string m0, .slice fa mf.length fc] 68)) = W3 at *
     clear hbz hal hb1
     have HES3 : Hid (EnO W3 (bt + 1) (.slice na i nc) (es.take i) pe) := HES0.out.below hb03
     obtain ⟨i0, hi0, hz0, hz1, hz2⟩ := info_parts infoEn
     have hown := HES3.out.own
     rw [HLK.out] at hown
     obtain ⟨v', W4, r1, r2, r3, _⟩ := run_append_own W3 (bt + 1) 23 23 68 i0 _ 2 40 Tryz.underlying23 hi0 hz0 hz1 hz2 rfl (by decide) (.slice na i nc) i _ hown ⟨bz, 0, none⟩ 1 1 [.string m0, .slice fa mf.length fc] rfl (fun j u hu => by
      have := BE.cell j
      rw [Addr.add_lit, Nat.zero_add, this]
      simpa using hu) (fun u hu => by
      simp only [List.mem_cons, List.not_mem_nil, or_false] at hu
      rcases hu with rfl | rfl <;> rfl) (by unfold maxLen; omega) (by omega) (by have := hb03.size; omega)
     have HRUN : Hid _ := r1
     have KA : Kp (fun q => (Value.slice na i nc).ownBlock = some q) W3 W4 := (Kp.refl _ _).grown r3 (fun q hq _ => hq)
     have HES4 : Hid (EnO W4 (bt + 1) v' (es.take (i + 1)) (pe ++ [.slice fa mf.length fc])) := by
      show EnO _ _ _ _ _
      rw [HTK.out]
      refine EnO.snoc (m := ⟨m0, mf⟩) HES3.out (H := W0.heap.size) (by omega) HO1.out ?_ KA
      rw [HLK.out]; exact r2
     obtain ⟨oa, oc, hv'⟩ := own_form r2
     subst hv'
     have HES4 : Hid (EnO W4 (bt + 1) (.slice oa (i + 1) oc) (es.take (i + 1)) (pe ++ [.slice fa mf.length fc])) := HES4
     have hnob : ∀ b cs t, Blk W3 b cs t → t ≠ 68 → ¬ (Value.slice na i nc).ownBlock = some b := fun b cs t hb ht hq => ht (own_type hown hq hb).symm
     have BT4 := (BT0.below hb03).kp KA (hnob _ _ _ (BT0.below hb03) (by decide))
     have BX4 := (BX0.below hb03).kp KA (hnob _ _ _ (BX0.below hb03) (by decide))
     have BR4 := (BR0.below hb03).kp KA (hnob _ _ _ (BR0.below hb03) (by decide))
     have HMS4 : Hid (MsO W4 (bt + 1) (.slice va k vc) ms pm) := (HMS0.out.below hb03).beside hown (by decide) (by decide) (by decide) KA
     have HO4 : Hid (W4.ownsRow (b0 + 2) 72 3 (.slice ua T uc) T (mtRows ts).flatten) := own_kpV (own_below HO0.out hb03) KA (fun q hv hq => own_apart hown (own_below HO0.out hb03) (by decide) q hq hv)
     have hb4 : Below w.heap.size w W4 := (hbel0.trans (hb03.mono hbel0.size)).grown r3 (by have := hb03.size; have := hbel0.size; omega) (fun q hq => by have := (hown.lt q hq).1; have := HBZ.out; omega)
     have hTm : W4.cell? ⟨bt, 2, none⟩ = some (.slice na i nc) ∧ W4.cell? ⟨b0, 2, none⟩ = some (.slice (some ⟨g, off, none⟩) E ce) ∧ W4.cell? ⟨g, off + i * 2, none⟩ = some (.string m0) ∧ W4.cell? ⟨g, off + i * 2 + 1, none⟩ = some (.slice a3 nF c3) :=
      ⟨BT4.cell 2, BX4.cell 2, (hb4.cell (World.block_lt_of_cell? _ _ C0.out)).trans C0.out, (hb4.cell (World.block_lt_of_cell? _ _ C1.out)).trans C1.out⟩
     clear r1 r2 r3 hown
     refine M_run 17 63 (.slice oa (i + 1) oc) (W4) rfl rfl (by kernel_rfl) (by rfl) (listed' := #[true, true, true, true, true, true, true, true, true, true, true, true, true, true, true, true, true, true, false, false]) (by kernel_rfl) (append_run rfl rfl rfl HRUN.out) hTm ?_
     simp only [List.setIfInBounds_toArray, List.set_cons_zero, List.set_cons_succ]
     clear HRUN
     have hT := hTm
     refine M_take 18 64 (.pointer (some ⟨bt, 2, none⟩)) _ rfl rfl (by kernel_rfl) (by kernel_rfl) (by kernel_rfl) (by kernel_rfl) (by kernel_rfl) (fun _ _ _ h => h) (by rfl) (fun w' hw' => ?_) hT (listed' := #[true, true, true, true, true, true, true, true, true, true, true, true, true, true, true, true, true, true, true, false]) (by kernel_rfl) rfl ?_
     ·obtain ⟨g0, g1, g2, g3⟩ := hw'; go_simp
     simp only [List.setIfInBounds_toArray, List.set_cons_zero, List.set_cons_succ]
     have y1 := (BT4.cell 2).trans rfl
     have z1 := BT4.froz 2
     refine M_store 19 (W4.setCell ⟨bt, 2, none⟩ (.slice oa (i + 1) oc)) rfl rfl (by kernel_rfl) (by rfl) (listed' := #[true, true, true, true, true, true, true, true, true, true, true, true, true, true, true, true, true, true, true, true]) (by kernel_rfl) (by go_simp) (by kernel_rfl) ?_
     refine M_done (by kernel_rfl) ?_ _
     have KS : Kp (fun q => q = bt) W4 (W4.setCell ⟨bt, 2, none⟩ (.slice oa (i + 1) oc)) := by
      refine Kp.setCell ?_ (fun _ => by simp) _
      exact Kp.refl _ _
     have BT5 : Blk (W4.setCell ⟨bt, 2, none⟩ (.slice oa (i + 1) oc)) bt #[.string nm, .slice va k vc, .slice oa (i + 1) oc, .slice ua T uc] 26 := BT4.set 2 _ rfl
     have BX5 := BX4.kp KS (by omega)
     have BR5 := BR4.kp KS (by omega)
     have HES5 : Hid (EnO (W4.setCell ⟨bt, 2, none⟩ (.slice oa (i + 1) oc)) (bt + 1) (.slice oa (i + 1) oc) (es.take (i + 1)) (pe ++ [.slice fa mf.length fc])) := HES4.out.kp KS (fun q h1 h2 => by omega)
     have HMS5 : Hid (MsO (W4.setCell ⟨bt, 2, none⟩ (.slice oa (i + 1) oc)) (bt + 1) (.slice va k vc) ms pm) := HMS4.out.kp KS (fun q h1 h2 => by omega)
     have HO5 : Hid ((W4.setCell ⟨bt, 2, none⟩ (.slice oa (i + 1) oc)).ownsRow (b0 + 2) 72 3 (.slice ua T uc) T (mtRows ts).flatten) := own_blk HO4.out BT4 (by decide) KS
     have hb5 : Below w.heap.size w (W4.setCell ⟨bt, 2, none⟩ (.slice oa (i + 1) oc)) := hb4.trans (KS.toBelow hb4.size (fun q e => by have := HBZ.out; omega))
     generalize (W4.setCell ⟨bt, 2, none⟩ (.slice oa (i + 1) oc)) = W5 at *
     clear y1 z1 KS BT4 BX4 BR4 HMS4 HES4 HO4 hb4 hT hTm hTW BT0 BX0 BR0 HMS0 HES0 HO0 hbel0 HES3 KA BE hb03 HO1 hnob
     go_wp2_with fail
     go_roundw
     case rel => exact ⟨i + 1, _, _, _, by go_num, by omega, HES5, HAE5, HMS5, BT5, HO5, BX5, BR5, hb5⟩
     case measure => simp [intOf]; omega
    ·have HES1 : Hid (EnO wr (bt + 1) (.slice na i nc) es pe) := by
      have := HES.out
      rw [List.take_of_length_le (by rw [HNE.out]; omega)] at this
      exact this
     have t0 : wr.cell? ⟨bt, 0, none⟩ = some (.string nm) := BT.cell 0
     have t1 : wr.cell? ⟨bt, 1, none⟩ = some (.slice va k vc) := BT.cell 1
     have t2 : wr.cell? ⟨bt, 2, none⟩ = some (.slice na i nc) := BT.cell 2
     have t3 : wr.cell? ⟨bt, 3, none⟩ = some (.slice ua T uc) := BT.cell 3
     have r0 := (BR.cell 0).trans rfl
     have r1 := (BR.cell 1).trans rfl
     have r2 := (BR.cell 2).trans rfl
     have r3 := (BR.cell 3).trans rfl
     have z0 := BR.froz 0
     have z1 := BR.froz 1
     have z2 := BR.froz 2
     have z3 := BR.froz 3
     go_wp2_with fail
     refine bodyPost_ret (results_cell rfl _ _ _ ⟨b0 + 1, 0, none⟩ (.agg #[.string nm, .slice va k vc, .slice na i nc, .slice ua T uc]) (by go_simp) (by go_simp)) rfl ?_
     have KS : Kp (fun q => q = b0 + 1) wr ((((wr.setCell ⟨b0 + 1, 0, none⟩ (.string nm)).setCell ⟨b0 + 1, 1, none⟩ (.slice va k vc)).setCell ⟨b0 + 1, 2, none⟩ (.slice na i nc)).setCell ⟨b0 + 1, 3, none⟩ (.slice ua T uc)) := by
      refine Kp.setCell ?_ (fun _ => by simp) _
      refine Kp.setCell ?_ (fun _ => by simp) _
      refine Kp.setCell ?_ (fun _ => by simp) _
      refine Kp.setCell ?_ (fun _ => by simp) _
      exact Kp.refl _ _
     refine ⟨_, _, _, pm, pe, rfl, ?_, ?_, ?_, ?_, HAR.out, HAE.out⟩
     ·exact (HMS.out.kp KS (fun q h1 h2 => by omega)).base (by have := HBZ.out; omega)
     ·exact (HES1.out.kp KS (fun q h1 h2 => by omega)).base (by have := HBZ.out; omega)
     ·exact own_base (own_kp HO.out KS (fun q h1 h2 => by omega)) (by have := HBZ.out; omega)
     ·exact hbel.trans (KS.toBelow hbel.size (fun q e => by have := HBZ.out; omega))
theorem schema_any {w : World} {v : Value} {s : ScS} (hr : ScIn w v s) (hf : FewL s) :
  Calls Tryz.prog 10 #[v] w fun e w' => ∃ vm ve vt pm pe, e = .returned (.agg #[.string s.name, vm, ve, vt]) ∧ MsO w' w.heap.size vm s.msgs pm ∧ EnO w' w.heap.size ve s.enums pe ∧ w'.ownsRow w.heap.size 72 3 vt s.methods.length (mtRows s.methods).flatten ∧ Below w.heap.size w w' :=
 (schema_ap hr hf).mono fun e w' ⟨vm, ve, vt, pm, pe, h1, h2, h3, h4, h5, _⟩ => ⟨vm, ve, vt, pm, pe, h1, h2, h3, h4, h5⟩
theorem has_step {es : List (Int × List Tr)} {i : Nat} {e : Int × List Tr} {tag : Int} (h : es[i]? = some e) : hasB (es.take (i + 1)) tag = (hasB (es.take i) tag || e.1 == tag) := by
 have : es.take (i + 1) = es.take i ++ [e] := by rw [List.take_add_one, h]; rfl
 rw [this]; simp [hasB]
theorem has_yes {es : List (Int × List Tr)} {i : Nat} {e : Int × List Tr} (h : es[i]? = some e) : hasB es e.1 = true := by
 simp only [hasB, List.any_eq_true, beq_iff_eq]
 exact ⟨e, List.mem_of_getElem? h, rfl⟩
set_option maxHeartbeats 2000000 in
theorem rhas_any (n : Nat) (t : Tr) (v : Value) (tag : Int) (w : World) (ht : TrIn (n + 1) w v t) :
  Calls Tryz.prog 28 #[v, .int .i64 tag] w fun e w' => e = .returned (.bool (hasB t.es tag)) ∧ Below w.heap.size w w' := by
 obtain ⟨n', ve, vr, e0, rfl, ka, na, sa, fa, ra, ea⟩ := ht.open
 obtain rfl : n' = n := by omega
 clear e0 ht
 obtain ⟨pe, ce, rfl, u1, u2, -⟩ := ea.open
 obtain ⟨pr, cr, rfl, x1, x2, -⟩ := rest_holds ra
 unfold maxLen at u2 x2
 obtain ⟨Ke, hKe⟩ : ∃ K, t.es.length = K := ⟨_, rfl⟩
 rw [hKe] at u1 ⊢
 have EA : Hid (EnsIn n' w (.slice pe Ke ce) t.es) := (by rw [← hKe]; exact ea : EnsIn n' w (.slice pe Ke ce) t.es)
 have HKe : Hid (t.es.length = Ke) := hKe
 clear hKe ea ra fa ka na sa
 obtain ⟨A, hA⟩ : ∃ A, hasB t.es tag = A := ⟨_, rfl⟩
 rw [hA]
 have HA : Hid (hasB t.es tag = A) := hA
 clear hA
 generalize t.rest.length = Kr at *
 generalize t.kind = K at *
 generalize t.n = N at *
 generalize t.s = S at *
 have B0 : Blk (w.alloc (Obj.cells #[.int .i64 K, .int .i64 N, .string S, .slice pe Ke ce, .slice pr Kr cr] 30)) w.heap.size #[.int .i64 K, .int .i64 N, .string S, .slice pe Ke ce, .slice pr Kr cr] 30 := Blk.new w _ _
 have hb0 : Below w.heap.size w (w.alloc (Obj.cells #[.int .i64 K, .int .i64 N, .string S, .slice pe Ke ce, .slice pr Kr cr] 30)) := (Below.refl _ _).alloc (Nat.le_refl _) _
 go_enter Tryz.func28, Tryz.ntmps28
 go_wp2_with fail
 generalize (w.alloc (Obj.cells #[.int .i64 K, .int .i64 N, .string S, .slice pe Ke ce, .slice pr Kr cr] 30)) = WA at *
 obtain ⟨b0, hb0'⟩ : ∃ b, w.heap.size = b := ⟨_, rfl⟩
 rw [hb0'] at B0
 rw [hb0']
 have HBZ : Hid (w.heap.size = b0) := hb0'
 clear hb0'
 go_loopw [5] (fun iv wr => ∃ i : Nat, iv = .int .i64 (i : Int) ∧ i ≤ Ke ∧ Hid (hasB (t.es.take i) tag = false) ∧ WA = wr) (fun iv _ => Ke - (intOf iv).toNat)
 case atStart => exact ⟨0, rfl, by omega, (by simp [hasB] : hasB (t.es.take 0) tag = false), rfl⟩
 case round =>
  obtain ⟨i, rfl, hi, HM, rfl⟩ := hrel
  have a3 := (B0.cell 3).trans rfl
  by_cases hlt : i < Ke
  ·obtain ⟨x, hx⟩ : ∃ r, t.es[i]? = some r := ⟨_, List.getElem?_eq_getElem (by rw [HKe.out]; exact hlt)⟩
   obtain ⟨ge, off, rfl, cc⟩ := (EA.out.belowE hb0).get hx
   obtain ⟨vt, p0, p1, p2, p3⟩ := ens_at cc
   by_cases hxt : x.1 = tag
   ·have HH : Hid (true = A) := (hxt ▸ has_yes hx).symm.trans HA.out
    have hq : (x.1 == tag) = true := by simpa using hxt
    clear cc p1 p2 p3 hx hxt HM
    go_wp2_with fail
    go_ret
    exact ⟨congrArg (fun b => Ending.returned (Value.bool b)) HH.out, hb0⟩
   ·have hq : (x.1 == tag) = false := by simpa using hxt
    have HM2 : Hid (hasB (t.es.take (i + 1)) tag = false) := (by rw [has_step hx, HM.out, hq]; rfl : hasB (t.es.take (i + 1)) tag = false)
    clear cc p1 p2 p3 hx hxt HM
    go_wp2_with fail
    clear a3 p0 hq
    go_roundw
    case rel => exact ⟨i + 1, by go_num, by omega, HM2, trivial⟩
    case measure => simp [intOf]; omega
  ·have HH : Hid (false = A) := by
    have h1 := HM.out
    rw [List.take_of_length_le (by rw [HKe.out]; omega), HA.out] at h1
    exact h1.symm
   clear HM
   go_wp2_with fail
   go_ret
   exact ⟨congrArg (fun b => Ending.returned (Value.bool b)) HH.out, hb0⟩
set_option maxHeartbeats 2000000 in
theorem runder_any (n : Nat) (t : Tr) (v : Value) (tag : Int) (w : World) (ht : TrIn (n + 1) w v t) :
  Calls Tryz.prog 29 #[v, .int .i64 tag] w fun e w' => ∃ r, e = .returned r ∧ TrsIn n w' r ((undL t.es tag).getD []) ∧ Below w.heap.size w w' := by
 obtain ⟨n', ve, vr, e0, rfl, ka, na, sa, fa, ra, ea⟩ := ht.open
 obtain rfl : n' = n := by omega
 clear e0 ht
 obtain ⟨pe, ce, rfl, u1, u2, -⟩ := ea.open
 obtain ⟨pr, cr, rfl, x1, x2, -⟩ := rest_holds ra
 unfold maxLen at u2 x2
 obtain ⟨Ke, hKe⟩ : ∃ K, t.es.length = K := ⟨_, rfl⟩
 rw [hKe] at u1 ⊢
 have EA : Hid (EnsIn n' w (.slice pe Ke ce) t.es) := (by rw [← hKe]; exact ea : EnsIn n' w (.slice pe Ke ce) t.es)
 have HKe : Hid (t.es.length = Ke) := hKe
 clear hKe ea ra fa ka na sa
 obtain ⟨A, hA⟩ : ∃ A, (undL t.es tag).getD [] = A := ⟨_, rfl⟩
 rw [hA]
 have HA : Hid ((undL t.es tag).getD [] = A) := hA
 clear hA
 generalize t.rest.length = Kr at *
 generalize t.kind = K at *
 generalize t.n = N at *
 generalize t.s = S at *
 have B0 : Blk (w.alloc (Obj.cells #[.int .i64 K, .int .i64 N, .string S, .slice pe Ke ce, .slice pr Kr cr] 30)) w.heap.size #[.int .i64 K, .int .i64 N, .string S, .slice pe Ke ce, .slice pr Kr cr] 30 := Blk.new w _ _
 have hb0 : Below w.heap.size w (w.alloc (Obj.cells #[.int .i64 K, .int .i64 N, .string S, .slice pe Ke ce, .slice pr Kr cr] 30)) := (Below.refl _ _).alloc (Nat.le_refl _) _
 go_enter Tryz.func29, Tryz.ntmps29
 go_wp2_with fail
 generalize (w.alloc (Obj.cells #[.int .i64 K, .int .i64 N, .string S, .slice pe Ke ce, .slice pr Kr cr] 30)) = WA at *
 obtain ⟨b0, hb0'⟩ : ∃ b, w.heap.size = b := ⟨_, rfl⟩
 rw [hb0'] at B0
 rw [hb0']
 have HBZ : Hid (w.heap.size = b0) := hb0'
 clear hb0'
 go_loopw [5] (fun iv wr => ∃ i : Nat, iv = .int .i64 (i : Int) ∧ i ≤ Ke ∧ Hid (∀ e ∈ t.es.take i, e.1 ≠ tag) ∧ WA = wr) (fun iv _ => Ke - (intOf iv).toNat)
 case atStart => exact ⟨0, rfl, by omega, (by simp : ∀ e ∈ t.es.take 0, e.1 ≠ tag), rfl⟩
 case round =>
  obtain ⟨i, rfl, hi, HM, rfl⟩ := hrel
  have a3 := (B0.cell 3).trans rfl
  by_cases hlt : i < Ke
  ·obtain ⟨x, hx⟩ : ∃ r, t.es[i]? = some r := ⟨_, List.getElem?_eq_getElem (by rw [HKe.out]; exact hlt)⟩
   obtain ⟨ge, off, rfl, cc⟩ := (EA.out.belowE hb0).get hx
   obtain ⟨vt, p0, p1, p2, p3⟩ := ens_at cc
   by_cases hxt : x.1 = tag
   ·have hq : (x.1 == tag) = true := by simpa using hxt
    have HH : Hid (TrsIn n' WA vt A) := (by
     rw [← HA.out, undL_step hx HM.out hxt]
     exact p3 : TrsIn n' WA vt A)
    obtain ⟨ta, tc, hvt, -⟩ := RowP.open p3
    subst hvt
    clear cc p2 p3 hx hxt HM
    generalize x.2.length = Xl at *
    go_wp2_with fail
    go_ret
    exact ⟨_, rfl, HH.out, hb0⟩
   ·have hq : (x.1 == tag) = false := by simpa using hxt
    have HM2 : Hid (∀ e ∈ t.es.take (i + 1), e.1 ≠ tag) := (by
     intro e he
     obtain ⟨hl, rfl⟩ := List.getElem?_eq_some_iff.1 hx
     rw [List.take_succ_eq_append_getElem hl] at he
     rcases List.mem_append.1 he with he | he
     ·exact HM.out e he
     ·rw [List.mem_singleton.1 he]; exact hxt : ∀ e ∈ t.es.take (i + 1), e.1 ≠ tag)
    clear cc p1 p2 p3 hx hxt HM
    go_wp2_with fail
    clear a3 p0 hq
    go_roundw
    case rel => exact ⟨i + 1, by go_num, by omega, HM2, trivial⟩
    case measure => simp [intOf]; omega
  ·have hiK : i = Ke := by omega
   have HN : Hid (A = []) := (by
    have h1 := HM.out
    rw [hiK, ← HKe.out, List.take_length] at h1
    rw [← HA.out, undL_no h1]
    rfl : A = [])
   have dlt : decide ((i : Int) < (Ke : Int)) = false := by simp; omega
   clear HM hiK
   go_wp2_with fail
   go_ret
   exact ⟨_, rfl, by rw [HN.out]; exact RowP.nil _ _ _, hb0⟩
def PlMap (w : World) (b : Nat) (L : List (Value × Value)) : Prop := ∃ es clock, w.heap[b]? = some (.map es clock) ∧ es.toList.map (fun e => (e.key, e.val)) = L
theorem PlMap.lt {w : World} {b : Nat} {L : List (Value × Value)} (h : PlMap w b L) : b < w.heap.size := by
 obtain ⟨es, c, h, _⟩ := h
 exact (Array.getElem?_eq_some_iff.1 h).1
theorem PlMap.kp {S : Nat → Prop} {w w1 : World} {b : Nat} {L : List (Value × Value)} (h : PlMap w b L) (hk : Kp S w w1) (hs : ¬ S b) : PlMap w1 b L := by
 have hl := h.lt
 obtain ⟨es, c, h1, h2⟩ := h
 exact ⟨es, c, (hk.block b hl hs).trans h1, h2⟩
theorem PlMap.below {w w1 : World} {b : Nat} {L : List (Value × Value)} (h : PlMap w b L) (hk : Below w.heap.size w w1) : PlMap w1 b L := h.kp (S := fun _ => False) (Kp.ofBelow hk) (fun e => e)
theorem PlMap.made (w : World) : PlMap (w.alloc (.map #[] 0)) w.heap.size [] := ⟨#[], 0, heap_alloc_new w _, rfl⟩
theorem PlMap.neB {w : World} {b : Nat} {L : List (Value × Value)} (h : PlMap w b L) {g : Nat} {cs : Array Value} {t : TypeId} {fz : Nat × Nat} (hc : w.heap[g]? = some (.cells cs t fz)) : g ≠ b := by
 rintro rfl
 obtain ⟨es, c, hb, _⟩ := h
 rw [hb] at hc; cases hc
section
variable {T MT : TypeId} {w : World} {k : Value}
theorem find_askM : ∀ (l : List MapEntry) (i : Nat), Told T w k (l.map MapEntry.key) →
  (∃ j e, (Instr.findAsking T k l i).run Tryz.prog w = .ok (some (i + j, e.val)) w ∧ l[j]? = some e ∧ e.key = k) ∨ ((Instr.findAsking T k l i).run Tryz.prog w = .ok none w ∧ k ∉ l.map MapEntry.key)
 | [], i, _ => .inr (by simp [Instr.findAsking])
 | e :: l, i, ht => by
  obtain ⟨h1, h2⟩ := ht e.key (List.mem_cons_self ..)
  by_cases hke : k = e.key
  ·refine .inl ⟨0, e, ?_, rfl, hke.symm⟩
   unfold Instr.findAsking
   rw [Sem.run_bind, h1 hke]
   simp [Result.andThen]
  ·have hrun : (Instr.findAsking T k (e :: l) i).run Tryz.prog w = (Instr.findAsking T k l (i + 1)).run Tryz.prog w := by
    conv => lhs; unfold Instr.findAsking
    rw [Sem.run_bind, h2 hke]
    simp [Result.andThen]
   rcases find_askM l (i + 1) (fun q hq => ht q (List.mem_cons_of_mem _ hq)) with ⟨j, e', g1, g2, g3⟩ | ⟨g1, g2⟩
   ·exact .inl ⟨j + 1, e', by rw [hrun, g1]; congr 3; omega, by simpa using g2, g3⟩
   ·refine .inr ⟨hrun.trans g1, fun h => ?_⟩
    rcases List.mem_cons.1 h with h | h
    ·exact hke h
    ·exact g2 h
theorem find_keyM {fs : TypeDesc} (hu : Tryz.prog.underlying T = some fs) (hf : ∀ k q, Instr.sameNow fs (.agg k) q = none) {ks : Array Value} (hk : k = .agg ks) (l : List MapEntry) (ht : Told T w k (l.map MapEntry.key)) :
  (∃ j e, (Instr.findKey T k l).run Tryz.prog w = .ok (some (j, e.val)) w ∧ l[j]? = some e ∧ e.key = k) ∨ ((Instr.findKey T k l).run Tryz.prog w = .ok none w ∧ k ∉ l.map MapEntry.key) := by
 cases l with
 | nil => exact .inr (by simp [Instr.findKey, run_underlying hu, Instr.findNow])
 | cons e l =>
  have h1 : Instr.findNow fs k (e :: l) 0 = none := by rw [hk]; simp [Instr.findNow, hf]
  have h2 : (Instr.findKey T k (e :: l)).run Tryz.prog w = (Instr.findAsking T k (e :: l) 0).run Tryz.prog w := by
   simp [Instr.findKey, run_underlying hu, h1]
  rw [h2]
  have := find_askM (e :: l) 0 ht
  simpa using this
variable {E : TypeId} {L : List (Value × Value)} {b : Nat}
theorem keys_of {es : Array MapEntry} : (es.toList.map (fun e => (e.key, e.val))).map Prod.fst = es.toList.map MapEntry.key := by simp [Function.comp_def]
theorem look_map (hm : Tryz.prog.underlying MT = some (.map T E)) {z : Value} (hz : ∀ w, (zeroValue E).run Tryz.prog w = .ok z w) {fs : TypeDesc} (hu : Tryz.prog.underlying T = some fs) (hf : ∀ k q, Instr.sameNow fs (.agg k) q = none) {ks : Array Value} (hk : k = .agg ks)
  (hc : ∀ e, (Instr.checkKey e 10000 T k).run Tryz.prog w = .ok () w) (hs : PlMap w b L) (ht : Told T w k (L.map Prod.fst)) :
  (∃ v, (k, v) ∈ L ∧ (Instr.lookup MT (.map (some b)) k true).run Tryz.prog w = .ok (.tuple #[v, .bool true]) w) ∨ (k ∉ L.map Prod.fst ∧ (Instr.lookup MT (.map (some b)) k true).run Tryz.prog w = .ok (.tuple #[z, .bool false]) w) := by
 obtain ⟨es, c, h1, rfl⟩ := hs
 rw [keys_of] at ht ⊢
 have hgo : (getObj b).run Tryz.prog w = .ok (.map es c) w := by simp [getObj, Sem.run, h1]
 rcases find_keyM hu hf hk es.toList ht with ⟨j, e, hj, g2, g3⟩ | ⟨hj, g2⟩
 ·refine .inl ⟨e.val, List.mem_map.2 ⟨e, List.mem_of_getElem? g2, by rw [g3]⟩, ?_⟩
  simp [Instr.lookup, run_underlying hm, hgo, hc, hj]
 ·refine .inr ⟨g2, ?_⟩
  simp [Instr.lookup, run_underlying hm, hgo, hc, hj, hz]
theorem update_map (hm : Tryz.prog.underlying MT = some (.map T E)) {fs : TypeDesc} (hu : Tryz.prog.underlying T = some fs) (hf : ∀ k q, Instr.sameNow fs (.agg k) q = none) {ks : Array Value} (hk : k = .agg ks) (hsb : Instr.sameBits 10000 k k = true)
  (hc : ∀ e, (Instr.checkKey e 10000 T k).run Tryz.prog w = .ok () w) (hs : PlMap w b L) (ht : Told T w k (L.map Prod.fst)) (v : Value) :
  ∃ w' L', (Instr.mapUpdate MT (.map (some b)) k v).run Tryz.prog w = .ok () w' ∧ PlMap w' b L' ∧ (∀ p ∈ L', p ∈ L ∨ p = (k, v)) ∧ (k, v) ∈ L' ∧ (∀ p ∈ L, p.1 ≠ k → p ∈ L') ∧ Kp (fun q => q = b) w w' ∧ w'.heap.size = w.heap.size := by
 obtain ⟨es, c, h1, rfl⟩ := hs
 rw [keys_of] at ht
 have hgo : (getObj b).run Tryz.prog w = .ok (.map es c) w := by simp [getObj, Sem.run, h1]
 have hse : ∀ o, (setObj b o).run Tryz.prog w = .ok () { w with heap := w.heap.setIfInBounds b o } := fun o => by simp [setObj, Sem.run, h1]
 have hlt := (Array.getElem?_eq_some_iff.1 h1).1
 have hkp : ∀ o, Kp (fun q => q = b) w { w with heap := w.heap.setIfInBounds b o } := fun o => ⟨rfl, rfl, rfl, by simp, fun q hq hs => by
  simp only
  rw [Array.getElem?_setIfInBounds_ne (Ne.symm hs)]⟩
 rcases find_keyM hu hf hk es.toList ht with ⟨j, e, hj, g2, g3⟩ | ⟨hj, g2⟩
 ·have hej : es[j]? = some e := by simpa using g2
  have hkt : (Instr.keyThatStays (((es[j]?).map (·.key)).getD k) k).run Tryz.prog w = .ok k w := by
   rw [hej]
   simp [Instr.keyThatStays, g3, hsb]
  have hmem : ∀ x, x ∈ (es.modify j fun e => { e with key := k, val := v }).toList ↔ ∃ i y, es[i]? = some y ∧ x = if j = i then { y with key := k, val := v } else y := fun x => by
   rw [Array.mem_toList_iff, Array.mem_iff_getElem?]
   constructor
   ·rintro ⟨i, hi⟩
    rw [Array.getElem?_modify] at hi
    split at hi
    ·rename_i hij
     subst hij
     rw [hej] at hi
     simp at hi
     exact ⟨j, e, hej, by rw [if_pos rfl]; exact hi.symm⟩
    ·rename_i hij
     exact ⟨i, x, hi, by rw [if_neg hij]⟩
   ·rintro ⟨i, y, hi, rfl⟩
    refine ⟨i, ?_⟩
    rw [Array.getElem?_modify]
    split
    ·rename_i hij
     rw [hi]; rfl
    ·exact hi
  refine ⟨{ w with heap := w.heap.setIfInBounds b (.map (es.modify j fun e => { e with key := k, val := v }) c) }, _, ?_, ⟨es.modify j fun e => { e with key := k, val := v }, c, ?_, rfl⟩, ?_, ?_, ?_, hkp _, by simp⟩
  ·simp [Instr.mapUpdate, run_underlying hm, hgo, hc, hj, hkt, hse]
  ·simp [hlt]
  ·intro p hp
   obtain ⟨x, hx, rfl⟩ := List.mem_map.1 hp
   obtain ⟨i, y, hi, rfl⟩ := (hmem x).1 hx
   split
   ·exact .inr rfl
   ·exact .inl (List.mem_map.2 ⟨y, by rw [Array.mem_toList_iff]; exact Array.mem_of_getElem? hi, rfl⟩)
  ·exact List.mem_map.2 ⟨{ e with key := k, val := v }, (hmem _).2 ⟨j, e, hej, by rw [if_pos rfl]⟩, rfl⟩
  ·intro p hp hne
   obtain ⟨x, hx, rfl⟩ := List.mem_map.1 hp
   rw [Array.mem_toList_iff, Array.mem_iff_getElem?] at hx
   obtain ⟨i, hi⟩ := hx
   refine List.mem_map.2 ⟨x, (hmem _).2 ⟨i, x, hi, ?_⟩, rfl⟩
   rw [if_neg]
   intro hij
   subst hij
   rw [hej] at hi
   obtain rfl : e = x := by simpa using hi
   exact hne g3
 ·refine ⟨{ w with heap := w.heap.setIfInBounds b (.map (es.push { key := k, val := v, born := c }) (c + 1)) }, _, ?_, ⟨es.push { key := k, val := v, born := c }, c + 1, ?_, rfl⟩, ?_, ?_, ?_, hkp _, by simp⟩
  ·simp [Instr.mapUpdate, run_underlying hm, hgo, hc, hj, hse]
  ·simp [hlt]
  ·intro p hp
   simp only [Array.toList_push, List.map_append, List.map_cons, List.map_nil, List.mem_append, List.mem_singleton] at hp
   exact hp
  ·simp
  ·intro p hp _
   simp only [Array.toList_push, List.map_append, List.mem_append]
   exact .inl hp
end
end Go.Proofs.YtfnjbbaphmmjlaaGreat
namespace Go.Proofs.YtfnjbbaphmmjlaaGreat
set_option linter.unusedVariables false
set_option linter.unusedSimpArgs false
def topT (b : Bool) (t : Tr) : Tr := if b then ⟨t.kind, t.n, t.s, t.es, []⟩ else t
def cutT (b : Bool) : Nat → Tr → Tr
 | 0, t => t
 | n + 1, t => ⟨t.kind, t.n, t.s, t.es.map fun e => (e.1, e.2.map (cutT b n)), if b then [] else t.rest⟩
theorem topT_kind (b : Bool) (t : Tr) : (topT b t).kind = t.kind := by cases b <;> rfl
theorem topT_n (b : Bool) (t : Tr) : (topT b t).n = t.n := by cases b <;> rfl
theorem topT_s (b : Bool) (t : Tr) : (topT b t).s = t.s := by cases b <;> rfl
theorem topT_es (b : Bool) (t : Tr) : (topT b t).es = t.es := by cases b <;> rfl
theorem topT_rest (b : Bool) (t : Tr) : (topT b t).rest = if b then [] else t.rest := by cases b <;> rfl
theorem topT_dp {b : Bool} {n : Nat} {t : Tr} (h : DpN n t) : DpN n (topT b t) := by
 cases n with
 | zero => exact h
 | succ n =>
  intro e he x hx
  rw [topT_es] at he
  exact h e he x hx
theorem topT_cnt (b : Bool) (n : Nat) (t : Tr) : cntN n (topT b t) = cntN n t := by
 cases n with
 | zero => rfl
 | succ n => simp only [cntN, topT_es]
theorem topT_sm {b : Bool} {n : Nat} {t : Tr} (h : SmN n t) : SmN n (topT b t) := by
 cases n with
 | zero => exact h
 | succ n =>
  cases b with
  | false => exact h
  | true => exact ⟨h.1, by simp [topT], h.2.2.1, (fun f hf => by simp [topT] at hf), h.2.2.2.2⟩
theorem cutT_top (b : Bool) (n : Nat) (t : Tr) (h : DpN n t) : cutT b n (topT b t) = cutT b n t := by
 cases n with
 | zero => exact h.elim
 | succ n => cases b <;> simp [cutT, topT]
theorem cutT_false : ∀ (n : Nat) (t : Tr), cutT false n t = t
 | 0, t => rfl
 | n + 1, t => by
  have h : (t.es.map fun e => (e.1, e.2.map (cutT false n))) = t.es := by
   conv => rhs; rw [← List.map_id t.es]
   refine List.map_congr_left fun e _ => ?_
   have : e.2.map (cutT false n) = e.2 := by
    conv => rhs; rw [← List.map_id e.2]
    exact List.map_congr_left fun x _ => cutT_false n x
   rw [this]; rfl
  rw [cutT, h]
  clear h
  cases t
  rfl
end Go.Proofs.YtfnjbbaphmmjlaaGreat
