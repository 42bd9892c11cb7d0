/- Part 22 of what the proof stands on. -/
import Derived.Test.YtmgbhicogmclgaaGreatPkWAU
import Derived.SizedLaws
import Derived.Deep.Slices
import Derived.Deep.Strs
import Derived.Lib.SmallJoins
import Derived.ChangeArms
namespace Go.Proofs.YtmgbhicogmclgaaGreat
set_option maxHeartbeats 8000000
set_option linter.unusedVariables false
set_option linter.unusedSimpArgs false
set_option maxRecDepth 20000
open Go.ChangeShapes Go.WideShapes Go.ChangeAt Go.RowKit
theorem schema_ap {w : World} {v : Value} {s : ScS} (hr : ScIn w v s) (hf : FewL s) :
  Calls Tryz.prog 10 #[v] w fun e w' => ∃ vm ve vt pm pe,e = .returned (.agg #[.string s.name,vm,ve,vt]) ∧ MsO w' w.heap.size vm s.msgs pm ∧ EnO w' w.heap.size ve s.enums pe ∧ w'.ownsRow w.heap.size 63 3 vt s.methods.length (mtRows s.methods).flatten ∧ Below w.heap.size w w' ∧ ApR pm ∧ ApE pe := by
 obtain ⟨vm0,ve0,vt0,rfl,hm,he,ht⟩ := hr;obtain ⟨am,cm,rfl,qm1,qm2⟩ := hm.form2;obtain ⟨ae,ce,rfl,qe1,qe2⟩ := he.form2;obtain ⟨at',ct,rfl,qt1,qt2⟩ := ht.form2
 have hT : (mtRows s.methods).length = s.methods.length := by simp [mtRows]
 rw [hT] at ht qt1 ⊢;clear hT;have HM : Hid (MsIn w (.slice am s.msgs.length cm) s.msgs) := hm;have HE : Hid (EnIn w (.slice ae s.enums.length ce) s.enums) := he;have HT : Hid (RowG w (.slice at' s.methods.length ct) 3 (mtRows s.methods)) := ht;have HF : Hid (FewL s) := hf;have h1 := hf.msgs;have h2 := hf.enums;have h3 := hf.meths;obtain ⟨nm,ms,es,ts⟩ := s;simp only at *;have HM : Hid (MsIn w (.slice am ms.length cm) ms) := HM;have HE : Hid (EnIn w (.slice ae es.length ce) es) := HE;have HT : Hid (RowG w (.slice at' ts.length ct) 3 (mtRows ts)) := HT;obtain ⟨M,hM⟩ : ∃ N,ms.length = N := ⟨_,rfl⟩;obtain ⟨E,hE⟩ : ∃ N,es.length = N := ⟨_,rfl⟩;obtain ⟨T,hT⟩ : ∃ N,ts.length = N := ⟨_,rfl⟩;rw [hM] at HM qm1 h1 ⊢;rw [hE] at HE qe1 h2 ⊢;rw [hT] at HT qt1 h3 ⊢;have HNM : Hid (ms.length = M) := hM;have HNE : Hid (es.length = E) := hE;have HNT : Hid (ts.length = T) := hT
 have HNR : Hid ((mtRows ts).length = T) := by show _ = _; simp [mtRows,hT]
 clear hM hE hT hf hm he ht
 go_enter Tryz.func10,Tryz.ntmps10
 go_wp2_with fail;refine M_region (T := fun W => W.cell? ⟨w.heap.size,0,none⟩ = some (.string nm) ∧ W.cell? ⟨w.heap.size,3,none⟩ = some (.slice at' T ct)) (m := 7) (by kernel_rfl) ?_;have HB0 : Hid (Below w.heap.size w ((w.alloc (.cells #[.string nm,.slice am M cm,.slice ae E ce,.slice at' T ct] 26)).alloc (.cells #[.string ⟨#[]⟩,.slice none 0 0,.slice none 0 0,.slice none 0 0] 26)).drew) := below_drewN 1 ((bra _).alloc (by simp) _);have HX0 : Hid (Blk ((w.alloc (.cells #[.string nm,.slice am M cm,.slice ae E ce,.slice at' T ct] 26)).alloc (.cells #[.string ⟨#[]⟩,.slice none 0 0,.slice none 0 0,.slice none 0 0] 26)).drew w.heap.size #[.string nm,.slice am M cm,.slice ae E ce,.slice at' T ct] 26) := (Blk.new w _ _).below (below_drewN 1 (bra _))
 have HR0 : Hid (Blk ((w.alloc (.cells #[.string nm,.slice am M cm,.slice ae E ce,.slice at' T ct] 26)).alloc (.cells #[.string ⟨#[]⟩,.slice none 0 0,.slice none 0 0,.slice none 0 0] 26)).drew (w.heap.size + 1) #[.string ⟨#[]⟩,.slice none 0 0,.slice none 0 0,.slice none 0 0] 26) := by
  have := Blk.new (w.alloc (.cells #[.string nm,.slice am M cm,.slice ae E ce,.slice at' T ct] 26)) #[.string ⟨#[]⟩,.slice none 0 0,.slice none 0 0,.slice none 0 0] 26;rw [show (w.alloc (.cells #[.string nm,.slice am M cm,.slice ae E ce,.slice at' T ct] 26)).heap.size = w.heap.size + 1 by simp] at this;exact this
 have HS0 : Hid (((w.alloc (.cells #[.string nm,.slice am M cm,.slice ae E ce,.slice at' T ct] 26)).alloc (.cells #[.string ⟨#[]⟩,.slice none 0 0,.slice none 0 0,.slice none 0 0] 26)).drew.heap.size = w.heap.size + 2) := by show _ = _; simp [World.drew]
 generalize ((w.alloc (.cells #[.string nm,.slice am M cm,.slice ae E ce,.slice at' T ct] 26)).alloc (.cells #[.string ⟨#[]⟩,.slice none 0 0,.slice none 0 0,.slice none 0 0] 26)).drew = W0 at *;have hT : W0.cell? ⟨w.heap.size,0,none⟩ = some (.string nm) ∧ W0.cell? ⟨w.heap.size,3,none⟩ = some (.slice at' T ct) := ⟨HX0.out.cell 0,HX0.out.cell 3⟩;obtain ⟨b0,hb0⟩ : ∃ n,w.heap.size = n := ⟨_,rfl⟩;rw [hb0] at HX0 HR0 HS0 hT ⊢;have HBZ : Hid (w.heap.size = b0) := hb0;clear hb0;refine M_tk 0 7 (.pointer (some ⟨b0,0,none⟩)) (fun w' hw' => ?_) hT (bts 8 1) ?_
 ·obtain ⟨g0,g3⟩ := hw'; go_simp
 refine M_tk 2 9 (.pointer (some ⟨b0,3,none⟩)) (fun w' hw' => ?_) hT (bts 8 5) ?_
 ·obtain ⟨g0,g3⟩ := hw'; go_simp
 refine M_tk 1 8 (.string nm) (fun w' hw' => ?_) hT (bts 8 7) ?_
 ·obtain ⟨g0,g3⟩ := hw'; go_simp
 refine M_tk 3 10 (.slice at' T ct) (fun w' hw' => ?_) hT (bts 8 15) ?_
 ·obtain ⟨g0,g3⟩ := hw'; go_simp
 have HAPP : Hid (∀ W : World,Below W0.heap.size W0 W → ∃ u W1,(Builtin.append_ #[24,24] 24 #[.slice none 0 0,.slice at' T ct]).run Tryz.prog W = .ok u W1 ∧ (∃ a c,u = .slice a T c) ∧ W1.ownsRow (b0 + 2) 63 3 u T (mtRows ts).flatten ∧ Below W.heap.size W W1) := fun W hW => by
  obtain ⟨u,W1,r1,r2,r3⟩ := run_joinG (w := W) 24 24 63 3 48 _ Tryz.underlying24 infoMt rfl (by decide) (b0 + 2) (.slice none 0 0) 0 [] (World.ownsRow_nil _ _ _ _) (.slice at' T ct) (mtRows ts) (HT.out.below (HB0.out.trans (hW.mono HB0.out.size))) (mtr_len ts) (mtr_one ts) (by have := HNR.out; omega) (by decide) (by have := hW.size; have := HS0.out; omega);rw [List.nil_append,HNR.out,Nat.zero_add] at r2;exact ⟨u,W1,r1,own_form r2,r2,(Below.refl _ _).grown r3 (Nat.le_refl _) (fun k hk => by cases hk)⟩
 have hTb : ∀ W,Below W0.heap.size W0 W → W.cell? ⟨b0,0,none⟩ = some (.string nm) ∧ W.cell? ⟨b0,3,none⟩ = some (.slice at' T ct) := fun W hW => ⟨(HX0.out.below hW).cell 0,(HX0.out.below hW).cell 3⟩
 have hAl : ∀ W : World,Below W.heap.size W (W.alloc (.cells #[.string ⟨#[]⟩,.slice none 0 0,.slice none 0 0,.slice none 0 0] 26)) := fun W => bra _
 refine M_aa 4 6 5 11 3 12 (fun W => .pointer (some ⟨W.heap.size,0,none⟩)) (fun W => W.alloc (.cells #[.string ⟨#[]⟩,.slice none 0 0,.slice none 0 0,.slice none 0 0] 26)) (fun u => .agg #[.string nm,.slice none 0 0,.slice none 0 0,u]) (fun u => ∃ a c,u = .slice a T c)
  (fun u p W => ∃ bt,p = .pointer (some ⟨bt,0,none⟩) ∧ b0 + 2 ≤ bt ∧ Blk W bt #[.string ⟨#[]⟩,.slice none 0 0,.slice none 0 0,.slice none 0 0] 26 ∧ W.ownsRow (b0 + 2) 63 3 u T (mtRows ts).flatten ∧ Below W0.heap.size W0 W)
  rfl rfl rfl rfl rfl rfl (by decide) (by decide) (by decide) (by decide) (by kernel_rfl) (by kernel_rfl) (by kernel_rfl) (by kernel_rfl) (by kernel_rfl) (fun _ => rfl) (fun _ => rfl) (fun _ => rfl) (by kernel_rfl) (by kernel_rfl) (by kernel_rfl) (by kernel_rfl) (fun _ _ _ _ h => h) ?x2 ?hA ?hB ?xk ?xk' ?_
 case x2 => intro a' W'; go_simp
 case hA =>
  obtain ⟨u,W1,r1,r2,r3,r4⟩ := HAPP.out W0 (Below.refl _ _);have r5 : Below W0.heap.size W0 (W1.alloc (.cells #[.string ⟨#[]⟩,.slice none 0 0,.slice none 0 0,.slice none 0 0] 26)) := r4.trans ((hAl W1).mono r4.size);exact ⟨u,W1,append_run rfl rfl rfl r1,r2,hTb W1 r4,hTb _ r5,W1.heap.size,rfl,by have := r4.size; have := HS0.out; omega,Blk.new W1 _ _,own_below r3 (hAl W1),r5⟩
 case hB =>
  refine ⟨hTb _ (hAl W0),?_⟩;obtain ⟨u,W1,r1,r2,r3,r4⟩ := HAPP.out _ (hAl W0);have r5 : Below W0.heap.size W0 W1 := (hAl W0).trans (r4.mono (hAl W0).size);exact ⟨u,W1,append_run rfl rfl rfl r1,r2,hTb W1 r5,W0.heap.size,rfl,by have := HS0.out; omega,(Blk.new W0 _ _).below r4,r3,r5⟩
 case xk => rintro u W' ⟨a,c,rfl⟩; go_simp
 case xk' => rintro u v W' ⟨a,c,rfl⟩; go_simp
 rintro u p W1 ⟨ua,uc,rfl⟩ _ ⟨bt,rfl,hbt,BT,ho,hbel⟩;simp only [zsA,zsZ,zsS];have HO : Hid (W1.ownsRow (b0 + 2) 63 3 (.slice ua T uc) T (mtRows ts).flatten) := ho;have HX1 := HX0.out.below hbel;have HR1 := HR0.out.below hbel;have hbw : Below w.heap.size w W1 := HB0.out.trans (hbel.mono HB0.out.size);obtain ⟨t0,t1,t2,t3⟩ := cl4 BT;have z0 := BT.froz 0;have z1 := BT.froz 1;have z2 := BT.froz 2;have z3 := BT.froz 3;refine M_st 7 ((((W1.setCell ⟨bt,0,none⟩ (.string nm)).setCell ⟨bt,1,none⟩ (.slice none 0 0)).setCell ⟨bt,2,none⟩ (.slice none 0 0)).setCell ⟨bt,3,none⟩ (.slice ua T uc)) (bts 8 255) rfl (by go_simp) ?_;refine M_done (by kernel_rfl) ?_ _
 have KS : Kp (fun k => k = bt) W1 ((((W1.setCell ⟨bt,0,none⟩ (.string nm)).setCell ⟨bt,1,none⟩ (.slice none 0 0)).setCell ⟨bt,2,none⟩ (.slice none 0 0)).setCell ⟨bt,3,none⟩ (.slice ua T uc)) := by
  refine Kp.setCell ?_ (fun _ => by simp) _;refine Kp.setCell ?_ (fun _ => by simp) _;refine Kp.setCell ?_ (fun _ => by simp) _;refine Kp.setCell ?_ (fun _ => by simp) _;exact Kp.refl _ _
 have BA : Blk (W1.setCell ⟨bt,0,none⟩ (.string nm)) bt #[.string nm,.slice none 0 0,.slice none 0 0,.slice none 0 0] 26 := BT.set 0 (.string nm) rfl;have BB : Blk ((W1.setCell ⟨bt,0,none⟩ (.string nm)).setCell ⟨bt,1,none⟩ (.slice none 0 0)) bt #[.string nm,.slice none 0 0,.slice none 0 0,.slice none 0 0] 26 := BA.set 1 (.slice none 0 0) rfl;have BC : Blk (((W1.setCell ⟨bt,0,none⟩ (.string nm)).setCell ⟨bt,1,none⟩ (.slice none 0 0)).setCell ⟨bt,2,none⟩ (.slice none 0 0)) bt #[.string nm,.slice none 0 0,.slice none 0 0,.slice none 0 0] 26 := BB.set 2 (.slice none 0 0) rfl;have BT2 : Blk ((((W1.setCell ⟨bt,0,none⟩ (.string nm)).setCell ⟨bt,1,none⟩ (.slice none 0 0)).setCell ⟨bt,2,none⟩ (.slice none 0 0)).setCell ⟨bt,3,none⟩ (.slice ua T uc)) bt #[.string nm,.slice none 0 0,.slice none 0 0,.slice ua T uc] 26 := BC.set 3 (.slice ua T uc) rfl;clear BA BB BC;have HO2 : Hid (((((W1.setCell ⟨bt,0,none⟩ (.string nm)).setCell ⟨bt,1,none⟩ (.slice none 0 0)).setCell ⟨bt,2,none⟩ (.slice none 0 0)).setCell ⟨bt,3,none⟩ (.slice ua T uc)).ownsRow (b0 + 2) 63 3 (.slice ua T uc) T (mtRows ts).flatten) := own_blk HO.out BT (by decide) KS;have BX2 := HX1.kp KS (by omega);have BR2 := HR1.kp KS (by omega);have hb2 : Below w.heap.size w ((((W1.setCell ⟨bt,0,none⟩ (.string nm)).setCell ⟨bt,1,none⟩ (.slice none 0 0)).setCell ⟨bt,2,none⟩ (.slice none 0 0)).setCell ⟨bt,3,none⟩ (.slice ua T uc)) := hbw.trans (KS.toBelow hbw.size (fun k e => by have := HBZ.out; omega));generalize ((((W1.setCell ⟨bt,0,none⟩ (.string nm)).setCell ⟨bt,1,none⟩ (.slice none 0 0)).setCell ⟨bt,2,none⟩ (.slice none 0 0)).setCell ⟨bt,3,none⟩ (.slice ua T uc)) = W2 at *;have hbt2 : bt < W2.heap.size := BT2.lt;clear t0 t1 t2 t3 z0 z1 z2 z3 KS HO HX1 HR1 hbw BT ho hbel hT hTb HAPP HB0 HX0 HR0 HS0 hAl;have HMS0 : Hid (MsO W2 (bt + 1) (.slice none 0 0) (ms.take 0) []) := MsO.nil W2 (bt + 1);go_wp2_with fail
 go_loopw [4] (fun iv wr => ∃ (k : Nat) (va : Option Addr) (vc : Nat) (pm : List (Value × Value)),iv = .int .i64 (k : Int) ∧ k ≤ M ∧ Hid (MsO wr (bt + 1) (.slice va k vc) (ms.take k) pm) ∧ Hid (ApR pm) ∧ Blk wr bt #[.string nm,.slice va k vc,.slice none 0 0,.slice ua T uc] 26 ∧ Hid (wr.ownsRow (b0 + 2) 63 3 (.slice ua T uc) T (mtRows ts).flatten) ∧ Blk wr b0 #[.string nm,.slice am M cm,.slice ae E ce,.slice at' T ct] 26 ∧ Blk wr (b0 + 1) #[.string ⟨#[]⟩,.slice none 0 0,.slice none 0 0,.slice none 0 0] 26 ∧ Below w.heap.size w wr) (fun iv _ => M - (intOf iv).toNat)
 case atStart => exact ⟨0,none,0,[],rfl,by omega,HMS0,ApR.nil,BT2,HO2,BX2,BR2,hb2⟩
 case round =>
  obtain ⟨k,va,vc,pm,rfl,hk,HMS,HAR,BT,HO,BX,BR,hbel⟩ := hrel;clear HMS0 BT2 HO2 BX2 BR2 hb2 hbt2;have hbtw : bt < wr.heap.size := BT.lt;have x1 : wr.cell? ⟨b0,1,none⟩ = some (.slice am M cm) := BX.cell 1
  by_cases hlt : k < M
  ·obtain ⟨m,hm⟩ : ∃ n,ms[k]? = some n := ⟨_,List.getElem?_eq_getElem (by rw [HNM.out]; exact hlt)⟩;obtain ⟨g,off,vf,vr,rfl,c0,c1,c2,hrf,hrr⟩ := (HM.out.below hbel).get hm;have HFf : Hid (RowG wr vf 5 (flRows m.fields)) := hrf;have HRr : Hid (RowG wr vr 1 (inRows m.reserved)) := hrr;obtain ⟨a3,c3,rfl,_,_⟩ := hrf.form2;obtain ⟨a4,c4,rfl,_,_⟩ := hrr.form2;have HFl : Hid (m.fields.length ≤ 20 ∧ m.reserved.length ≤ 40) := HF.out.flds m (List.mem_of_getElem? hm);have HTK : Hid (ms.take (k + 1) = ms.take k ++ [m]) := take_at hm
   have HLK : Hid ((ms.take k).length = k) := by show _ = _; rw [List.length_take,HNM.out]; omega
   obtain ⟨m0,mf,mr⟩ := m;simp only at c0 c1 c2 HFl HTK;have HFf : Hid (RowG wr (.slice a3 (flRows mf).length c3) 5 (flRows mf)) := HFf;have HRr : Hid (RowG wr (.slice a4 (inRows mr).length c4) 1 (inRows mr)) := HRr;generalize hnF : (flRows mf).length = nF at *;generalize hnR : (inRows mr).length = nR at *;clear hrf hrr hm hnF hnR
   have HLF : Hid ((flRows mf).length = mf.length) := by show _ = _; simp [flRows]
   go_wp2_with fail;clear c0 c1 c2 x1;refine M_region (T := fun W => W.cell? ⟨bt,1,none⟩ = some (.slice va k vc) ∧ W.cell? ⟨wr.heap.size,0,none⟩ = some (.string m0) ∧ W.cell? ⟨wr.heap.size,1,none⟩ = some (.slice a3 nF c3) ∧ W.cell? ⟨wr.heap.size,2,none⟩ = some (.slice a4 nR c4)) (m := 14) (by kernel_rfl) ?_;have hb0 : Below wr.heap.size wr (wr.alloc (.cells #[.string m0,.slice a3 nF c3,.slice a4 nR c4] 52)).drew := below_drewN 1 (bra _);have BM0 : Blk (wr.alloc (.cells #[.string m0,.slice a3 nF c3,.slice a4 nR c4] 52)).drew wr.heap.size #[.string m0,.slice a3 nF c3,.slice a4 nR c4] 52 := Blk.new wr #[.string m0,.slice a3 nF c3,.slice a4 nR c4] 52;generalize (wr.alloc (.cells #[.string m0,.slice a3 nF c3,.slice a4 nR c4] 52)).drew = W0 at *;have BT0 := BT.below hb0;have BX0 := BX.below hb0;have BR0 := BR.below hb0;have HMS0 : Hid (MsO W0 (bt + 1) (.slice va k vc) (ms.take k) pm) := HMS.out.below hb0;have HO0 : Hid (W0.ownsRow (b0 + 2) 63 3 (.slice ua T uc) T (mtRows ts).flatten) := own_below HO.out hb0;have HF0 : Hid (RowG W0 (.slice a3 nF c3) 5 (flRows mf)) := HFf.out.below hb0;have HR0 : Hid (RowG W0 (.slice a4 nR c4) 1 (inRows mr)) := HRr.out.below hb0;have hbel0 : Below w.heap.size w W0 := hbel.trans (hb0.mono hbel.size);have HOB : Hid (∀ q,(Value.slice va k vc).ownBlock = some q → q < wr.heap.size) := fun q hq => (HMS.out.own.lt q hq).2
   obtain ⟨bm,hbm⟩ : ∃ n,wr.heap.size = n := ⟨_,rfl⟩;rw [hbm] at BM0 hbtw HOB ⊢;clear hbm BT BX BR HMS HO HFf HRr hb0 hbel;have hTW : ∀ W,Below W0.heap.size W0 W → W.cell? ⟨bt,1,none⟩ = some (.slice va k vc) ∧ W.cell? ⟨bm,0,none⟩ = some (.string m0) ∧ W.cell? ⟨bm,1,none⟩ = some (.slice a3 nF c3) ∧ W.cell? ⟨bm,2,none⟩ = some (.slice a4 nR c4) := fun W hW => ⟨(BT0.below hW).cell 1,(BM0.below hW).cell 0,(BM0.below hW).cell 1,(BM0.below hW).cell 2⟩
   have hT := hTW W0 (Below.refl _ _);refine M_tk 0 25 (.pointer (some ⟨bt,1,none⟩)) (fun w' hw' => ?_) hT (bts 15 1) ?_
   ·obtain ⟨g0,g1,g2,g3⟩ := hw'; go_simp
   refine M_tk 2 27 (.pointer (some ⟨bm,0,none⟩)) (fun w' hw' => ?_) hT (bts 15 5) ?_
   ·obtain ⟨g0,g1,g2,g3⟩ := hw'; go_simp
   refine M_tk 4 29 (.pointer (some ⟨bm,1,none⟩)) (fun w' hw' => ?_) hT (bts 15 21) ?_
   ·obtain ⟨g0,g1,g2,g3⟩ := hw'; go_simp
   refine M_tk 7 32 (.pointer (some ⟨bm,2,none⟩)) (fun w' hw' => ?_) hT (bts 15 149) ?_
   ·obtain ⟨g0,g1,g2,g3⟩ := hw'; go_simp
   refine M_tk 1 26 (.slice va k vc) (fun w' hw' => ?_) hT (bts 15 151) ?_
   ·obtain ⟨g0,g1,g2,g3⟩ := hw'; go_simp
   refine M_tk 3 28 (.string m0) (fun w' hw' => ?_) hT (bts 15 159) ?_
   ·obtain ⟨g0,g1,g2,g3⟩ := hw'; go_simp
   refine M_tk 5 30 (.slice a3 nF c3) (fun w' hw' => ?_) hT (bts 15 191) ?_
   ·obtain ⟨g0,g1,g2,g3⟩ := hw'; go_simp
   refine M_tk 8 33 (.slice a4 nR c4) (fun w' hw' => ?_) hT (bts 15 447) ?_
   ·obtain ⟨g0,g1,g2,g3⟩ := hw'; go_simp
   obtain ⟨vf,W1,r1,r2,r3⟩ := run_joinG (w := W0) 49 49 56 5 56 _ Tryz.underlying49 infoFl rfl (by decide) W0.heap.size (.slice none 0 0) 0 [] (World.ownsRow_nil _ _ _ _) (.slice a3 nF c3) (flRows mf) HF0.out (flr_len mf) (flr_one mf) (by have := HLF.out; have := HFl.out; omega) (by decide) (Nat.le_refl _);rw [List.nil_append,HLF.out,Nat.zero_add] at r2;have hb1 : Below W0.heap.size W0 W1 := (Below.refl _ _).grown r3 (Nat.le_refl _) (fun k hk => by cases hk);obtain ⟨fa,fc,rfl⟩ := own_form r2;have HO1 : Hid (W1.ownsRow W0.heap.size 56 5 (.slice fa mf.length fc) mf.length (flRows mf).flatten) := r2;have HRUN : Hid _ := r1;clear r1 r2 r3;refine M_rn 6 31 (.slice fa mf.length fc) (W1) (bts 15 511) rfl (append_run rfl rfl rfl HRUN.out) (hTW W1 hb1) ?_;simp only [zsA,zsZ,zsS];clear HRUN;refine M_cl 9 34 24 #[.slice a4 nR c4] (bts 15 1023) rfl (fun W => by go_simp) ?_;refine (ints_any (HR0.out.below hb1) (by have := HFl.out; omega)).mono ?_;rintro e W2 ⟨vr,rfl,ho2,hb2⟩;have hb02 : Below W0.heap.size W0 W2 := hb1.trans (hb2.mono hb1.size);have hT := hTW W2 hb02;obtain ⟨ra,rc,hrv⟩ := own_form ho2;subst hrv;refine ⟨_,rfl,hT,?_⟩;simp only [zsA,zsZ,zsS];have HO2 : Hid (W2.ownsRow W0.heap.size 3 1 (.slice ra mr.length rc) mr.length (inRows mr).flatten) := own_base ho2 hb1.size;have HAR5 : Hid (ApR (pm ++ [(.slice fa mf.length fc,.slice ra mr.length rc)])) := HAR.out.snoc HMS0.out.highR (fun k hk => (HO2.out.lt k hk).1);have HO1 : Hid (W2.ownsRow W0.heap.size 56 5 (.slice fa mf.length fc) mf.length (flRows mf).flatten) := own_below HO1.out hb2;clear ho2 hb2 hb1;refine M_tk 10 35 (.agg #[.string m0,.slice fa mf.length fc,.slice ra mr.length rc]) (fun w' hw' => ?_) hT (bts 15 2047) ?_
   ·obtain ⟨g0,g1,g2,g3⟩ := hw'; go_simp
   have hal : Below W2.heap.size W2 (W2.alloc (.cells #[.string m0,.slice fa mf.length fc,.slice ra mr.length rc] 52)) := bra _;have hb03 : Below W0.heap.size W0 (W2.alloc (.cells #[.string m0,.slice fa mf.length fc,.slice ra mr.length rc] 52)) := hb02.trans (hal.mono hb02.size);have BE := Blk.new W2 #[.string m0,.slice fa mf.length fc,.slice ra mr.length rc] 52;have HO1 : Hid ((W2.alloc (.cells #[.string m0,.slice fa mf.length fc,.slice ra mr.length rc] 52)).ownsRow W0.heap.size 56 5 (.slice fa mf.length fc) mf.length (flRows mf).flatten) := own_below HO1.out hal;have HO2 : Hid ((W2.alloc (.cells #[.string m0,.slice fa mf.length fc,.slice ra mr.length rc] 52)).ownsRow W0.heap.size 3 1 (.slice ra mr.length rc) mr.length (inRows mr).flatten) := own_below HO2.out hal;obtain ⟨bz,hbz⟩ : ∃ n,W2.heap.size = n := ⟨_,rfl⟩;refine M_rn 11 36 (.slice (some ⟨W2.heap.size,0,none⟩) 1 1) (W2.alloc (.cells #[.string m0,.slice fa mf.length fc,.slice ra mr.length rc] 52)) (bts 15 4095) rfl (by go_simp) (hTW _ hb03) ?_;simp only [zsA,zsZ,zsS];rw [hbz] at BE ⊢;generalize (W2.alloc (.cells #[.string m0,.slice fa mf.length fc,.slice ra mr.length rc] 52)) = W3 at *;clear hbz hal hb02;have HMS3 : Hid (MsO W3 (bt + 1) (.slice va k vc) (ms.take k) pm) := HMS0.out.below hb03;obtain ⟨i0,hi0,hz0,hz1,hz2⟩ := info_parts infoMs;have hown := HMS3.out.own;rw [HLK.out] at hown
   obtain ⟨v',W4,r1,r2,r3,_⟩ := run_append_own W3 (bt + 1) 22 22 52 i0 _ 3 64 Tryz.underlying22 hi0 hz0 hz1 hz2 rfl (by decide) (.slice va k vc) k _ hown ⟨bz,0,none⟩ 1 1 [.string m0,.slice fa mf.length fc,.slice ra mr.length rc] rfl (fun j u hu => by
    have := BE.cell j;rw [Addr.add_lit,Nat.zero_add,this]
    simpa using hu) (fun u hu => by
    simp only [List.mem_cons,List.not_mem_nil,or_false] at hu
    rcases hu with rfl | rfl | rfl <;> rfl) (by unfold maxLen; omega) (by omega) (by have := hb03.size; have := BT0.lt; omega)
   have HRUN : Hid _ := r1;have KA : Kp (fun q => (Value.slice va k vc).ownBlock = some q) W3 W4 := (Kp.refl _ _).grown r3 (fun q hq _ => hq)
   have HMS4 : Hid (MsO W4 (bt + 1) v' (ms.take (k + 1)) (pm ++ [(.slice fa mf.length fc,.slice ra mr.length rc)])) := by
    show MsO _ _ _ _ _
    rw [HTK.out];refine MsO.snoc (m := ⟨m0,mf,mr⟩) HMS3.out HMS0.out.high (by have := BT0.lt; omega) HO1.out HO2.out ?_ KA;rw [HLK.out]; exact r2
   obtain ⟨na,nc,hv'⟩ := own_form r2;subst hv';have HMS4 : Hid (MsO W4 (bt + 1) (.slice na (k + 1) nc) (ms.take (k + 1)) (pm ++ [(.slice fa mf.length fc,.slice ra mr.length rc)])) := HMS4;have hnob : ∀ b cs t,Blk W3 b cs t → t ≠ 52 → ¬ (Value.slice va k vc).ownBlock = some b := fun b cs t hb ht hq => ht (own_type hown hq hb).symm
   have BT4 := (BT0.below hb03).kp KA (hnob _ _ _ (BT0.below hb03) (by decide));have BX4 := (BX0.below hb03).kp KA (hnob _ _ _ (BX0.below hb03) (by decide));have BR4 := (BR0.below hb03).kp KA (hnob _ _ _ (BR0.below hb03) (by decide));have BMb := BM0.below hb03;have HO4 : Hid (W4.ownsRow (b0 + 2) 63 3 (.slice ua T uc) T (mtRows ts).flatten) := own_kpV (own_below HO0.out hb03) KA (fun q hv hq => own_apart hown (own_below HO0.out hb03) (by decide) q hq hv);have hb4 : Below w.heap.size w W4 := (hbel0.trans (hb03.mono hbel0.size)).grown r3 (by have := hb03.size; have := hbel0.size; omega) (fun q hq => by have := (hown.lt q hq).1; have := HBZ.out; omega)
   have hTm : W4.cell? ⟨bt,1,none⟩ = some (.slice va k vc) ∧ W4.cell? ⟨bm,0,none⟩ = some (.string m0) ∧ W4.cell? ⟨bm,1,none⟩ = some (.slice a3 nF c3) ∧ W4.cell? ⟨bm,2,none⟩ = some (.slice a4 nR c4) := by
    have hq : ¬ (Value.slice va k vc).ownBlock = some bm := fun hq => by
     have := HOB.out bm hq
     omega
    exact ⟨BT4.cell 1,(BMb.kp KA hq).cell 0,(BMb.kp KA hq).cell 1,(BMb.kp KA hq).cell 2⟩
   clear r1 r2 r3 hown;refine M_rn 12 37 (.slice na (k + 1) nc) (W4) (bts 15 8191) rfl (append_run rfl rfl rfl HRUN.out) hTm ?_;simp only [zsA,zsZ,zsS];clear HRUN;have hT := hTm;refine M_tk 13 38 (.pointer (some ⟨bt,1,none⟩)) (fun w' hw' => ?_) hT (bts 15 16383) ?_
   ·obtain ⟨g0,g1,g2,g3⟩ := hw'; go_simp
   have y1 := (BT4.cell 1).trans rfl;have z1 := BT4.froz 1;refine M_st 14 (W4.setCell ⟨bt,1,none⟩ (.slice na (k + 1) nc)) (bts 15 32767) rfl (by go_simp) ?_;refine M_done (by kernel_rfl) ?_ _
   have KS : Kp (fun q => q = bt) W4 (W4.setCell ⟨bt,1,none⟩ (.slice na (k + 1) nc)) := by
    refine Kp.setCell ?_ (fun _ => by simp) _;exact Kp.refl _ _
   have BT5 : Blk (W4.setCell ⟨bt,1,none⟩ (.slice na (k + 1) nc)) bt #[.string nm,.slice na (k + 1) nc,.slice none 0 0,.slice ua T uc] 26 := BT4.set 1 _ rfl;have BX5 := BX4.kp KS (by omega);have BR5 := BR4.kp KS (by omega);have HMS5 : Hid (MsO (W4.setCell ⟨bt,1,none⟩ (.slice na (k + 1) nc)) (bt + 1) (.slice na (k + 1) nc) (ms.take (k + 1)) (pm ++ [(.slice fa mf.length fc,.slice ra mr.length rc)])) := HMS4.out.kp KS (fun q h1 h2 => by omega);have HO5 : Hid ((W4.setCell ⟨bt,1,none⟩ (.slice na (k + 1) nc)).ownsRow (b0 + 2) 63 3 (.slice ua T uc) T (mtRows ts).flatten) := own_blk HO4.out BT4 (by decide) KS;have hb5 : Below w.heap.size w (W4.setCell ⟨bt,1,none⟩ (.slice na (k + 1) nc)) := hb4.trans (KS.toBelow hb4.size (fun q e => by have := HBZ.out; omega));generalize (W4.setCell ⟨bt,1,none⟩ (.slice na (k + 1) nc)) = W5 at *;clear y1 z1 KS BT4 BX4 BR4 HMS4 HO4 hb4 hT hTm hTW BM0 BT0 BX0 BR0 HMS0 HO0 HF0 HR0 hbel0 HMS3 KA BE hb03 HO1 HO2 hnob BMb;go_wp2_with fail
   go_roundw
   case rel => exact ⟨k + 1,_,_,_,by go_num,by omega,HMS5,HAR5,BT5,HO5,BX5,BR5,hb5⟩
   case measure => simp [intOf]; omega
  ·obtain rfl : k = M := by omega
   have HMS0 : Hid (MsO wr (bt + 1) (.slice va k vc) ms pm) := by
    have := HMS.out;rw [List.take_of_length_le (by rw [HNM.out]; omega)] at this;exact this
   have HES0 : Hid (EnO wr (bt + 1) (.slice none 0 0) (es.take 0) []) := EnO.nil wr (bt + 1);clear HMS;go_wp2_with fail;clear x1
   go_loopw [6] (fun iv wr => ∃ (i : Nat) (na : Option Addr) (nc : Nat) (pe : List Value),iv = .int .i64 (i : Int) ∧ i ≤ E ∧ Hid (EnO wr (bt + 1) (.slice na i nc) (es.take i) pe) ∧ Hid (ApE pe) ∧ Hid (MsO wr (bt + 1) (.slice va k vc) ms pm) ∧ Blk wr bt #[.string nm,.slice va k vc,.slice na i nc,.slice ua T uc] 26 ∧ Hid (wr.ownsRow (b0 + 2) 63 3 (.slice ua T uc) T (mtRows ts).flatten) ∧ Blk wr b0 #[.string nm,.slice am k cm,.slice ae E ce,.slice at' T ct] 26 ∧ Blk wr (b0 + 1) #[.string ⟨#[]⟩,.slice none 0 0,.slice none 0 0,.slice none 0 0] 26 ∧ Below w.heap.size w wr) (fun iv _ => E - (intOf iv).toNat)
   case atStart => exact ⟨0,none,0,[],rfl,by omega,HES0,ApE.nil,HMS0,BT,HO,BX,BR,hbel⟩
   case round =>
    obtain ⟨i,na,nc,pe,rfl,hi,HES,HAE,HMS,BT,HO,BX,BR,hbel⟩ := hrel;clear HES0 HMS0;have hbtw : bt < wr.heap.size := BT.lt;have x2 : wr.cell? ⟨b0,2,none⟩ = some (.slice ae E ce) := BX.cell 2
    by_cases hlt : i < E
    ·obtain ⟨m,hm⟩ : ∃ n,es[i]? = some n := ⟨_,List.getElem?_eq_getElem (by rw [HNE.out]; exact hlt)⟩;obtain ⟨g,off,vv,rfl,c0,c1,hrf⟩ := (HE.out).get hm;have HFf : Hid (RowG w vv 2 (nmRows m.values)) := hrf;obtain ⟨a3,c3,rfl,_,_⟩ := hrf.form2;have HFl : Hid (m.values.length ≤ 24) := HF.out.vals m (List.mem_of_getElem? hm);have HTK : Hid (es.take (i + 1) = es.take i ++ [m]) := take_at hm
     have HLK : Hid ((es.take i).length = i) := by show _ = _; rw [List.length_take,HNE.out]; omega
     obtain ⟨m0,mf⟩ := m;simp only at c0 c1 HFl HTK;have HFf : Hid (RowG w (.slice a3 (nmRows mf).length c3) 2 (nmRows mf)) := HFf;generalize hnF : (nmRows mf).length = nF at *;clear hrf hm hnF
     have HLF : Hid ((nmRows mf).length = mf.length) := by show _ = _; simp [nmRows]
     have hgb : g < b0 := by have h9 : g < w.heap.size := World.block_lt_of_cell? _ _ c0; have := HBZ.out; omega
     have C0 : Hid (w.cell? ⟨g,off + i * 2,none⟩ = some (.string m0)) := c0;have C1 : Hid (w.cell? ⟨g,off + i * 2 + 1,none⟩ = some (.slice a3 nF c3)) := c1;clear c0 c1;go_wp2_with fail;clear x2;refine M_region (T := fun W => W.cell? ⟨bt,2,none⟩ = some (.slice na i nc) ∧ W.cell? ⟨b0,2,none⟩ = some (.slice (some ⟨g,off,none⟩) E ce) ∧ W.cell? ⟨g,off + i * 2,none⟩ = some (.string m0) ∧ W.cell? ⟨g,off + i * 2 + 1,none⟩ = some (.slice a3 nF c3)) (m := 19) (by kernel_rfl) ?_;have hb0 : Below wr.heap.size wr wr.drew := below_drewN 1 (Below.refl _ _);generalize wr.drew = W0 at *;have BT0 := BT.below hb0;have BX0 := BX.below hb0;have BR0 := BR.below hb0;have HES0 : Hid (EnO W0 (bt + 1) (.slice na i nc) (es.take i) pe) := HES.out.below hb0;have HMS0 : Hid (MsO W0 (bt + 1) (.slice va k vc) ms pm) := HMS.out.below hb0;have HO0 : Hid (W0.ownsRow (b0 + 2) 63 3 (.slice ua T uc) T (mtRows ts).flatten) := own_below HO.out hb0;have hbel0 : Below w.heap.size w W0 := hbel.trans (hb0.mono hbel.size);have hbtw : bt < W0.heap.size := BT0.lt;clear BT BX BR HES HMS HO hb0 hbel
     have hTW : ∀ W,Below W0.heap.size W0 W → W.cell? ⟨bt,2,none⟩ = some (.slice na i nc) ∧ W.cell? ⟨b0,2,none⟩ = some (.slice (some ⟨g,off,none⟩) E ce) ∧ W.cell? ⟨g,off + i * 2,none⟩ = some (.string m0) ∧ W.cell? ⟨g,off + i * 2 + 1,none⟩ = some (.slice a3 nF c3) := fun W hW => by
      have hwW : Below w.heap.size w W := hbel0.trans (hW.mono hbel0.size);exact ⟨(BT0.below hW).cell 2,(BX0.below hW).cell 2,(hwW.cell (World.block_lt_of_cell? _ _ C0.out)).trans C0.out,(hwW.cell (World.block_lt_of_cell? _ _ C1.out)).trans C1.out⟩
     have hT := hTW W0 (Below.refl _ _);refine M_tk 0 46 (.pointer (some ⟨bt,2,none⟩)) (fun w' hw' => ?_) hT (bts 20 1) ?_
     ·obtain ⟨g0,g1,g2,g3⟩ := hw'; go_simp
     refine M_tk 2 48 (.pointer (some ⟨b0,2,none⟩)) (fun w' hw' => ?_) hT (bts 20 5) ?_
     ·obtain ⟨g0,g1,g2,g3⟩ := hw'; go_simp
     refine M_tk 4 50 (.int .i64 (i : Int)) (fun w' hw' => ?_) hT (bts 20 21) ?_
     ·obtain ⟨g0,g1,g2,g3⟩ := hw'; go_simp
     refine M_tk 8 54 (.pointer (some ⟨b0,2,none⟩)) (fun w' hw' => ?_) hT (bts 20 277) ?_
     ·obtain ⟨g0,g1,g2,g3⟩ := hw'; go_simp
     refine M_tk 10 56 (.int .i64 (i : Int)) (fun w' hw' => ?_) hT (bts 20 1301) ?_
     ·obtain ⟨g0,g1,g2,g3⟩ := hw'; go_simp
     refine M_tk 1 47 (.slice na i nc) (fun w' hw' => ?_) hT (bts 20 1303) ?_
     ·obtain ⟨g0,g1,g2,g3⟩ := hw'; go_simp
     refine M_tk 3 49 (.slice (some ⟨g,off,none⟩) E ce) (fun w' hw' => ?_) hT (bts 20 1311) ?_
     ·obtain ⟨g0,g1,g2,g3⟩ := hw'; go_simp
     refine M_tk 9 55 (.slice (some ⟨g,off,none⟩) E ce) (fun w' hw' => ?_) hT (bts 20 1823) ?_
     ·obtain ⟨g0,g1,g2,g3⟩ := hw'; go_simp
     refine M_tk 5 51 (.pointer (some ⟨g,off + i * 2,none⟩)) (fun w' hw' => ?_) hT (bts 20 1855) ?_
     ·obtain ⟨g0,g1,g2,g3⟩ := hw'; go_simp
     refine M_tk 11 57 (.pointer (some ⟨g,off + i * 2,none⟩)) (fun w' hw' => ?_) hT (bts 20 3903) ?_
     ·obtain ⟨g0,g1,g2,g3⟩ := hw'; go_simp
     refine M_tk 6 52 (.pointer (some ⟨g,off + i * 2,none⟩)) (fun w' hw' => ?_) hT (bts 20 3967) ?_
     ·obtain ⟨g0,g1,g2,g3⟩ := hw'; go_simp
     refine M_tk 12 58 (.pointer (some ⟨g,off + i * 2 + 1,none⟩)) (fun w' hw' => ?_) hT (bts 20 8063) ?_
     ·obtain ⟨g0,g1,g2,g3⟩ := hw'; go_simp
     refine M_tk 7 53 (.string m0) (fun w' hw' => ?_) hT (bts 20 8191) ?_
     ·obtain ⟨g0,g1,g2,g3⟩ := hw'; go_simp
     refine M_tk 13 59 (.slice a3 nF c3) (fun w' hw' => ?_) hT (bts 20 16383) ?_
     ·obtain ⟨g0,g1,g2,g3⟩ := hw'; go_simp
     obtain ⟨vf,W1,r1,r2,r3⟩ := run_joinG (w := W0) 57 57 61 2 24 _ Tryz.underlying57 infoNm rfl (by decide) W0.heap.size (.slice none 0 0) 0 [] (World.ownsRow_nil _ _ _ _) (.slice a3 nF c3) (nmRows mf) (HFf.out.below hbel0) (nmr_len mf) (nmr_one mf) (by have := HLF.out; have := HFl.out; omega) (by decide) (Nat.le_refl _);rw [List.nil_append,HLF.out,Nat.zero_add] at r2;have hb1 : Below W0.heap.size W0 W1 := (Below.refl _ _).grown r3 (Nat.le_refl _) (fun k hk => by cases hk);obtain ⟨fa,fc,rfl⟩ := own_form r2;have HO1 : Hid (W1.ownsRow W0.heap.size 61 2 (.slice fa mf.length fc) mf.length (nmRows mf).flatten) := r2;have HAE5 : Hid (ApE (pe ++ [.slice fa mf.length fc])) := HAE.out.snoc HES0.out.highE (fun k hk => (HO1.out.lt k hk).1);have HRUN : Hid _ := r1;have hT := hTW W1 hb1;clear r1 r2 r3;refine M_rn 14 60 (.slice fa mf.length fc) (W1) (bts 20 32767) rfl (append_run rfl rfl rfl HRUN.out) hT ?_;simp only [zsA,zsZ,zsS];clear HRUN;refine M_tk 15 61 (.agg #[.string m0,.slice fa mf.length fc]) (fun w' hw' => ?_) hT (bts 20 65535) ?_
     ·obtain ⟨g0,g1,g2,g3⟩ := hw'; go_simp
     have hal : Below W1.heap.size W1 (W1.alloc (.cells #[.string m0,.slice fa mf.length fc] 59)) := bra _;have hb03 : Below W0.heap.size W0 (W1.alloc (.cells #[.string m0,.slice fa mf.length fc] 59)) := hb1.trans (hal.mono hb1.size);have BE := Blk.new W1 #[.string m0,.slice fa mf.length fc] 59;have HO1 : Hid ((W1.alloc (.cells #[.string m0,.slice fa mf.length fc] 59)).ownsRow W0.heap.size 61 2 (.slice fa mf.length fc) mf.length (nmRows mf).flatten) := own_below HO1.out hal;obtain ⟨bz,hbz⟩ : ∃ n,W1.heap.size = n := ⟨_,rfl⟩;refine M_rn 16 62 (.slice (some ⟨W1.heap.size,0,none⟩) 1 1) (W1.alloc (.cells #[.string m0,.slice fa mf.length fc] 59)) (bts 20 131071) rfl (by go_simp) (hTW _ hb03) ?_;simp only [zsA,zsZ,zsS];rw [hbz] at BE ⊢;generalize (W1.alloc (.cells #[.string m0,.slice fa mf.length fc] 59)) = W3 at *;clear hbz hal hb1;have HES3 : Hid (EnO W3 (bt + 1) (.slice na i nc) (es.take i) pe) := HES0.out.below hb03;obtain ⟨i0,hi0,hz0,hz1,hz2⟩ := info_parts infoEn;have hown := HES3.out.own;rw [HLK.out] at hown
     obtain ⟨v',W4,r1,r2,r3,_⟩ := run_append_own W3 (bt + 1) 23 23 59 i0 _ 2 40 Tryz.underlying23 hi0 hz0 hz1 hz2 rfl (by decide) (.slice na i nc) i _ hown ⟨bz,0,none⟩ 1 1 [.string m0,.slice fa mf.length fc] rfl (fun j u hu => by
      have := BE.cell j;rw [Addr.add_lit,Nat.zero_add,this]
      simpa using hu) (fun u hu => by
      simp only [List.mem_cons,List.not_mem_nil,or_false] at hu
      rcases hu with rfl | rfl <;> rfl) (by unfold maxLen; omega) (by omega) (by have := hb03.size; omega)
     have HRUN : Hid _ := r1;have KA : Kp (fun q => (Value.slice na i nc).ownBlock = some q) W3 W4 := (Kp.refl _ _).grown r3 (fun q hq _ => hq)
     have HES4 : Hid (EnO W4 (bt + 1) v' (es.take (i + 1)) (pe ++ [.slice fa mf.length fc])) := by
      show EnO _ _ _ _ _
      rw [HTK.out];refine EnO.snoc (m := ⟨m0,mf⟩) HES3.out (H := W0.heap.size) (by omega) HO1.out ?_ KA;rw [HLK.out]; exact r2
     obtain ⟨oa,oc,hv'⟩ := own_form r2;subst hv';have HES4 : Hid (EnO W4 (bt + 1) (.slice oa (i + 1) oc) (es.take (i + 1)) (pe ++ [.slice fa mf.length fc])) := HES4;have hnob : ∀ b cs t,Blk W3 b cs t → t ≠ 59 → ¬ (Value.slice na i nc).ownBlock = some b := fun b cs t hb ht hq => ht (own_type hown hq hb).symm
     have BT4 := (BT0.below hb03).kp KA (hnob _ _ _ (BT0.below hb03) (by decide));have BX4 := (BX0.below hb03).kp KA (hnob _ _ _ (BX0.below hb03) (by decide));have BR4 := (BR0.below hb03).kp KA (hnob _ _ _ (BR0.below hb03) (by decide));have HMS4 : Hid (MsO W4 (bt + 1) (.slice va k vc) ms pm) := (HMS0.out.below hb03).beside hown (by decide) (by decide) (by decide) KA;have HO4 : Hid (W4.ownsRow (b0 + 2) 63 3 (.slice ua T uc) T (mtRows ts).flatten) := own_kpV (own_below HO0.out hb03) KA (fun q hv hq => own_apart hown (own_below HO0.out hb03) (by decide) q hq hv);have hb4 : Below w.heap.size w W4 := (hbel0.trans (hb03.mono hbel0.size)).grown r3 (by have := hb03.size; have := hbel0.size; omega) (fun q hq => by have := (hown.lt q hq).1; have := HBZ.out; omega)
     have hTm : W4.cell? ⟨bt,2,none⟩ = some (.slice na i nc) ∧ W4.cell? ⟨b0,2,none⟩ = some (.slice (some ⟨g,off,none⟩) E ce) ∧ W4.cell? ⟨g,off + i * 2,none⟩ = some (.string m0) ∧ W4.cell? ⟨g,off + i * 2 + 1,none⟩ = some (.slice a3 nF c3) :=
      ⟨BT4.cell 2,BX4.cell 2,(hb4.cell (World.block_lt_of_cell? _ _ C0.out)).trans C0.out,(hb4.cell (World.block_lt_of_cell? _ _ C1.out)).trans C1.out⟩
     clear r1 r2 r3 hown;refine M_rn 17 63 (.slice oa (i + 1) oc) (W4) (bts 20 262143) rfl (append_run rfl rfl rfl HRUN.out) hTm ?_;simp only [zsA,zsZ,zsS];clear HRUN;have hT := hTm;refine M_tk 18 64 (.pointer (some ⟨bt,2,none⟩)) (fun w' hw' => ?_) hT (bts 20 524287) ?_
     ·obtain ⟨g0,g1,g2,g3⟩ := hw'; go_simp
     have y1 := (BT4.cell 2).trans rfl;have z1 := BT4.froz 2;refine M_st 19 (W4.setCell ⟨bt,2,none⟩ (.slice oa (i + 1) oc)) (bts 20 1048575) rfl (by go_simp) ?_;refine M_done (by kernel_rfl) ?_ _
     have KS : Kp (fun q => q = bt) W4 (W4.setCell ⟨bt,2,none⟩ (.slice oa (i + 1) oc)) := by
      refine Kp.setCell ?_ (fun _ => by simp) _;exact Kp.refl _ _
     have BT5 : Blk (W4.setCell ⟨bt,2,none⟩ (.slice oa (i + 1) oc)) bt #[.string nm,.slice va k vc,.slice oa (i + 1) oc,.slice ua T uc] 26 := BT4.set 2 _ rfl;have BX5 := BX4.kp KS (by omega);have BR5 := BR4.kp KS (by omega);have HES5 : Hid (EnO (W4.setCell ⟨bt,2,none⟩ (.slice oa (i + 1) oc)) (bt + 1) (.slice oa (i + 1) oc) (es.take (i + 1)) (pe ++ [.slice fa mf.length fc])) := HES4.out.kp KS (fun q h1 h2 => by omega);have HMS5 : Hid (MsO (W4.setCell ⟨bt,2,none⟩ (.slice oa (i + 1) oc)) (bt + 1) (.slice va k vc) ms pm) := HMS4.out.kp KS (fun q h1 h2 => by omega);have HO5 : Hid ((W4.setCell ⟨bt,2,none⟩ (.slice oa (i + 1) oc)).ownsRow (b0 + 2) 63 3 (.slice ua T uc) T (mtRows ts).flatten) := own_blk HO4.out BT4 (by decide) KS;have hb5 : Below w.heap.size w (W4.setCell ⟨bt,2,none⟩ (.slice oa (i + 1) oc)) := hb4.trans (KS.toBelow hb4.size (fun q e => by have := HBZ.out; omega));generalize (W4.setCell ⟨bt,2,none⟩ (.slice oa (i + 1) oc)) = W5 at *;clear y1 z1 KS BT4 BX4 BR4 HMS4 HES4 HO4 hb4 hT hTm hTW BT0 BX0 BR0 HMS0 HES0 HO0 hbel0 HES3 KA BE hb03 HO1 hnob;go_wp2_with fail
     go_roundw
     case rel => exact ⟨i + 1,_,_,_,by go_num,by omega,HES5,HAE5,HMS5,BT5,HO5,BX5,BR5,hb5⟩
     case measure => simp [intOf]; omega
    ·have HES1 : Hid (EnO wr (bt + 1) (.slice na i nc) es pe) := by
      have := HES.out;rw [List.take_of_length_le (by rw [HNE.out]; omega)] at this;exact this
     have t0 : wr.cell? ⟨bt,0,none⟩ = some (.string nm) := BT.cell 0;have t1 : wr.cell? ⟨bt,1,none⟩ = some (.slice va k vc) := BT.cell 1;have t2 : wr.cell? ⟨bt,2,none⟩ = some (.slice na i nc) := BT.cell 2;have t3 : wr.cell? ⟨bt,3,none⟩ = some (.slice ua T uc) := BT.cell 3;obtain ⟨r0,r1,r2,r3⟩ := cl4 BR;have z0 := BR.froz 0;have z1 := BR.froz 1;have z2 := BR.froz 2;have z3 := BR.froz 3;go_wp2_with fail;refine bodyPost_ret (results_cell rfl _ _ _ ⟨b0 + 1,0,none⟩ (.agg #[.string nm,.slice va k vc,.slice na i nc,.slice ua T uc]) (by go_simp) (by go_simp)) rfl ?_
     have KS : Kp (fun q => q = b0 + 1) wr ((((wr.setCell ⟨b0 + 1,0,none⟩ (.string nm)).setCell ⟨b0 + 1,1,none⟩ (.slice va k vc)).setCell ⟨b0 + 1,2,none⟩ (.slice na i nc)).setCell ⟨b0 + 1,3,none⟩ (.slice ua T uc)) := by
      refine Kp.setCell ?_ (fun _ => by simp) _;refine Kp.setCell ?_ (fun _ => by simp) _;refine Kp.setCell ?_ (fun _ => by simp) _;refine Kp.setCell ?_ (fun _ => by simp) _;exact Kp.refl _ _
     refine ⟨_,_,_,pm,pe,rfl,?_,?_,?_,?_,HAR.out,HAE.out⟩
     ·exact (HMS.out.kp KS (fun q h1 h2 => by omega)).base (by have := HBZ.out; omega)
     ·exact (HES1.out.kp KS (fun q h1 h2 => by omega)).base (by have := HBZ.out; omega)
     ·exact own_base (own_kp HO.out KS (fun q h1 h2 => by omega)) (by have := HBZ.out; omega)
     ·exact hbel.trans (KS.toBelow hbel.size (fun q e => by have := HBZ.out; omega))
theorem schema_any {w : World} {v : Value} {s : ScS} (hr : ScIn w v s) (hf : FewL s) :
  Calls Tryz.prog 10 #[v] w fun e w' => ∃ vm ve vt pm pe,e = .returned (.agg #[.string s.name,vm,ve,vt]) ∧ MsO w' w.heap.size vm s.msgs pm ∧ EnO w' w.heap.size ve s.enums pe ∧ w'.ownsRow w.heap.size 63 3 vt s.methods.length (mtRows s.methods).flatten ∧ Below w.heap.size w w' :=
 (schema_ap hr hf).mono fun e w' ⟨vm,ve,vt,pm,pe,h1,h2,h3,h4,h5,_⟩ => ⟨vm,ve,vt,pm,pe,h1,h2,h3,h4,h5⟩
def Lite {H : Type} (t : TypeId) (d : DataW H) : Prop := ∀ n ∈ d.weights Tryz.prog t,n ≤ 140737488351232
theorem lite_all {H : Type} {e : TypeId} : ∀ {l : List (DataW H)} {d : DataW H},d ∈ l → ∀ n ∈ d.weights Tryz.prog e,n ∈ DataW.weightsAll Tryz.prog e l
 | x :: l,d,h,n,hn => by
  simp only [DataW.weightsAll,List.mem_append]
  rcases List.mem_cons.1 h with rfl | h
  ·exact .inl hn
  ·exact .inr (lite_all h n hn)
theorem lite_each {H : Type} {ts : List TypeId} {ds : List (DataW H)} (h : ∀ n ∈ DataW.weightsEach Tryz.prog ts ds,n ≤ 140737488351232) {j : Nat} {t : TypeId} {d : DataW H} (ht : ts[j]? = some t) (hd : ds[j]? = some d) : Lite t d :=
 fun n hn => h n (DataW.weights_mem_each ht hd n hn)
theorem lite_str {H : Type} {t : TypeId} {l : List UInt8} (h : Lite t (.lit (.string l) : DataW H)) : l.length ≤ 140737488351232 := h _ (by simp [DataW.weights])
section
variable {H : Type} {enc : TypeId × Value → H} {W : World} {base : Nat} {spare : Nat → Bool} {held : Bool}
theorem lite_struct {t : TypeId} {fs : Array Field} {ds : List (DataW H)} (hu : Tryz.prog.underlying t = some (.struct fs)) (h : Lite t (.agg ds : DataW H)) {j : Nat} {u : TypeId} {d : DataW H} (ht : (fs.toList.map (·.type))[j]? = some u) (hd : ds[j]? = some d) : Lite u d := by
 refine lite_each (ts := fs.toList.map (·.type)) (ds := ds) (fun n hn => h n ?_) ht hd;simp only [DataW.weights,hu];exact hn
theorem row_in {α : Type} {t e : TypeId} {size : Nat} (hc : Tryz.prog.cellsOf e = size) (hpos : 0 < size) (ht : Tryz.prog.underlying t = some (.slice e)) (cells : α → List Value) (hcl : ∀ r,(cells r).length = size) (P : α → Prop) (dflt : α)
  {fuel : Nat} {a : Option Addr} {len cap : Nat} {x : DataW H × List MemPlace} (h : DataW.trod enc Tryz.prog W base spare held fuel t [.slice a len cap] = some x) (hl : Lite t x.1)
  (one : ∀ n cs' y,DataW.trod enc Tryz.prog W base spare held n e cs' = some y → Lite e y.1 → ∃ r,cs' = cells r ∧ P r) :
  ∃ rs : List α,rs.length = len ∧ RowG W (.slice a len cap) size (rs.map cells) ∧ ∀ r ∈ rs,P r := by
 rcases Deep.open_slice ht h with ⟨hcs, -⟩ | ⟨ad,len',cap',m,n,D,Pl,hcs, -,hle,hm,hmm,hx0,hx⟩
 ·simp only [List.cons.injEq,Value.slice.injEq,and_true] at hcs;obtain ⟨rfl,rfl,rfl⟩ := hcs;exact ⟨[],rfl,RowG.nil _ _,by simp⟩
 ·simp only [List.cons.injEq,Value.slice.injEq,and_true] at hcs;obtain ⟨rfl,rfl,rfl⟩ := hcs;subst hx0
  have hml : len ≤ m := by rw [hmm]; split <;> omega
  rw [hc] at hx
  have each : ∀ i,i < len → ∃ r : α,W.cells? base (ad.add (i * size)) size = some (cells r) ∧ P r := fun i hi => by
   obtain ⟨cs',h1,h2⟩ := hx i (by omega)
   obtain ⟨r,rfl,hp⟩ := one n cs' _ h2 (fun k hk => hl k (by
    simp only [DataW.weights,ht,List.mem_cons,List.mem_append]
    exact .inr (.inl (lite_all (List.mem_map.2 ⟨i,List.mem_range.2 hi,rfl⟩) k hk))))
   exact ⟨r,h1,hp⟩
  obtain ⟨f,hf⟩ : ∃ f : Nat → α,∀ i,i < len → W.cells? base (ad.add (i * size)) size = some (cells (f i)) ∧ P (f i) :=
   ⟨fun i => if h : i < len then Classical.choose (each i h) else dflt,fun i hi => by simp only [dif_pos hi]; exact Classical.choose_spec (each i hi)⟩
  refine ⟨(List.range len).map f,by simp,?_,?_⟩
  ·refine ⟨some ad,cap,by simp,by simpa using hle,hm,(fun e => by cases e),fun hne => ?_⟩
   have hlen : 0 < len := by
    rcases Nat.eq_zero_or_pos len with h0 | h0
    ·subst h0; simp at hne
    ·exact h0
   have hcell : ∀ i,i < len → ∀ c,c < size → W.cell? ((ad.add (i * size)).add c) = (cells (f i))[c]? := fun i hi => (World.cells?_some (hf i hi).1).2.2
   obtain ⟨g,off,spot⟩ := ad
   have hspot : spot = none := by
    have h1 := hcell 0 hlen 0 hpos;obtain ⟨u,hu⟩ : ∃ u,(cells (f 0))[0]? = some u := ⟨_,List.getElem?_eq_getElem (by rw [hcl]; exact hpos)⟩;rw [hu] at h1
    simpa [Addr.add] using World.cell?_spot h1
   subst hspot;refine ⟨g,off,rfl,fun i c u j hi hj => ?_⟩;simp only [List.map_map,List.getElem?_map,Option.map_eq_some_iff,Function.comp_apply] at hi;obtain ⟨i',hi',rfl⟩ := hi;obtain ⟨hil,hie⟩ := List.getElem?_eq_some_iff.1 hi'
   simp at hie
   subst hie;simp only [List.length_range] at hil
   have hjs : j < size := by rw [← hcl (f i)]; exact (List.getElem?_eq_some_iff.1 hj).1
   have h2 := hcell i hil j hjs;rw [hj,Deep.add_add,Addr.add_lit] at h2;rw [Nat.add_assoc];exact h2
  ·intro r hr;simp only [List.mem_map,List.mem_range] at hr;obtain ⟨i,hi,rfl⟩ := hr;exact (hf i hi).2
theorem i64_ofS {n : Int} (h : (Lit.int .i64 n).wf = true) : I64 n := bounds_i64 h
theorem cellsIn : Tryz.prog.cellsOf 3 = 1 := by kernel_rfl
theorem cellsSt : Tryz.prog.cellsOf 9 = 1 := by kernel_rfl
theorem cellsTy : Tryz.prog.cellsOf 54 = 2 := by kernel_rfl
theorem cellsFl : Tryz.prog.cellsOf 56 = 5 := by kernel_rfl
theorem cellsNm : Tryz.prog.cellsOf 61 = 2 := by kernel_rfl
theorem cellsMt : Tryz.prog.cellsOf 63 = 3 := by kernel_rfl
theorem cellsMs : Tryz.prog.cellsOf 52 = 3 := by kernel_rfl
theorem cellsEn : Tryz.prog.cellsOf 59 = 2 := by kernel_rfl
theorem cellsSc : Tryz.prog.cellsOf 26 = 4 := by kernel_rfl
theorem cellsSl : Tryz.prog.cellsOf 49 = 1 ∧ Tryz.prog.cellsOf 50 = 1 ∧ Tryz.prog.cellsOf 57 = 1 ∧ Tryz.prog.cellsOf 22 = 1 ∧ Tryz.prog.cellsOf 23 = 1 ∧ Tryz.prog.cellsOf 24 = 1 := ⟨by kernel_rfl,by kernel_rfl,by kernel_rfl,by kernel_rfl,by kernel_rfl,by kernel_rfl⟩
theorem str_in {n : Nat} {c : Value} {y : DataW H × List MemPlace} (h : DataW.trod enc Tryz.prog W base spare held n 9 [c] = some y) (hl : Lite 9 y.1) : ∃ b : ByteArray,c = .string b ∧ b.size ≤ 140737488351232 := by
 obtain ⟨b,e,hy,w⟩ := DataW.trod_string Tryz.underlying9 h;simp only [List.cons.injEq,and_true] at e;subst e hy;exact ⟨b,rfl,lite_str hl⟩
theorem int_in {n : Nat} {c : Value} {y : DataW H × List MemPlace} (h : DataW.trod enc Tryz.prog W base spare held n 3 [c] = some y) : ∃ b : Int,c = .int .i64 b ∧ I64 b := by
 obtain ⟨b,e,hy,w⟩ := DataW.trod_int Tryz.underlying3 h;simp only [List.cons.injEq,and_true] at e;subst e;exact ⟨b,rfl,i64_ofS w⟩
theorem sfield_in : ∀ n cs' y,DataW.trod enc Tryz.prog W base spare held n 56 cs' = some y → Lite 56 y.1 → ∃ r : FlS,cs' = r.cells ∧ FlW r := by
 intro n cs y h hl;obtain ⟨y0,y1,y2,y3,m,hy,hc,h0,h1,h2,h3⟩ := _root_.Go.Joins.trod_struct4 Tryz.underlying56 h;rw [cellsFl] at hc
 match cs,hc with
 | [c0,c1,c2,c3,c4],_ =>
  rw [cellsIn] at h1 h2;rw [cellsSt] at h0;rw [cellsTy] at h3;simp only [List.drop_zero,List.drop_succ_cons,List.take_succ_cons,List.take_zero] at h0 h1 h2 h3;subst hy;obtain ⟨z0,z1,k,hz,hcz,g0,g1⟩ := trod_struct2 Tryz.underlying54 h3;rw [cellsIn] at g0;rw [cellsSt] at g1;simp only [List.drop_zero,List.drop_succ_cons,List.take_succ_cons,List.take_zero] at g0 g1;have l3 : Lite 54 y3.1 := lite_struct Tryz.underlying56 hl (j := 3) rfl rfl;subst hz;obtain ⟨b0,rfl,s0⟩ := str_in h0 (lite_struct Tryz.underlying56 hl (j := 0) rfl rfl);obtain ⟨b1,rfl,s1⟩ := int_in h1;obtain ⟨b2,rfl,s2⟩ := int_in h2;obtain ⟨b3,rfl,s3⟩ := int_in g0;obtain ⟨b4,rfl,s4⟩ := str_in g1 (lite_struct Tryz.underlying54 l3 (j := 1) rfl rfl);exact ⟨⟨b0,b1,b2,b3,b4⟩,rfl,s0,s4,s1,s2,s3⟩
theorem named_in : ∀ n cs' y,DataW.trod enc Tryz.prog W base spare held n 61 cs' = some y → Lite 61 y.1 → ∃ r : NmS,cs' = r.cells ∧ NmW r := by
 intro n cs y h hl;obtain ⟨y0,y1,m,hy,hc,h0,h1⟩ := trod_struct2 Tryz.underlying61 h;rw [cellsNm] at hc
 match cs,hc with
 | [c0,c1],_ =>
  rw [cellsIn] at h1;rw [cellsSt] at h0;simp only [List.drop_zero,List.drop_succ_cons,List.take_succ_cons,List.take_zero] at h0 h1;subst hy;obtain ⟨b0,rfl,s0⟩ := str_in h0 (lite_struct Tryz.underlying61 hl (j := 0) rfl rfl);obtain ⟨b1,rfl,s1⟩ := int_in h1;exact ⟨⟨b0,b1⟩,rfl,s0,s1⟩
theorem method_in : ∀ n cs' y,DataW.trod enc Tryz.prog W base spare held n 63 cs' = some y → Lite 63 y.1 → ∃ r : MtS,cs' = r.cells ∧ MtW r := by
 intro n cs y h hl;obtain ⟨y0,y1,y2,m,hy,hc,h0,h1,h2⟩ := Deep.trod_struct3 Tryz.underlying63 h;rw [cellsMt] at hc
 match cs,hc with
 | [c0,c1,c2],_ =>
  rw [cellsSt] at h0 h1 h2;simp only [List.drop_zero,List.drop_succ_cons,List.take_succ_cons,List.take_zero] at h0 h1 h2;subst hy;obtain ⟨b0,rfl,s0⟩ := str_in h0 (lite_struct Tryz.underlying63 hl (j := 0) rfl rfl);obtain ⟨b1,rfl,s1⟩ := str_in h1 (lite_struct Tryz.underlying63 hl (j := 1) rfl rfl);obtain ⟨b2,rfl,s2⟩ := str_in h2 (lite_struct Tryz.underlying63 hl (j := 2) rfl rfl);exact ⟨⟨b0,b1,b2⟩,rfl,s0,s1,s2⟩
theorem slice_form {t e : TypeId} {n : Nat} {c : Value} {y : DataW H × List MemPlace} (ht : Tryz.prog.underlying t = some (.slice e)) (h : DataW.trod enc Tryz.prog W base spare held n t [c] = some y) : ∃ a len cap,c = .slice a len cap := by
 rcases Deep.open_slice ht h with ⟨hcs, -⟩ | ⟨ad,len',cap',m,n,D,Pl,hcs, -⟩
 ·simp only [List.cons.injEq,and_true] at hcs; exact ⟨_,_,_,hcs⟩
 ·simp only [List.cons.injEq,and_true] at hcs; exact ⟨_,_,_,hcs⟩
theorem ints_in {n : Nat} {c : Value} {y : DataW H × List MemPlace} (h : DataW.trod enc Tryz.prog W base spare held n 50 [c] = some y) (hl : Lite 50 y.1) : ∃ ns : List Int,RowG W c 1 (inRows ns) ∧ ∀ x ∈ ns,I64 x := by
 obtain ⟨a,len,cap,rfl⟩ := slice_form Tryz.underlying50 h
 obtain ⟨rs,h1,h2,h3⟩ := row_in cellsIn (by decide) Tryz.underlying50 (fun x : Int => [.int .i64 x]) (fun _ => rfl) I64 0 h hl (fun n cs' y h _ => by
  obtain ⟨b,e,_,w⟩ := DataW.trod_int Tryz.underlying3 h
  exact ⟨b,e,i64_ofS w⟩)
 exact ⟨rs,h2,h3⟩
def msC (p : MsS × Value × Value) : List Value := [.string p.1.name,p.2.1,p.2.2]
def msP (W : World) (p : MsS × Value × Value) : Prop := RowG W p.2.1 5 (flRows p.1.fields) ∧ RowG W p.2.2 1 (inRows p.1.reserved) ∧ MsW p.1
theorem message_in : ∀ n cs' y,DataW.trod enc Tryz.prog W base spare held n 52 cs' = some y → Lite 52 y.1 → ∃ r : MsS × Value × Value,cs' = msC r ∧ msP W r := by
 intro n cs y h hl;obtain ⟨y0,y1,y2,m,hy,hc,h0,h1,h2⟩ := Deep.trod_struct3 Tryz.underlying52 h;rw [cellsMs] at hc
 match cs,hc with
 | [c0,c1,c2],_ =>
  rw [cellsSt] at h0;rw [cellsSl.1] at h1;rw [cellsSl.2.1] at h2;simp only [List.drop_zero,List.drop_succ_cons,List.take_succ_cons,List.take_zero] at h0 h1 h2;subst hy;obtain ⟨b0,rfl,s0⟩ := str_in h0 (lite_struct Tryz.underlying52 hl (j := 0) rfl rfl);obtain ⟨a,len,cap,rfl⟩ := slice_form Tryz.underlying49 h1;obtain ⟨fs, -,f2,f3⟩ := row_in cellsFl (by decide) Tryz.underlying49 FlS.cells (fun _ => rfl) FlW ⟨⟨#[]⟩,0,0,0,⟨#[]⟩⟩ h1 (lite_struct Tryz.underlying52 hl (j := 1) rfl rfl) sfield_in;obtain ⟨ns,n2,n3⟩ := ints_in h2 (lite_struct Tryz.underlying52 hl (j := 2) rfl rfl);exact ⟨(⟨b0,fs,ns⟩,_,_),rfl,f2,n2,s0,f3,n3⟩
def enC (p : EnS × Value) : List Value := [.string p.1.name,p.2]
def enP (W : World) (p : EnS × Value) : Prop := RowG W p.2 2 (nmRows p.1.values) ∧ EnW p.1
theorem enumer_in : ∀ n cs' y,DataW.trod enc Tryz.prog W base spare held n 59 cs' = some y → Lite 59 y.1 → ∃ r : EnS × Value,cs' = enC r ∧ enP W r := by
 intro n cs y h hl;obtain ⟨y0,y1,m,hy,hc,h0,h1⟩ := trod_struct2 Tryz.underlying59 h;rw [cellsEn] at hc
 match cs,hc with
 | [c0,c1],_ =>
  rw [cellsSt] at h0;rw [cellsSl.2.2.1] at h1;simp only [List.drop_zero,List.drop_succ_cons,List.take_succ_cons,List.take_zero] at h0 h1;subst hy;obtain ⟨b0,rfl,s0⟩ := str_in h0 (lite_struct Tryz.underlying59 hl (j := 0) rfl rfl);obtain ⟨a,len,cap,rfl⟩ := slice_form Tryz.underlying57 h1;obtain ⟨fs, -,f2,f3⟩ := row_in cellsNm (by decide) Tryz.underlying57 NmS.cells (fun _ => rfl) NmW ⟨⟨#[]⟩,0⟩ h1 (lite_struct Tryz.underlying59 hl (j := 1) rfl rfl) named_in;exact ⟨(⟨b0,fs⟩,_),rfl,f2,s0,f3⟩
theorem schema_in {r : Reach} {b0 : Nat} {v : Value} {d : DataW H} {p : List MemPlace} (hv : Value.okWide Tryz.prog W r b0 26 v) (h : DataW.Trod enc Tryz.prog W base spare held 26 v d p) (hl : Lite 26 d) : ∃ s : ScS,ScIn W v s ∧ ScW s := by
 obtain ⟨cs,rfl,hsz⟩ := okWide_struct Tryz.underlying26 hv;obtain ⟨fuel,hf⟩ := h;obtain ⟨y0,y1,y2,y3,m,hy,hc,h0,h1,h2,h3⟩ := _root_.Go.Joins.trod_struct4 Tryz.underlying26 hf;rw [cellsSc] at hc;obtain ⟨l⟩ := cs;simp only [Value.cells] at h0 h1 h2 h3 hc
 match l,hc with
 | [c0,c1,c2,c3],_ =>
  rw [cellsSt] at h0;rw [cellsSl.2.2.2.1] at h1;rw [cellsSl.2.2.2.2.1] at h2;rw [cellsSl.2.2.2.2.2] at h3;simp only [List.drop_zero,List.drop_succ_cons,List.take_succ_cons,List.take_zero] at h0 h1 h2 h3;have hd : d = .agg [y0.1,y1.1,y2.1,y3.1] := congrArg Prod.fst hy;subst hd;obtain ⟨b0,rfl,s0⟩ := str_in h0 (lite_struct Tryz.underlying26 hl (j := 0) rfl rfl);obtain ⟨a1,len1,cap1,rfl⟩ := slice_form Tryz.underlying22 h1;obtain ⟨a2,len2,cap2,rfl⟩ := slice_form Tryz.underlying23 h2;obtain ⟨a3,len3,cap3,rfl⟩ := slice_form Tryz.underlying24 h3;obtain ⟨ms,m1,m2,m3⟩ := row_in cellsMs (by decide) Tryz.underlying22 msC (fun _ => rfl) (msP W) (⟨⟨#[]⟩,[],[]⟩,.bool false,.bool false) h1 (lite_struct Tryz.underlying26 hl (j := 1) rfl rfl) message_in;obtain ⟨es,e1,e2,e3⟩ := row_in cellsEn (by decide) Tryz.underlying23 enC (fun _ => rfl) (enP W) (⟨⟨#[]⟩,[]⟩,.bool false) h2 (lite_struct Tryz.underlying26 hl (j := 2) rfl rfl) enumer_in;obtain ⟨ts,t1,t2,t3⟩ := row_in cellsMt (by decide) Tryz.underlying24 MtS.cells (fun _ => rfl) MtW ⟨⟨#[]⟩,⟨#[]⟩,⟨#[]⟩⟩ h3 (lite_struct Tryz.underlying26 hl (j := 3) rfl rfl) method_in;refine ⟨⟨b0,ms.map (·.1),es.map (·.1),ts⟩,⟨_,_,_,rfl,⟨ms.map msC,m2,by simp,fun i m hm => ?_⟩,⟨es.map enC,e2,by simp,fun i m hm => ?_⟩,t2⟩,s0,fun m hm => ?_,fun m hm => ?_,t3⟩
  ·simp only [List.getElem?_map,Option.map_eq_some_iff] at hm;obtain ⟨q,hq,rfl⟩ := hm;obtain ⟨g1,g2,_⟩ := m3 q (List.mem_of_getElem? hq);exact ⟨q.2.1,q.2.2,by simp [hq,msC],g1,g2⟩
  ·simp only [List.getElem?_map,Option.map_eq_some_iff] at hm;obtain ⟨q,hq,rfl⟩ := hm;obtain ⟨g1,_⟩ := e3 q (List.mem_of_getElem? hq);exact ⟨q.2,by simp [hq,enC],g1⟩
  ·obtain ⟨q,hq,rfl⟩ := List.mem_map.1 hm;exact (m3 q hq).2.2
  ·obtain ⟨q,hq,rfl⟩ := List.mem_map.1 hm;exact (e3 q hq).2
end
def LiteT {H : Type} (t : TypeId) (d : DataW H) : Prop := ∀ n ∈ d.weights Tryz.prog t,n ≤ 140737488351232
theorem liteT_all {H : Type} {e : TypeId} : ∀ {l : List (DataW H)} {d : DataW H},d ∈ l → ∀ n ∈ d.weights Tryz.prog e,n ∈ DataW.weightsAll Tryz.prog e l
 | x :: l,d,h,n,hn => by
  simp only [DataW.weightsAll,List.mem_append]
  rcases List.mem_cons.1 h with rfl | h
  ·exact .inl hn
  ·exact .inr (liteT_all h n hn)
theorem liteT_each {H : Type} {ts : List TypeId} {ds : List (DataW H)} (h : ∀ n ∈ DataW.weightsEach Tryz.prog ts ds,n ≤ 140737488351232) {j : Nat} {t : TypeId} {d : DataW H} (ht : ts[j]? = some t) (hd : ds[j]? = some d) : LiteT t d :=
 fun n hn => h n (DataW.weights_mem_each ht hd n hn)
section
variable {H : Type} {enc : TypeId × Value → H} {W : World} {base : Nat} {spare : Nat → Bool} {held : Bool}
theorem liteT_struct {t : TypeId} {fs : Array Field} {ds : List (DataW H)} (hu : Tryz.prog.underlying t = some (.struct fs)) (h : LiteT t (.agg ds : DataW H)) {j : Nat} {u : TypeId} {d : DataW H} (ht : (fs.toList.map (·.type))[j]? = some u) (hd : ds[j]? = some d) : LiteT u d := by
 refine liteT_each (ts := fs.toList.map (·.type)) (ds := ds) (fun n hn => h n ?_) ht hd;simp only [DataW.weights,hu];exact hn
theorem rowP_in {α : Type} [Inhabited α] {t e : TypeId} {size : Nat} (hc : Tryz.prog.cellsOf e = size) (hpos : 0 < size) (ht : Tryz.prog.underlying t = some (.slice e)) (P : List Value → α → Prop) (hw : ∀ r x,P r x → r.length = size)
  {fuel : Nat} {c : Value} {x : DataW H × List MemPlace} (h : DataW.trod enc Tryz.prog W base spare held fuel t [c] = some x) (hl : LiteT t x.1)
  (one : ∀ n cs' y,n < fuel → DataW.trod enc Tryz.prog W base spare held n e cs' = some y → LiteT e y.1 → ∃ r,P cs' r) : ∃ rs : List α,RowP P W size c rs := by
 rcases DataW.trod_slice ht h with ⟨hcs, -⟩ | ⟨ad,len,cap,elems,rest,n,hfu,hcs,hx,hb,hle,hm,hlen,hel, -, -⟩
 ·obtain rfl : c = .slice none 0 0 := by simpa using hcs
  exact ⟨[],RowP.nil P W size⟩
 ·obtain rfl : c = .slice (some ad) len cap := by simpa using hcs
  rw [hc] at hel
  have each : ∀ i,i < len → ∃ (cs' : List Value) (r : α),W.cells? base (ad.add (i * size)) size = some cs' ∧ P cs' r := fun i hi => by
   have h1 := hel i hi;rw [List.getElem?_eq_getElem (by omega)] at h1;obtain ⟨cs',h2,h3⟩ := Option.bind_eq_some_iff.1 h1
   obtain ⟨r,hp⟩ := one n cs' _ (by omega) h3 (fun k hk => hl k (by
    rw [hx];simp only [DataW.weights,ht,List.mem_cons,List.mem_append]
    exact .inr (.inl (liteT_all (List.mem_map.2 ⟨_,List.getElem_mem (by omega),rfl⟩) k hk))))
   exact ⟨cs',r,h2,hp⟩
  obtain ⟨f,hf⟩ : ∃ f : Nat → List Value × α,∀ i,i < len → W.cells? base (ad.add (i * size)) size = some (f i).1 ∧ P (f i).1 (f i).2 :=
   ⟨fun i => if h : i < len then (Classical.choose (each i h),Classical.choose (Classical.choose_spec (each i h))) else ([],default),fun i hi => by simp only [dif_pos hi]; exact Classical.choose_spec (Classical.choose_spec (each i hi))⟩
  refine ⟨(List.range len).map fun i => (f i).2,(List.range len).map fun i => (f i).1,⟨some ad,cap,by simp,by simpa using hle,hm,(fun e => by cases e),fun hne => ?_⟩,by simp,fun i y hy => ?_⟩
  ·have hlp : 0 < len := by
    rcases Nat.eq_zero_or_pos len with h0 | h0
    ·subst h0; simp at hne
    ·exact h0
   have hcell : ∀ i,i < len → ∀ k,k < size → W.cell? ((ad.add (i * size)).add k) = (f i).1[k]? := fun i hi => (World.cells?_some (hf i hi).1).2.2
   obtain ⟨g,off,spot⟩ := ad
   have hspot : spot = none := by
    have h1 := hcell 0 hlp 0 hpos;obtain ⟨u,hu⟩ : ∃ u,(f 0).1[0]? = some u := ⟨_,List.getElem?_eq_getElem (by rw [hw _ _ (hf 0 hlp).2]; exact hpos)⟩;rw [hu] at h1
    simpa [Addr.add] using World.cell?_spot h1
   subst hspot;refine ⟨g,off,rfl,fun i c u j hi hj => ?_⟩;simp only [List.getElem?_map,Option.map_eq_some_iff] at hi;obtain ⟨i',hi',rfl⟩ := hi;obtain ⟨hil,hie⟩ := List.getElem?_eq_some_iff.1 hi'
   simp at hie
   subst hie;simp only [List.length_range] at hil
   have hjs : j < size := by rw [← hw _ _ (hf i hil).2]; exact (List.getElem?_eq_some_iff.1 hj).1
   have h2 := hcell i hil j hjs;rw [hj,Deep.add_add,Addr.add_lit] at h2;rw [Nat.add_assoc];exact h2
  ·simp only [List.getElem?_map,Option.map_eq_some_iff] at hy;obtain ⟨i',hi',rfl⟩ := hy;obtain ⟨hil,hie⟩ := List.getElem?_eq_some_iff.1 hi'
   simp at hie
   subst hie;simp only [List.length_range] at hil;exact ⟨(f i).1,by simp [hil],(hf i hil).2⟩
theorem cellsRwT : Tryz.prog.cellsOf 79 = 4 := by kernel_rfl
theorem cellsTrT : Tryz.prog.cellsOf 30 = 5 := by kernel_rfl
theorem cellsEnT : Tryz.prog.cellsOf 69 = 2 := by kernel_rfl
theorem cellsOneT : Tryz.prog.cellsOf 3 = 1 ∧ Tryz.prog.cellsOf 9 = 1 ∧ Tryz.prog.cellsOf 28 = 1 ∧ Tryz.prog.cellsOf 67 = 1 ∧ Tryz.prog.cellsOf 27 = 1 := ⟨by kernel_rfl,by kernel_rfl,by kernel_rfl,by kernel_rfl,by kernel_rfl⟩
theorem intT_in {n : Nat} {c : Value} {y : DataW H × List MemPlace} (h : DataW.trod enc Tryz.prog W base spare held n 3 [c] = some y) : ∃ b : Int,c = .int .i64 b ∧ Is64 b := by
 obtain ⟨b,e,hy,w⟩ := DataW.trod_int Tryz.underlying3 h;simp only [List.cons.injEq,and_true] at e;subst e;exact ⟨b,rfl,bounds_i64 w⟩
theorem strT_in {n : Nat} {c : Value} {y : DataW H × List MemPlace} (h : DataW.trod enc Tryz.prog W base spare held n 9 [c] = some y) (hl : LiteT 9 y.1) : ∃ b : ByteArray,c = .string b ∧ b.size ≤ 140737488351232 := by
 obtain ⟨b,e,hy,w⟩ := DataW.trod_string Tryz.underlying9 h;simp only [List.cons.injEq,and_true] at e;subst e hy;refine ⟨b,rfl,?_⟩;have := hl b.data.toList.length (by simp [DataW.weights])
 simpa using this
def RawC (r : List Value) (f : Fd) : Prop := r = f.cells ∧ Is64 f.tag ∧ Is64 f.wire ∧ Is64 f.n ∧ f.b.size ≤ 140737488351232
theorem rawT_in : ∀ n cs' y,DataW.trod enc Tryz.prog W base spare held n 79 cs' = some y → LiteT 79 y.1 → ∃ f : Fd,RawC cs' f := by
 intro n cs y h hl;obtain ⟨y0,y1,y2,y3,m,hy,hc,h0,h1,h2,h3⟩ := _root_.Go.Joins.trod_struct4 Tryz.underlying79 h;rw [cellsRwT] at hc
 match cs,hc with
 | [c0,c1,c2,c3],_ =>
  rw [cellsOneT.1] at h0 h1 h2;rw [cellsOneT.2.1] at h3;simp only [List.drop_zero,List.drop_succ_cons,List.take_succ_cons,List.take_zero] at h0 h1 h2 h3;subst hy;obtain ⟨b0,rfl,s0⟩ := intT_in h0;obtain ⟨b1,rfl,s1⟩ := intT_in h1;obtain ⟨b2,rfl,s2⟩ := intT_in h2;obtain ⟨b3,rfl,s3⟩ := strT_in h3 (liteT_struct Tryz.underlying79 hl (j := 3) rfl rfl);exact ⟨⟨b0,b1,b2,b3⟩,rfl,s0,s1,s2,s3⟩
theorem rawRow {w : World} {v : Value} {l : List Fd} (h : RowP RawC w 4 v l) : RowG w v 4 (fdRows l) ∧ ∀ f ∈ l,Is64 f.tag ∧ Is64 f.wire ∧ Is64 f.n ∧ f.b.size ≤ 140737488351232 := by
 obtain ⟨rows,h1,h2,h3⟩ := h
 have hr : rows = fdRows l := by
  refine List.ext_getElem? fun i => ?_
  by_cases hi : i < l.length
  ·obtain ⟨r,e,hp⟩ := h3 i _ (List.getElem?_eq_getElem hi);rw [e,hp.1]
   simp [fdRows,hi]
  ·rw [List.getElem?_eq_none (by omega),List.getElem?_eq_none (by simp [fdRows]; omega)]
 rw [hr] at h1;refine ⟨h1,fun f hf => ?_⟩;obtain ⟨i,hi,e⟩ := List.getElem_of_mem hf;obtain ⟨r,_,hp⟩ := h3 i f (by rw [List.getElem?_eq_getElem hi,e]);exact hp.2
theorem TrC.le {n m : Nat} (h : n ≤ m) {w : World} {r : List Value} {t : Tr} (hc : TrC n w r t) : TrC m w r t := by
 induction h with
 | refl => exact hc
 | step _ ih => exact ih.more
theorem TrC.len {n : Nat} {w : World} {r : List Value} {t : Tr} (h : TrC n w r t) : r.length = 5 := by
 cases n with
 | zero => exact h.elim
 | succ n => obtain ⟨ve,vr,rfl,_⟩ := h; rfl
theorem treeC_in (N : Nat) : ∀ fuel,fuel ≤ N → ∀ cs' y,DataW.trod enc Tryz.prog W base spare held fuel 30 cs' = some y → LiteT 30 y.1 → ∃ t : Tr,TrC fuel W cs' t := by
 induction N with
 | zero =>
  intro fuel hf cs y h hl
  obtain rfl : fuel = 0 := by omega
  simp [DataW.trod] at h
 | succ N ih =>
  intro fuel hf cs y h hl;obtain ⟨xs,n,rfl,rfl,hc,hlen,hfs⟩ := DataW.trod_struct Tryz.underlying30 h;rw [cellsTrT] at hc
  match xs,hlen with
  | [y0,y1,y2,y3,y4],_ =>
   match cs,hc with
   | [c0,c1,c2,c3,c4],_ =>
    have h0 := hfs 0 _ rfl;have h1 := hfs 1 _ rfl;have h2 := hfs 2 _ rfl;have h3 := hfs 3 _ rfl;have h4 := hfs 4 _ rfl;simp only [cellsOneT.1,cellsOneT.2.1,cellsOneT.2.2.1,cellsOneT.2.2.2.2,List.drop_zero,List.drop_succ_cons,List.take_succ_cons,List.take_zero,List.getElem?_cons_zero,List.getElem?_cons_succ] at h0 h1 h2 h3 h4;obtain ⟨b0,rfl,s0⟩ := intT_in h0;obtain ⟨b1,rfl,s1⟩ := intT_in h1;obtain ⟨b2,rfl,s2⟩ := strT_in h2 (liteT_struct Tryz.underlying30 hl (j := 2) rfl rfl)
    haveI : Inhabited Fd := ⟨fd0⟩
    haveI : Inhabited Tr := ⟨tr0⟩
    obtain ⟨fs,hfr⟩ := rowP_in cellsRwT (by decide) Tryz.underlying28 RawC (fun r x hp => by rw [hp.1]; rfl) h4 (liteT_struct Tryz.underlying30 hl (j := 4) rfl rfl) (fun n cs' y _ => rawT_in n cs' y)
    obtain ⟨es,her⟩ := rowP_in cellsEnT (by decide) Tryz.underlying27 (EnC (TrC n W) W) (fun r x hp => by obtain ⟨vt,rfl,_⟩ := hp; rfl) h3 (liteT_struct Tryz.underlying30 hl (j := 3) rfl rfl) (fun n2 cs2 y2 hn2 ht2 hl2 => by
     obtain ⟨xs2,n3,rfl,rfl,hc2,hlen2,hfs2⟩ := DataW.trod_struct Tryz.underlying69 ht2;rw [cellsEnT] at hc2
     match xs2,hlen2 with
     | [z0,z1],_ =>
      match cs2,hc2 with
      | [d0,d1],_ =>
       have g0 := hfs2 0 _ rfl;have g1 := hfs2 1 _ rfl;simp only [cellsOneT.1,cellsOneT.2.2.2.1,List.drop_zero,List.drop_succ_cons,List.take_succ_cons,List.take_zero,List.getElem?_cons_zero,List.getElem?_cons_succ] at g0 g1;obtain ⟨tg,rfl,st⟩ := intT_in g0
       obtain ⟨ts,htr⟩ := rowP_in cellsTrT (by decide) Tryz.underlying67 (TrC n W) (fun r x hp => hp.len) g1 (liteT_struct Tryz.underlying69 hl2 (j := 1) rfl rfl) (fun n4 cs4 y4 hn4 ht4 hl4 => by
        obtain ⟨t,ht⟩ := ih n4 (by omega) cs4 y4 ht4 hl4
        exact ⟨t,ht.le (by omega)⟩)
       exact ⟨(tg,ts),d1,rfl,st,htr⟩)
    obtain ⟨r1,r2⟩ := rawRow hfr;exact ⟨⟨b0,b1,b2,es,fs⟩,c3,c4,rfl,s0,s1,s2,r2,r1,her⟩
theorem tree_in {r : Reach} {b0 : Nat} {v : Value} {d : DataW H} {p : List MemPlace} (hv : Value.okWide Tryz.prog W r b0 30 v) (h : DataW.Trod enc Tryz.prog W base spare held 30 v d p) (hl : LiteT 30 d) : ∃ n t,TrIn n W v t := by
 obtain ⟨cs,rfl,hsz⟩ := okWide_struct Tryz.underlying30 hv;obtain ⟨fuel,hf⟩ := h;obtain ⟨t,ht⟩ := treeC_in fuel fuel (Nat.le_refl _) _ _ hf hl;exact ⟨fuel,t,_,by simp [Value.cells],ht⟩
end
end Go.Proofs.YtmgbhicogmclgaaGreat
