/- Part 4 of what the proof stands on. -/
import Derived.Test.YtmgbhicogmclgaaGreatPkWAC
import Derived.DeepKeys4
namespace Go.Proofs.YtmgbhicogmclgaaGreat
set_option maxHeartbeats 8000000
set_option linter.unusedVariables false
set_option linter.unusedSimpArgs false
set_option maxRecDepth 20000
section
open Go.ChangeShapes Go.WideShapes Go.ChangeAt Go.RowKit
theorem infoTr : (Tryz.prog.info? 30).map (fun i => (i.zero,i.size,i.bytes)) = some (some (.agg #[.int .i64 0,.int .i64 0,.string ⟨#[]⟩,.slice none 0 0,.slice none 0 0]),5,80) := by kernel_rfl
theorem infoEt : (Tryz.prog.info? 69).map (fun i => (i.zero,i.size,i.bytes)) = some (some (.agg #[.int .i64 0,.slice none 0 0]),2,32) := by kernel_rfl
theorem take_atC {α : Type} {l : List α} {i : Nat} {x : α} (h : l[i]? = some x) : l.take (i + 1) = l.take i ++ [x] := by
 obtain ⟨hl,rfl⟩ := List.getElem?_eq_some_iff.1 h;rw [List.take_succ_eq_append_getElem hl]
structure CpS (n B b0 bt : Nat) (bx : Array Value) (K N : Int) (S : ByteArray) (ve vr : Value) (es : List (Int × List Tr)) (fs : List Fd) (rows : List (List Value)) (bss : List (List Nat)) (w : World) : Prop where
 row : RowO (EtO (TrO n B) B) B 69 2 w ve es rows bss
 rst : w.ownsRow B 79 4 vr fs.length (rawCells fs)
 bt : Blk w bt #[.int .i64 K,.int .i64 N,.string S,ve,vr] 30
 bx : Blk w b0 bx 30
 br : Blk w (b0 + 1) #[.int .i64 0,.int .i64 0,.string ⟨#[]⟩,.slice none 0 0,.slice none 0 0] 30
theorem CpS.sm {n B b0 bt : Nat} {bx : Array Value} {K N : Int} {S : ByteArray} {ve vr : Value} {es : List (Int × List Tr)} {fs : List Fd} {rows : List (List Value)} {bss : List (List Nat)} {w w' : World} (h : CpS n B b0 bt bx K N S ve vr es fs rows bss w)
  (hs : Sm w w' ([b0,b0 + 1,bt] ++ (blkOf vr ++ allB ve bss))) : CpS n B b0 bt bx K N S ve vr es fs rows bss w' :=
 ⟨h.row.sm (hs.mono fun k hk => by simp [hk]) fun _ _ _ hp hb => hp.sm hb,own_sm h.rst (hs.mono fun k hk => by simp [hk]),(hs bt (by simp)).trans h.bt,(hs b0 (by simp)).trans h.bx,(hs (b0 + 1) (by simp)).trans h.br⟩
theorem CpS.lt {n B b0 bt : Nat} {bx : Array Value} {K N : Int} {S : ByteArray} {ve vr : Value} {es : List (Int × List Tr)} {fs : List Fd} {rows : List (List Value)} {bss : List (List Nat)} {w : World} (h : CpS n B b0 bt bx K N S ve vr es fs rows bss w) {more : List Nat}
  (ap : Apt B w (([bt] ++ blkOf vr) ++ allB ve bss ++ more)) : ∀ k ∈ [b0,b0 + 1,bt] ++ (blkOf vr ++ allB ve bss),k < w.heap.size := fun k hk => by
 simp only [List.cons_append,List.nil_append,List.mem_cons,List.mem_append] at hk
 rcases hk with rfl | rfl | rfl | hk | hk
 ·exact h.bx.lt
 ·exact h.br.lt
 ·exact h.bt.lt
 ·exact (ap.2 k (by simp [hk])).2
 ·exact (ap.2 k (by simp [hk])).2
def CopyP (n : Nat) (t : Tr) (w : World) (e : Ending) (w' : World) : Prop := ∃ v bs,e = .returned v ∧ TrV n w.heap.size w' v t bs ∧ Below w.heap.size w w'
theorem TrO.open {n B : Nat} {w : World} {r : List Value} {t : Tr} {bs : List Nat} (h : TrO n B w r t bs) : ∃ a1 n1 c1 a2 n2 c2,r = [.int .i64 t.kind,.int .i64 t.n,.string t.s,.slice a1 n1 c1,.slice a2 n2 c2] := by
 cases n with
 | zero => exact h.elim
 | succ n =>
  obtain ⟨ve,vr,rows,bss,h1,h2,h3,h4,h5,h6,h7,rfl⟩ := h;obtain ⟨a1,c1,rfl⟩ := own_form h7.own;obtain ⟨a2,c2,rfl⟩ := own_form h6;exact ⟨_,_,_,_,_,_,h1⟩
theorem copy_step (n : Nat) (IH : ∀ t v w,TrIn n w v t → SmN n t → Calls Tryz.prog 8 #[v] w (CopyP n t w)) (t : Tr) (v : Value) (w : World) (ht : TrIn (n + 1) w v t) (hsm : SmN (n + 1) t) :
  Calls Tryz.prog 8 #[v] w (CopyP (n + 1) t w) := by
 obtain ⟨n',ve,vr,e0,rfl,ka,na,sa,fa,ra,ea⟩ := ht.open
 obtain rfl : n' = n := by omega
 clear e0 ht;obtain ⟨pe,ce,rfl,u1,u2, -⟩ := ea.open;obtain ⟨pr,cr,rfl,x1,x2, -⟩ := rest_holds ra;unfold maxLen at u2 x2;obtain ⟨-,hr40,he40, -,hsub⟩ := hsm;obtain ⟨Ke,hKe⟩ : ∃ K,t.es.length = K := ⟨_,rfl⟩;obtain ⟨Kr,hKr⟩ : ∃ K,t.rest.length = K := ⟨_,rfl⟩;have HSB : Hid (∀ e ∈ t.es,e.2.length ≤ 70 ∧ ∀ x ∈ e.2,SmN n' x) := hsub;rw [hKe] at u1 he40 ⊢;rw [hKr] at x1 hr40 ⊢;have EA : Hid (EnsIn n' w (.slice pe Ke ce) t.es) := hid (by rw [← hKe]; exact ea);have RA : Hid (RowG w (.slice pr Kr cr) 4 (fdRows t.rest)) := hid (by rw [← hKr]; exact ra);have HKe : Hid (t.es.length = Ke) := hKe;have HKr : Hid (t.rest.length = Kr) := hKr;have HFA : Hid (Is64 t.kind ∧ Is64 t.n ∧ t.s.size ≤ 140737488351232 ∧ Fd64 t.rest) := ⟨ka,na,sa,fa⟩;clear hKe hKr ea ra fa ka na sa hsub;obtain ⟨K,hK⟩ : ∃ K,t.kind = K := ⟨_,rfl⟩;obtain ⟨N,hN⟩ : ∃ K,t.n = K := ⟨_,rfl⟩;obtain ⟨S,hS⟩ : ∃ K,t.s = K := ⟨_,rfl⟩;rw [hK,hN,hS];have HKN : Hid (t.kind = K ∧ t.n = N ∧ t.s = S) := ⟨hK,hN,hS⟩;clear hK hN hS
 go_enter Tryz.func8,Tryz.ntmps8
 go_wp2_with fail;refine M_region (T := fun W => W.cell? ⟨w.heap.size,0,none⟩ = some (.int .i64 K) ∧ W.cell? ⟨w.heap.size,1,none⟩ = some (.int .i64 N) ∧ W.cell? ⟨w.heap.size,2,none⟩ = some (.string S) ∧ W.cell? ⟨w.heap.size,4,none⟩ = some (.slice pr Kr cr)) (m := 11) (by kernel_rfl) ?_;have HB0 : Hid (Below w.heap.size w ((w.alloc (.cells #[.int .i64 K,.int .i64 N,.string S,.slice pe Ke ce,.slice pr Kr cr] 30)).alloc (.cells #[.int .i64 0,.int .i64 0,.string ⟨#[]⟩,.slice none 0 0,.slice none 0 0] 30)).drew) := below_drewN 1 ((bra _).alloc (by simp) _);have HX0 : Hid (Blk ((w.alloc (.cells #[.int .i64 K,.int .i64 N,.string S,.slice pe Ke ce,.slice pr Kr cr] 30)).alloc (.cells #[.int .i64 0,.int .i64 0,.string ⟨#[]⟩,.slice none 0 0,.slice none 0 0] 30)).drew w.heap.size #[.int .i64 K,.int .i64 N,.string S,.slice pe Ke ce,.slice pr Kr cr] 30) := (Blk.new w _ _).below (below_drewN 1 (bra _))
 have HR0 : Hid (Blk ((w.alloc (.cells #[.int .i64 K,.int .i64 N,.string S,.slice pe Ke ce,.slice pr Kr cr] 30)).alloc (.cells #[.int .i64 0,.int .i64 0,.string ⟨#[]⟩,.slice none 0 0,.slice none 0 0] 30)).drew (w.heap.size + 1) #[.int .i64 0,.int .i64 0,.string ⟨#[]⟩,.slice none 0 0,.slice none 0 0] 30) := by
  have := Blk.new (w.alloc (.cells #[.int .i64 K,.int .i64 N,.string S,.slice pe Ke ce,.slice pr Kr cr] 30)) #[.int .i64 0,.int .i64 0,.string ⟨#[]⟩,.slice none 0 0,.slice none 0 0] 30;rw [show (w.alloc (.cells #[.int .i64 K,.int .i64 N,.string S,.slice pe Ke ce,.slice pr Kr cr] 30)).heap.size = w.heap.size + 1 by simp] at this;exact this
 have HS0 : Hid (((w.alloc (.cells #[.int .i64 K,.int .i64 N,.string S,.slice pe Ke ce,.slice pr Kr cr] 30)).alloc (.cells #[.int .i64 0,.int .i64 0,.string ⟨#[]⟩,.slice none 0 0,.slice none 0 0] 30)).drew.heap.size = w.heap.size + 2) := by show _ = _; simp [World.drew]
 generalize ((w.alloc (.cells #[.int .i64 K,.int .i64 N,.string S,.slice pe Ke ce,.slice pr Kr cr] 30)).alloc (.cells #[.int .i64 0,.int .i64 0,.string ⟨#[]⟩,.slice none 0 0,.slice none 0 0] 30)).drew = W0 at *;have hTb : ∀ W,Below W0.heap.size W0 W → W.cell? ⟨w.heap.size,0,none⟩ = some (.int .i64 K) ∧ W.cell? ⟨w.heap.size,1,none⟩ = some (.int .i64 N) ∧ W.cell? ⟨w.heap.size,2,none⟩ = some (.string S) ∧ W.cell? ⟨w.heap.size,4,none⟩ = some (.slice pr Kr cr) := fun W hW => ⟨(HX0.out.below hW).cell 0,(HX0.out.below hW).cell 1,(HX0.out.below hW).cell 2,(HX0.out.below hW).cell 4⟩
 obtain ⟨b0,hb0⟩ : ∃ n,w.heap.size = n := ⟨_,rfl⟩;rw [hb0] at HX0 HR0 HS0 hTb ⊢;have HBZ : Hid (w.heap.size = b0) := hb0;clear hb0;have hT := hTb W0 (Below.refl _ _);refine M_tk 0 7 (.pointer (some ⟨b0,0,none⟩)) (fun w' hw' => ?_) hT (bts 12 1) ?_
 ·obtain ⟨g0,g1,g2,g3⟩ := hw'; go_simp
 refine M_tk 2 9 (.pointer (some ⟨b0,1,none⟩)) (fun w' hw' => ?_) hT (bts 12 5) ?_
 ·obtain ⟨g0,g1,g2,g3⟩ := hw'; go_simp
 refine M_tk 4 11 (.pointer (some ⟨b0,2,none⟩)) (fun w' hw' => ?_) hT (bts 12 21) ?_
 ·obtain ⟨g0,g1,g2,g3⟩ := hw'; go_simp
 refine M_tk 6 13 (.pointer (some ⟨b0,4,none⟩)) (fun w' hw' => ?_) hT (bts 12 85) ?_
 ·obtain ⟨g0,g1,g2,g3⟩ := hw'; go_simp
 refine M_tk 1 8 (.int .i64 K) (fun w' hw' => ?_) hT (bts 12 87) ?_
 ·obtain ⟨g0,g1,g2,g3⟩ := hw'; go_simp
 refine M_tk 3 10 (.int .i64 N) (fun w' hw' => ?_) hT (bts 12 95) ?_
 ·obtain ⟨g0,g1,g2,g3⟩ := hw'; go_simp
 refine M_tk 5 12 (.string S) (fun w' hw' => ?_) hT (bts 12 127) ?_
 ·obtain ⟨g0,g1,g2,g3⟩ := hw'; go_simp
 refine M_tk 7 14 (.slice pr Kr cr) (fun w' hw' => ?_) hT (bts 12 255) ?_
 ·obtain ⟨g0,g1,g2,g3⟩ := hw'; go_simp
 have HRW : Hid (∀ W,Below W0.heap.size W0 W → Calls Tryz.prog 19 #[.slice pr Kr cr] W fun e w' => ∃ r,e = .returned r ∧ w'.ownsRow W.heap.size 79 4 r Kr (rawCells t.rest) ∧ Below W.heap.size W w') := fun W hW => by
  have := traws_any (RA.out.below (HB0.out.trans (hW.mono HB0.out.size))) (by have := HKr.out; omega);rw [HKr.out] at this;exact this
 have hAl : ∀ W : World,Below W.heap.size W (W.alloc (.cells #[.int .i64 0,.int .i64 0,.string ⟨#[]⟩,.slice none 0 0,.slice none 0 0] 30)) := fun W => bra _
 refine M_cab 8 10 9 15 3 16 19 #[.slice pr Kr cr] (fun W => .pointer (some ⟨W.heap.size,0,none⟩)) (fun W => W.alloc (.cells #[.int .i64 0,.int .i64 0,.string ⟨#[]⟩,.slice none 0 0,.slice none 0 0] 30)) (fun u => .agg #[.int .i64 K,.int .i64 N,.string S,.slice none 0 0,u]) (fun u => ∃ a c,u = .slice a Kr c)
  (fun u p W => ∃ bt,p = .pointer (some ⟨bt,0,none⟩) ∧ b0 + 2 ≤ bt ∧ Blk W bt #[.int .i64 0,.int .i64 0,.string ⟨#[]⟩,.slice none 0 0,.slice none 0 0] 30 ∧ W.ownsRow (b0 + 2) 79 4 u Kr (rawCells t.rest) ∧ u.ownBlock ≠ some bt ∧ Below W0.heap.size W0 W)
  rfl rfl rfl rfl rfl rfl (by decide) (by decide) (by decide) (by decide) (by kernel_rfl) (by kernel_rfl) (by kernel_rfl) (by kernel_rfl) (by kernel_rfl) (fun _ => rfl) (fun _ => rfl) (fun _ => rfl) (by kernel_rfl) (by kernel_rfl) (by kernel_rfl) (by kernel_rfl) (fun _ _ _ _ h => h) ?x1 ?x1' ?x2 ?hA ?hT' ?hB ?xk ?xk' ?_
 case x1 => go_simp
 case x1' => intro v W'; go_simp
 case x2 => intro a' W'; go_simp
 case hA =>
  refine (HRW.out W0 (Below.refl _ _)).mono ?_;rintro e W1 ⟨u,rfl,r3,r4⟩;have r5 : Below W0.heap.size W0 (W1.alloc (.cells #[.int .i64 0,.int .i64 0,.string ⟨#[]⟩,.slice none 0 0,.slice none 0 0] 30)) := r4.trans ((hAl W1).mono r4.size);have hs0 := HS0.out;exact ⟨u,rfl,own_form r3,hTb W1 r4,hTb _ r5,W1.heap.size,rfl,by have := r4.size; omega,Blk.new W1 _ _,own_base (own_below r3 (hAl W1)) (by omega),fun e => by have := (own_lt r3 e).2; omega,r5⟩
 case hT' => exact hTb _ (hAl W0)
 case hB =>
  refine (HRW.out _ (hAl W0)).mono ?_;rintro e W1 ⟨u,rfl,r3,r4⟩;have r5 : Below W0.heap.size W0 W1 := (hAl W0).trans (r4.mono (hAl W0).size);have hs0 := HS0.out;exact ⟨u,rfl,own_form r3,hTb W1 r5,W0.heap.size,rfl,by omega,(Blk.new W0 _ _).below r4,own_base r3 (by simp; omega),fun e => by have := (own_lt r3 e).1; simp at this; omega,r5⟩
 case xk => rintro u W' ⟨a,c,rfl⟩; go_simp
 case xk' => rintro u v W' ⟨a,c,rfl⟩; go_simp
 rintro u p W1 ⟨ua,uc,rfl⟩ _ ⟨bt,rfl,hbt,BT,ho,hnbt,hbel⟩;simp only [zsA,zsZ,zsS];have HO : Hid (W1.ownsRow (b0 + 2) 79 4 (.slice ua Kr uc) Kr (rawCells t.rest)) := ho;have HX1 := HX0.out.below hbel;have HR1 := HR0.out.below hbel;have hbw : Below w.heap.size w W1 := HB0.out.trans (hbel.mono HB0.out.size);obtain ⟨t0,t1,t2,t3,t4⟩ := cl5 BT;obtain ⟨z0,z1,z2,z3,z4⟩ := fz5 BT;refine M_st 11 (((((W1.setCell ⟨bt,0,none⟩ (.int .i64 K)).setCell ⟨bt,1,none⟩ (.int .i64 N)).setCell ⟨bt,2,none⟩ (.string S)).setCell ⟨bt,3,none⟩ (.slice none 0 0)).setCell ⟨bt,4,none⟩ (.slice ua Kr uc)) (bts 12 4095) rfl (by go_simp) ?_;refine M_done (by kernel_rfl) ?_ _
 have KS : Kp (fun k => k = bt) W1 (((((W1.setCell ⟨bt,0,none⟩ (.int .i64 K)).setCell ⟨bt,1,none⟩ (.int .i64 N)).setCell ⟨bt,2,none⟩ (.string S)).setCell ⟨bt,3,none⟩ (.slice none 0 0)).setCell ⟨bt,4,none⟩ (.slice ua Kr uc)) := by
  refine Kp.setCell ?_ (fun _ => by simp) _;refine Kp.setCell ?_ (fun _ => by simp) _;refine Kp.setCell ?_ (fun _ => by simp) _;refine Kp.setCell ?_ (fun _ => by simp) _;refine Kp.setCell ?_ (fun _ => by simp) _;exact Kp.refl _ _
 have BA : Blk (W1.setCell ⟨bt,0,none⟩ (.int .i64 K)) bt #[.int .i64 K,.int .i64 0,.string ⟨#[]⟩,.slice none 0 0,.slice none 0 0] 30 := BT.set 0 (.int .i64 K) rfl;have BB : Blk ((W1.setCell ⟨bt,0,none⟩ (.int .i64 K)).setCell ⟨bt,1,none⟩ (.int .i64 N)) bt #[.int .i64 K,.int .i64 N,.string ⟨#[]⟩,.slice none 0 0,.slice none 0 0] 30 := BA.set 1 (.int .i64 N) rfl;have BC : Blk (((W1.setCell ⟨bt,0,none⟩ (.int .i64 K)).setCell ⟨bt,1,none⟩ (.int .i64 N)).setCell ⟨bt,2,none⟩ (.string S)) bt #[.int .i64 K,.int .i64 N,.string S,.slice none 0 0,.slice none 0 0] 30 := BB.set 2 (.string S) rfl;have BD : Blk ((((W1.setCell ⟨bt,0,none⟩ (.int .i64 K)).setCell ⟨bt,1,none⟩ (.int .i64 N)).setCell ⟨bt,2,none⟩ (.string S)).setCell ⟨bt,3,none⟩ (.slice none 0 0)) bt #[.int .i64 K,.int .i64 N,.string S,.slice none 0 0,.slice none 0 0] 30 := BC.set 3 (.slice none 0 0) rfl;have BT2 : Blk (((((W1.setCell ⟨bt,0,none⟩ (.int .i64 K)).setCell ⟨bt,1,none⟩ (.int .i64 N)).setCell ⟨bt,2,none⟩ (.string S)).setCell ⟨bt,3,none⟩ (.slice none 0 0)).setCell ⟨bt,4,none⟩ (.slice ua Kr uc)) bt #[.int .i64 K,.int .i64 N,.string S,.slice none 0 0,.slice ua Kr uc] 30 := BD.set 4 (.slice ua Kr uc) rfl;clear BA BB BC BD
 have HO2 : (((((W1.setCell ⟨bt,0,none⟩ (.int .i64 K)).setCell ⟨bt,1,none⟩ (.int .i64 N)).setCell ⟨bt,2,none⟩ (.string S)).setCell ⟨bt,3,none⟩ (.slice none 0 0)).setCell ⟨bt,4,none⟩ (.slice ua Kr uc)).ownsRow (b0 + 2) 79 4 (.slice ua Kr uc) t.rest.length (rawCells t.rest) := by
  rw [HKr.out];exact own_kpV HO.out KS (fun k hk e => hnbt (by rw [hk,e]))
 have BX2 := HX1.kp KS (by omega);have BR2 := HR1.kp KS (by omega);have hb2 : Below w.heap.size w (((((W1.setCell ⟨bt,0,none⟩ (.int .i64 K)).setCell ⟨bt,1,none⟩ (.int .i64 N)).setCell ⟨bt,2,none⟩ (.string S)).setCell ⟨bt,3,none⟩ (.slice none 0 0)).setCell ⟨bt,4,none⟩ (.slice ua Kr uc)) := hbw.trans (KS.toBelow hbw.size (fun k e => by have := HBZ.out; omega));generalize (((((W1.setCell ⟨bt,0,none⟩ (.int .i64 K)).setCell ⟨bt,1,none⟩ (.int .i64 N)).setCell ⟨bt,2,none⟩ (.string S)).setCell ⟨bt,3,none⟩ (.slice none 0 0)).setCell ⟨bt,4,none⟩ (.slice ua Kr uc)) = W2 at *
 have HAP : Hid (Apt (b0 + 2) W2 (([bt] ++ blkOf (.slice ua Kr uc)) ++ allB (.slice none 0 0) [])) := by
  show Apt _ _ _
  have h1 : blkOf (.slice none 0 0) = [] := rfl;simp only [allB,h1,List.flatten_nil,List.append_nil];refine ⟨?_,fun k hk => ?_⟩
  ·rw [List.cons_append,List.nil_append,List.nodup_cons];refine ⟨fun h => hnbt (mem_blkOf.1 h),?_⟩;unfold blkOf; split <;> simp
  ·rcases List.mem_cons.1 hk with rfl | hk
   ·exact ⟨hbt,BT2.lt⟩
   ·exact own_lt HO2 (mem_blkOf.1 hk)
 have HCP : Hid (CpS n' (b0 + 2) b0 bt #[.int .i64 K,.int .i64 N,.string S,.slice pe Ke ce,.slice pr Kr cr] K N S (.slice none 0 0) (.slice ua Kr uc) (t.es.take 0) t.rest [] [] W2) := ⟨RowO.nil _ _ _ _ _,HO2,BT2,BX2,BR2⟩;clear t0 t1 t2 t3 t4 z0 z1 z2 z3 z4 KS HO HX1 HR1 hbw BT ho hbel hT hTb HRW HB0 HX0 HR0 HS0 hAl BT2 HO2 BX2 BR2 hnbt;go_wp2_with fail
 go_loopw [4] (fun iv wr => ∃ (i : Nat) (va : Option Addr) (vc : Nat) (rows : List (List Value)) (bss : List (List Nat)),iv = .int .i64 (i : Int) ∧ i ≤ Ke ∧ Hid (CpS n' (b0 + 2) b0 bt #[.int .i64 K,.int .i64 N,.string S,.slice pe Ke ce,.slice pr Kr cr] K N S (.slice va i vc) (.slice ua Kr uc) (t.es.take i) t.rest rows bss wr) ∧ Hid (Apt (b0 + 2) wr (([bt] ++ blkOf (.slice ua Kr uc)) ++ allB (.slice va i vc) bss)) ∧ Below w.heap.size w wr) (fun iv _ => Ke - (intOf iv).toNat)
 case atStart => exact ⟨0,none,0,[],[],rfl,by omega,HCP,HAP,hb2⟩
 case round =>
  clear HCP HAP hb2;obtain ⟨i,va,vc,rows,bss,rfl,hi,HCP,HAP,hbel⟩ := hrel;have q3 : wr.cell? ⟨b0,3,none⟩ = some (.slice pe Ke ce) := HCP.out.bx.cell 3;have hbtl := HCP.out.bt.lt
  by_cases hlt : i < Ke
  ·obtain ⟨x,hx⟩ : ∃ r,t.es[i]? = some r := ⟨_,List.getElem?_eq_getElem (by rw [HKe.out]; exact hlt)⟩;obtain ⟨ge,off,rfl,cc⟩ := EA.out.get hx;obtain ⟨vt,p0,p1,p2,p3⟩ := ens_at cc;obtain ⟨pt,ct,rfl,t1,t2, -⟩ := p3.open;unfold maxLen at t2;have HX : Hid (t.es[i]? = some x) := hx;have HSX : Hid (x.2.length ≤ 70 ∧ ∀ y ∈ x.2,SmN n' y) := HSB.out x (List.mem_of_getElem? hx);obtain ⟨xt,xl⟩ := x;simp only at p0 p1 p2 p3 t1 HSX;obtain ⟨Kt,hKt⟩ : ∃ K,xl.length = K := ⟨_,rfl⟩;rw [hKt] at p1 t1;have T1 : Hid (TrsIn n' w (.slice pt Kt ct) xl) := hid (by rw [← hKt]; exact p3);have HKt : Hid (xl.length = Kt) := hKt
   have hkt : Kt ≤ 70 := by rw [← hKt]; exact HSX.out.1
   have H64 : Hid (Is64 xt) := p2;have P1 : Hid (w.cell? ⟨ge,off + i * 2 + 1,none⟩ = some (.slice pt Kt ct)) := p1;have r0 := (hbel.cell (World.block_lt_of_cell? _ _ p0)).trans p0;clear hx cc p0 p1 p2 p3 hKt;go_wp2_with fail;have hbY : Below wr.heap.size wr (wr.alloc (.cells #[.int .i64 xt,.slice none 0 0] 69)) := bra _;have BY : Blk (wr.alloc (.cells #[.int .i64 xt,.slice none 0 0] 69)) wr.heap.size #[.int .i64 xt,.slice none 0 0] 69 := Blk.new wr _ _
   have HAPY : Hid (Apt (b0 + 2) (wr.alloc (.cells #[.int .i64 xt,.slice none 0 0] 69)) ((([bt] ++ blkOf (.slice ua Kr uc)) ++ allB (.slice va i vc) bss ++ [wr.heap.size]) ++ allB (.slice none 0 0) [])) := by
    show Apt _ _ _
    have h1 : allB (.slice none 0 0) [] = [] := rfl;rw [h1,List.append_nil];exact HAP.out.new (by omega) (by simp)
   have HCPY : Hid (CpS n' (b0 + 2) b0 bt #[.int .i64 K,.int .i64 N,.string S,.slice (some ⟨ge,off,none⟩) Ke ce,.slice pr Kr cr] K N S (.slice va i vc) (.slice ua Kr uc) (t.es.take i) t.rest rows bss (wr.alloc (.cells #[.int .i64 xt,.slice none 0 0] 69))) := HCP.out.sm (Sm.below hbY (HCP.out.lt (more := []) (by simpa using HAP.out)));have hbZ : Below w.heap.size w (wr.alloc (.cells #[.int .i64 xt,.slice none 0 0] 69)) := hbel.trans (hbY.mono hbel.size);have HYW : Hid (b0 + 2 ≤ wr.heap.size) := hid (by have := (HAP.out.2 bt (by simp)).1; omega);have HRY : Hid (RowO (TrO n' (b0 + 2)) (b0 + 2) 30 5 (wr.alloc (.cells #[.int .i64 xt,.slice none 0 0] 69)) (.slice none 0 0) (xl.take 0) [] []) := RowO.nil _ _ _ _ _;generalize (wr.alloc (.cells #[.int .i64 xt,.slice none 0 0] 69)) = WY at *;obtain ⟨by',hby⟩ : ∃ q,wr.heap.size = q := ⟨_,rfl⟩;rw [hby] at BY HAPY HYW ⊢;clear hby hbY HCP HAP hbel q3 r0 hbtl
   go_loopw [6] (fun iv wz => ∃ (j : Nat) (ta : Option Addr) (tc : Nat) (rows' : List (List Value)) (bss' : List (List Nat)),iv = .int .i64 (j : Int) ∧ j ≤ Kt ∧ Hid (RowO (TrO n' (b0 + 2)) (b0 + 2) 30 5 wz (.slice ta j tc) (xl.take j) rows' bss') ∧ Hid (Apt (b0 + 2) wz ((([bt] ++ blkOf (.slice ua Kr uc)) ++ allB (.slice va i vc) bss ++ [by']) ++ allB (.slice ta j tc) bss')) ∧ Hid (Blk wz by' #[.int .i64 xt,.slice ta j tc] 69) ∧ Hid (CpS n' (b0 + 2) b0 bt #[.int .i64 K,.int .i64 N,.string S,.slice (some ⟨ge,off,none⟩) Ke ce,.slice pr Kr cr] K N S (.slice va i vc) (.slice ua Kr uc) (t.es.take i) t.rest rows bss wz) ∧ Below w.heap.size w wz) (fun iv _ => Kt - (intOf iv).toNat)
   case atStart => exact ⟨0,none,0,[],[],rfl,by omega,HRY,HAPY,BY,HCPY,hbZ⟩
   case round =>
    clear HRY HAPY BY HCPY hbZ;obtain ⟨j,ta,tc,rows',bss',rfl,hj,HRY,HAP,BY,HCP,hbel⟩ := hrel;have q3 : wr.cell? ⟨b0,3,none⟩ = some (.slice (some ⟨ge,off,none⟩) Ke ce) := HCP.out.bx.cell 3;have p1 := (hbel.cell (World.block_lt_of_cell? _ _ P1.out)).trans P1.out
    by_cases hlt2 : j < Kt
    ·obtain ⟨x,hx⟩ : ∃ r,xl[j]? = some r := ⟨_,List.getElem?_eq_getElem (by rw [HKt.out]; exact hlt2)⟩;obtain ⟨g3,off3,rfl,k1⟩ := T1.out.get hx;obtain ⟨z1,n1,e1,z2,n2,e2,y0,y1,y2,y3,y4,y5⟩ := trs_get k1;have HX2 : Hid (xl[j]? = some x) := hx;have HSY : Hid (SmN n' x) := HSX.out.2 x (List.mem_of_getElem? hx);have HIN : Hid (TrIn n' w (.agg #[.int .i64 x.kind,.int .i64 x.n,.string x.s,.slice z1 n1 e1,.slice z2 n2 e2]) x) := y5;have HCE : Hid (w.cell? ⟨g3,off3 + j * 5,none⟩ = some (.int .i64 x.kind) ∧ w.cell? ⟨g3,off3 + j * 5 + 1,none⟩ = some (.int .i64 x.n) ∧ w.cell? ⟨g3,off3 + j * 5 + 2,none⟩ = some (.string x.s) ∧ w.cell? ⟨g3,off3 + j * 5 + 3,none⟩ = some (.slice z1 n1 e1) ∧ w.cell? ⟨g3,off3 + j * 5 + 4,none⟩ = some (.slice z2 n2 e2)) := ⟨y0,y1,y2,y3,y4⟩;clear y0 y1 y2 y3 y4 y5 k1 hx;go_wp2_with fail;clear q3 p1;refine M_region (T := fun W => W.cell? ⟨by',1,none⟩ = some (.slice ta j tc) ∧ W.cell? ⟨b0,3,none⟩ = some (.slice (some ⟨ge,off,none⟩) Ke ce) ∧ W.cell? ⟨ge,off + i * 2 + 1,none⟩ = some (.slice (some ⟨g3,off3,none⟩) Kt ct) ∧ W.cell? ⟨g3,off3 + j * 5,none⟩ = some (.int .i64 x.kind) ∧ W.cell? ⟨g3,off3 + j * 5 + 1,none⟩ = some (.int .i64 x.n) ∧ W.cell? ⟨g3,off3 + j * 5 + 2,none⟩ = some (.string x.s) ∧ W.cell? ⟨g3,off3 + j * 5 + 3,none⟩ = some (.slice z1 n1 e1) ∧ W.cell? ⟨g3,off3 + j * 5 + 4,none⟩ = some (.slice z2 n2 e2)) (m := 15) (by kernel_rfl) ?_;have hdr : Below wr.heap.size wr wr.drew := (Below.refl _ _).drew;have HSZ : Hid (wr.drew.heap.size = wr.heap.size) := hid (rfl);have HRYd : Hid (RowO (TrO n' (b0 + 2)) (b0 + 2) 30 5 wr.drew (.slice ta j tc) (xl.take j) rows' bss') := HRY.out.sm (fun _ _ => rfl) fun _ _ _ hp hb => hp.sm hb
     have HAPd : Hid (Apt (b0 + 2) wr.drew ((([bt] ++ blkOf (.slice ua Kr uc)) ++ allB (.slice va i vc) bss ++ [by']) ++ allB (.slice ta j tc) bss')) := HAP.out.mono (Nat.le_refl _)
     have BYd : Blk wr.drew by' #[.int .i64 xt,.slice ta j tc] 69 := BY.out
     have HCPd : Hid (CpS n' (b0 + 2) b0 bt #[.int .i64 K,.int .i64 N,.string S,.slice (some ⟨ge,off,none⟩) Ke ce,.slice pr Kr cr] K N S (.slice va i vc) (.slice ua Kr uc) (t.es.take i) t.rest rows bss wr.drew) := HCP.out.sm (fun _ _ => rfl);have hbd : Below w.heap.size w wr.drew := hbel.trans (hdr.mono hbel.size);generalize wr.drew = W0 at *;clear HRY HAP BY HCP hbel HSZ hdr
     have hTb : ∀ W,Below w.heap.size w W → Blk W by' #[.int .i64 xt,.slice ta j tc] 69 → Blk W b0 #[.int .i64 K,.int .i64 N,.string S,.slice (some ⟨ge,off,none⟩) Ke ce,.slice pr Kr cr] 30 → W.cell? ⟨by',1,none⟩ = some (.slice ta j tc) ∧ W.cell? ⟨b0,3,none⟩ = some (.slice (some ⟨ge,off,none⟩) Ke ce) ∧ W.cell? ⟨ge,off + i * 2 + 1,none⟩ = some (.slice (some ⟨g3,off3,none⟩) Kt ct) ∧ W.cell? ⟨g3,off3 + j * 5,none⟩ = some (.int .i64 x.kind) ∧ W.cell? ⟨g3,off3 + j * 5 + 1,none⟩ = some (.int .i64 x.n) ∧ W.cell? ⟨g3,off3 + j * 5 + 2,none⟩ = some (.string x.s) ∧ W.cell? ⟨g3,off3 + j * 5 + 3,none⟩ = some (.slice z1 n1 e1) ∧ W.cell? ⟨g3,off3 + j * 5 + 4,none⟩ = some (.slice z2 n2 e2) := fun W hW h1 h2 => by
      obtain ⟨y0,y1,y2,y3,y4⟩ := HCE.out;exact ⟨h1.cell 1,h2.cell 3,(hW.cell (World.block_lt_of_cell? _ _ P1.out)).trans P1.out,(hW.cell (World.block_lt_of_cell? _ _ y0)).trans y0,(hW.cell (World.block_lt_of_cell? _ _ y1)).trans y1,(hW.cell (World.block_lt_of_cell? _ _ y2)).trans y2,(hW.cell (World.block_lt_of_cell? _ _ y3)).trans y3,(hW.cell (World.block_lt_of_cell? _ _ y4)).trans y4⟩
     have hT := hTb W0 hbd BYd HCPd.out.bx;refine M_tk 0 42 (.pointer (some ⟨by',1,none⟩)) (fun w' hw' => ?_) hT (bts 16 1) ?_
     ·obtain ⟨f0,f1,f2,f3,f4,f5,f6,f7⟩ := hw'; go_simp
     refine M_tk 2 44 (.pointer (some ⟨b0,3,none⟩)) (fun w' hw' => ?_) hT (bts 16 5) ?_
     ·obtain ⟨f0,f1,f2,f3,f4,f5,f6,f7⟩ := hw'; go_simp
     refine M_tk 4 46 (.int .i64 (i : Int)) (fun w' hw' => ?_) hT (bts 16 21) ?_
     ·obtain ⟨f0,f1,f2,f3,f4,f5,f6,f7⟩ := hw'; go_simp
     refine M_tk 8 50 (.int .i64 (j : Int)) (fun w' hw' => ?_) hT (bts 16 277) ?_
     ·obtain ⟨f0,f1,f2,f3,f4,f5,f6,f7⟩ := hw'; go_simp
     refine M_tk 1 43 (.slice ta j tc) (fun w' hw' => ?_) hT (bts 16 279) ?_
     ·obtain ⟨f0,f1,f2,f3,f4,f5,f6,f7⟩ := hw'; go_simp
     refine M_tk 3 45 (.slice (some ⟨ge,off,none⟩) Ke ce) (fun w' hw' => ?_) hT (bts 16 287) ?_
     ·obtain ⟨f0,f1,f2,f3,f4,f5,f6,f7⟩ := hw'; go_simp
     refine M_tk 5 47 (.pointer (some ⟨ge,off + i * 2,none⟩)) (fun w' hw' => ?_) hT (bts 16 319) ?_
     ·obtain ⟨f0,f1,f2,f3,f4,f5,f6,f7⟩ := hw'; go_simp
     refine M_tk 6 48 (.pointer (some ⟨ge,off + i * 2 + 1,none⟩)) (fun w' hw' => ?_) hT (bts 16 383) ?_
     ·obtain ⟨f0,f1,f2,f3,f4,f5,f6,f7⟩ := hw'; go_simp
     refine M_tk 7 49 (.slice (some ⟨g3,off3,none⟩) Kt ct) (fun w' hw' => ?_) hT (bts 16 511) ?_
     ·obtain ⟨f0,f1,f2,f3,f4,f5,f6,f7⟩ := hw'; go_simp
     refine M_tk 9 51 (.pointer (some ⟨g3,off3 + j * 5,none⟩)) (fun w' hw' => ?_) hT (bts 16 1023) ?_
     ·obtain ⟨f0,f1,f2,f3,f4,f5,f6,f7⟩ := hw'; go_simp
     refine M_tk 10 52 (.agg #[.int .i64 x.kind,.int .i64 x.n,.string x.s,.slice z1 n1 e1,.slice z2 n2 e2]) (fun w' hw' => ?_) hT (bts 16 2047) ?_
     ·obtain ⟨f0,f1,f2,f3,f4,f5,f6,f7⟩ := hw'; go_simp
     refine M_cl 11 53 8 #[.agg #[.int .i64 x.kind,.int .i64 x.n,.string x.s,.slice z1 n1 e1,.slice z2 n2 e2]] (bts 16 4095) rfl (fun W => by go_simp) ?_;refine (IH x _ W0 (HIN.out.below hbd) HSY.out).mono ?_;rintro e W1 ⟨v,bs,rfl,⟨r,rfl,hO,hA⟩,hb1⟩;obtain ⟨a1,m1,c1,a2,m2,c2,rfl⟩ := hO.open;have hbw1 : Below w.heap.size w W1 := hbd.trans (hb1.mono hbd.size);have BY1 := BYd.below hb1;have HRY1 : Hid (RowO (TrO n' (b0 + 2)) (b0 + 2) 30 5 W1 (.slice ta j tc) (xl.take j) rows' bss') := HRYd.out.sm (Sm.below hb1 fun k hk => (HAPd.out.2 k (by simp only [List.mem_append]; exact .inr hk)).2) fun _ _ _ hp hb => hp.sm hb
     have HCP1 : Hid (CpS n' (b0 + 2) b0 bt #[.int .i64 K,.int .i64 N,.string S,.slice (some ⟨ge,off,none⟩) Ke ce,.slice pr Kr cr] K N S (.slice va i vc) (.slice ua Kr uc) (t.es.take i) t.rest rows bss W1) := HCPd.out.sm (Sm.below hb1 (HCPd.out.lt (more := [by'] ++ allB (.slice ta j tc) bss') (HAPd.out.of_count fun k => by simp only [List.count_append]; omega)))
     have hW0B : b0 + 2 ≤ W0.heap.size := by have := (HAPd.out.2 by' (by simp)); omega
     have HAP1 : Hid (Apt (b0 + 2) W1 ((([bt] ++ blkOf (.slice ua Kr uc)) ++ allB (.slice va i vc) bss ++ [by']) ++ (allB (.slice ta j tc) bss' ++ bs))) := (HAPd.out.append hA hW0B (Nat.le_refl _) hb1.size).of_count fun k => by simp only [List.count_append]; omega
     have HTO : Hid (TrO n' (b0 + 2) W1 [.int .i64 x.kind,.int .i64 x.n,.string x.s,.slice a1 m1 c1,.slice a2 m2 c2] x bs) := hO.base hW0B;have hT1 := hTb W1 hbw1 BY1 HCP1.out.bx;refine ⟨_,rfl,hT1,?_⟩;simp only [zsA,zsZ,zsS];clear HRYd HAPd BYd HCPd hbd hO hA hT HIN;have hal : Below W1.heap.size W1 (W1.alloc (.cells #[.int .i64 x.kind,.int .i64 x.n,.string x.s,.slice a1 m1 c1,.slice a2 m2 c2] 30)) := bra _;have hbw3 : Below w.heap.size w (W1.alloc (.cells #[.int .i64 x.kind,.int .i64 x.n,.string x.s,.slice a1 m1 c1,.slice a2 m2 c2] 30)) := hbw1.trans (hal.mono hbw1.size);have BE := Blk.new W1 #[.int .i64 x.kind,.int .i64 x.n,.string x.s,.slice a1 m1 c1,.slice a2 m2 c2] 30;have BY3 := BY1.below hal;have HRY3 : Hid (RowO (TrO n' (b0 + 2)) (b0 + 2) 30 5 (W1.alloc (.cells #[.int .i64 x.kind,.int .i64 x.n,.string x.s,.slice a1 m1 c1,.slice a2 m2 c2] 30)) (.slice ta j tc) (xl.take j) rows' bss') := HRY1.out.sm (Sm.below hal fun k hk => (HAP1.out.2 k (by simp only [List.mem_append]; exact .inr (.inl hk))).2) fun _ _ _ hp hb => hp.sm hb
     have HCP3 : Hid (CpS n' (b0 + 2) b0 bt #[.int .i64 K,.int .i64 N,.string S,.slice (some ⟨ge,off,none⟩) Ke ce,.slice pr Kr cr] K N S (.slice va i vc) (.slice ua Kr uc) (t.es.take i) t.rest rows bss (W1.alloc (.cells #[.int .i64 x.kind,.int .i64 x.n,.string x.s,.slice a1 m1 c1,.slice a2 m2 c2] 30))) := HCP1.out.sm (Sm.below hal (HCP1.out.lt (more := [by'] ++ (allB (.slice ta j tc) bss' ++ bs)) (HAP1.out.of_count fun k => by simp only [List.count_append]; omega)));have HAP3 : Hid (Apt (b0 + 2) (W1.alloc (.cells #[.int .i64 x.kind,.int .i64 x.n,.string x.s,.slice a1 m1 c1,.slice a2 m2 c2] 30)) ((([bt] ++ blkOf (.slice ua Kr uc)) ++ allB (.slice va i vc) bss ++ [by']) ++ (allB (.slice ta j tc) bss' ++ bs))) := HAP1.out.mono hal.size;have HTO3 : Hid (TrO n' (b0 + 2) (W1.alloc (.cells #[.int .i64 x.kind,.int .i64 x.n,.string x.s,.slice a1 m1 c1,.slice a2 m2 c2] 30)) [.int .i64 x.kind,.int .i64 x.n,.string x.s,.slice a1 m1 c1,.slice a2 m2 c2] x bs) := HTO.out.sm (Sm.below hal fun k hk => (HAP1.out.2 k (by simp only [List.mem_append]; exact .inr (.inr hk))).2)
     have hW3B : b0 + 2 ≤ (W1.alloc (.cells #[.int .i64 x.kind,.int .i64 x.n,.string x.s,.slice a1 m1 c1,.slice a2 m2 c2] 30)).heap.size := by have := hb1.size; simp; omega
     have hT3 := hTb _ hbw3 BY3 HCP3.out.bx;obtain ⟨bz,hbz⟩ : ∃ n,W1.heap.size = n := ⟨_,rfl⟩;refine M_rn 12 54 (.slice (some ⟨W1.heap.size,0,none⟩) 1 1) ((W1.alloc (.cells #[.int .i64 x.kind,.int .i64 x.n,.string x.s,.slice a1 m1 c1,.slice a2 m2 c2] 30))) (bts 16 8191) rfl (by go_simp) hT3 ?_;simp only [zsA,zsZ,zsS];rw [hbz] at BE ⊢;generalize (W1.alloc (.cells #[.int .i64 x.kind,.int .i64 x.n,.string x.s,.slice a1 m1 c1,.slice a2 m2 c2] 30)) = W3 at *;clear hbz hal HRY1 HCP1 HAP1 HTO BY1 hbw1 hT1 hb1;obtain ⟨i0,hi0,hz0,hz1,hz2⟩ := info_parts infoTr;have hown := HRY3.out.own
     have hlj : (xl.take j).length = j := by rw [List.length_take,HKt.out]; omega
     rw [hlj] at hown
     obtain ⟨v',W4,r1,r2,r3,_,r5⟩ := run_append_own_at W3 (b0 + 2) 67 67 30 i0 _ 5 80 Tryz.underlying67 hi0 hz0 hz1 hz2 rfl (by decide) (.slice ta j tc) j _ hown ⟨bz,0,none⟩ 1 1 [.int .i64 x.kind,.int .i64 x.n,.string x.s,.slice a1 m1 c1,.slice a2 m2 c2] rfl (fun j u hu => by
      have := BE.cell j;rw [Addr.add_lit,Nat.zero_add,this]
      simpa using hu) (fun u hu => by
      simp only [List.mem_cons,List.not_mem_nil,or_false] at hu
      rcases hu with rfl | rfl | rfl | rfl | rfl <;> rfl) (by unfold maxLen; omega) (by omega) hW3B
     have HRUN : Hid _ := r1
     have HRY4 : Hid (RowO (TrO n' (b0 + 2)) (b0 + 2) 30 5 W4 v' (xl.take (j + 1)) (rows' ++ [[.int .i64 x.kind,.int .i64 x.n,.string x.s,.slice a1 m1 c1,.slice a2 m2 c2]]) (bss' ++ [bs])) := by
      show RowO _ _ _ _ _ _ _ _ _
      rw [take_atC HX2.out];exact HRY3.out.push (HAP3.out.of_count fun k => by simp only [List.count_append]; omega) (by rw [hlj]; exact r2) r3 HTO3.out rfl fun _ _ _ hp hb => hp.sm hb
     have HAP4 : Hid (Apt (b0 + 2) W4 ((([bt] ++ blkOf (.slice ua Kr uc)) ++ allB (.slice va i vc) bss ++ [by']) ++ allB v' (bss' ++ [bs]))) := HAP3.out.push r5 r2 r3.size hW3B;have hno : ∀ k ∈ (([bt] ++ blkOf (.slice ua Kr uc)) ++ allB (.slice va i vc) bss ++ [by']),k ∉ blkOf (.slice ta j tc) := fun k hk hq => HAP3.out.apart k hk (by simp [allB,hq])
     have HCP4 : Hid (CpS n' (b0 + 2) b0 bt #[.int .i64 K,.int .i64 N,.string S,.slice (some ⟨ge,off,none⟩) Ke ce,.slice pr Kr cr] K N S (.slice va i vc) (.slice ua Kr uc) (t.es.take i) t.rest rows bss W4) := HCP3.out.sm (grown_sm r3 (HCP3.out.lt (more := [by'] ++ (allB (.slice ta j tc) bss' ++ bs)) (HAP3.out.of_count fun k => by simp only [List.count_append]; omega)) fun k hk hq => by
      have h9 := own_lt hown (mem_blkOf.1 hq);simp only [List.cons_append,List.nil_append,List.mem_cons] at hk
      rcases hk with rfl | rfl | rfl | hk
      ·omega
      ·omega
      ·exact hno _ (by simp) hq
      ·exact hno k (by simp only [List.mem_append] at hk ⊢; rcases hk with hk | hk <;> simp [hk]) hq)
     have BY4 : Blk W4 by' #[.int .i64 xt,.slice ta j tc] 69 := (r3.block by' BY3.lt (fun e => hno by' (by simp) (mem_blkOf.2 e.symm))).trans BY3
     have hbw4 : Below w.heap.size w W4 := hbw3.grown r3 hbw3.size (fun k hk => by have := (own_lt hown hk).1; have := HBZ.out; omega);have hT4 := hTb W4 hbw4 BY4 HCP4.out.bx;obtain ⟨na,nc,hv'⟩ := own_form r2;subst hv';clear r1 r2 r3 r5 hown HRY3 HAP3 HCP3 HTO3 BY3 hbw3 hT3 BE hno;refine M_rn 13 55 (.slice na (j + 1) nc) (W4) (bts 16 16383) rfl (append_run rfl rfl rfl HRUN.out) hT4 ?_;simp only [zsA,zsZ,zsS];clear HRUN;refine M_tk 14 56 (.pointer (some ⟨by',1,none⟩)) (fun w' hw' => ?_) hT4 (bts 16 32767) ?_
     ·obtain ⟨f0,f1,f2,f3,f4,f5,f6,f7⟩ := hw'; go_simp
     have s1 := (BY4.cell 1).trans rfl;have s2 := BY4.froz 1;refine M_st 15 (W4.setCell ⟨by',1,none⟩ (.slice na (j + 1) nc)) (bts 16 65535) rfl (by go_simp) ?_;refine M_done (by kernel_rfl) ?_ _
     have KS : Kp (fun q => q = by') W4 (W4.setCell ⟨by',1,none⟩ (.slice na (j + 1) nc)) := by
      refine Kp.setCell ?_ (fun _ => by simp) _;exact Kp.refl _ _
     have hsmY : ∀ bs : List Nat,(∀ k ∈ bs,k < W4.heap.size) → (∀ k ∈ bs,k ≠ by') → Sm W4 (W4.setCell ⟨by',1,none⟩ (.slice na (j + 1) nc)) bs := fun bs h1 h2 k hk => KS.block k (h1 k hk) (h2 k hk)
     have BY5 : Hid (Blk (W4.setCell ⟨by',1,none⟩ (.slice na (j + 1) nc)) by' #[.int .i64 xt,.slice na (j + 1) nc] 69) := BY4.set 1 _ rfl
     have hnb : ∀ k ∈ (([bt] ++ blkOf (.slice ua Kr uc)) ++ allB (.slice va i vc) bss) ++ allB (.slice na (j + 1) nc) (bss' ++ [bs]),k ≠ by' := fun k hk e => by
      subst e;exact (HAP4.out.of_count (cs := ((([bt] ++ blkOf (.slice ua Kr uc)) ++ allB (.slice va i vc) bss) ++ allB (.slice na (j + 1) nc) (bss' ++ [bs])) ++ [k]) fun q => by simp only [List.count_append]; omega).apart k hk (by simp)
     have HRY5 : Hid (RowO (TrO n' (b0 + 2)) (b0 + 2) 30 5 (W4.setCell ⟨by',1,none⟩ (.slice na (j + 1) nc)) (.slice na (j + 1) nc) (xl.take (j + 1)) (rows' ++ [[.int .i64 x.kind,.int .i64 x.n,.string x.s,.slice a1 m1 c1,.slice a2 m2 c2]]) (bss' ++ [bs])) := HRY4.out.sm (hsmY _ (fun k hk => (HAP4.out.2 k (List.mem_append.2 (.inr hk))).2) fun k hk => hnb k (List.mem_append.2 (.inr hk))) fun _ _ _ hp hb => hp.sm hb
     have HAP5 : Hid (Apt (b0 + 2) (W4.setCell ⟨by',1,none⟩ (.slice na (j + 1) nc)) ((([bt] ++ blkOf (.slice ua Kr uc)) ++ allB (.slice va i vc) bss ++ [by']) ++ allB (.slice na (j + 1) nc) (bss' ++ [bs]))) := HAP4.out.mono KS.size
     have hbyB : b0 + 2 ≤ by' := (HAP4.out.2 by' (by simp)).1
     have HCP5 : Hid (CpS n' (b0 + 2) b0 bt #[.int .i64 K,.int .i64 N,.string S,.slice (some ⟨ge,off,none⟩) Ke ce,.slice pr Kr cr] K N S (.slice va i vc) (.slice ua Kr uc) (t.es.take i) t.rest rows bss (W4.setCell ⟨by',1,none⟩ (.slice na (j + 1) nc))) := HCP4.out.sm (hsmY _ (HCP4.out.lt (more := [by'] ++ allB (.slice na (j + 1) nc) (bss' ++ [bs])) (HAP4.out.of_count fun k => by simp only [List.count_append]; omega)) fun k hk => by
      simp only [List.cons_append,List.nil_append,List.mem_cons] at hk
      rcases hk with rfl | rfl | rfl | hk
      ·omega
      ·omega
      ·exact hnb _ (by simp)
      ·exact hnb k (by simp only [List.mem_append] at hk ⊢; rcases hk with hk | hk <;> simp [hk]))
     have hbw5 : Below w.heap.size w (W4.setCell ⟨by',1,none⟩ (.slice na (j + 1) nc)) := hbw4.trans (KS.toBelow hbw4.size (fun q e => by have := HBZ.out; omega));generalize (W4.setCell ⟨by',1,none⟩ (.slice na (j + 1) nc)) = W5 at *;clear s1 s2 KS BY4 HRY4 HAP4 HCP4 hbw4 hT4 hTb hsmY hnb HCE HSY;go_wp2_with fail
     go_roundw
     case rel => exact ⟨j + 1,_,_,_,_,by go_num,by omega,HRY5,HAP5,BY5,HCP5,hbw5⟩
     case measure => simp [intOf]; omega
    ·obtain rfl : j = Kt := by omega
     have HRYF : Hid (RowO (TrO n' (b0 + 2)) (b0 + 2) 30 5 wr (.slice ta j tc) xl rows' bss') := by
      have := HRY.out;rw [List.take_of_length_le (by rw [HKt.out]; omega)] at this;exact this
     have w3 : wr.cell? ⟨bt,3,none⟩ = some (.slice va i vc) := HCP.out.bt.cell 3;have w0' : wr.cell? ⟨by',0,none⟩ = some (.int .i64 xt) := BY.out.cell 0;have w1' : wr.cell? ⟨by',1,none⟩ = some (.slice ta j tc) := BY.out.cell 1;have hal : Below wr.heap.size wr (wr.alloc (.cells #[.int .i64 xt,.slice ta j tc] 69)) := bra _;have BE : Blk (wr.alloc (.cells #[.int .i64 xt,.slice ta j tc] 69)) wr.heap.size #[.int .i64 xt,.slice ta j tc] 69 := Blk.new wr _ _
     have HAP9 : Hid (Apt (b0 + 2) (wr.alloc (.cells #[.int .i64 xt,.slice ta j tc] 69)) (([bt] ++ blkOf (.slice ua Kr uc)) ++ (allB (.slice va i vc) bss ++ allB (.slice ta j tc) bss'))) := (HAP.out.mono hal.size).of_count fun k => by simp only [List.count_append]; omega
     have HCP9 : Hid (CpS n' (b0 + 2) b0 bt #[.int .i64 K,.int .i64 N,.string S,.slice (some ⟨ge,off,none⟩) Ke ce,.slice pr Kr cr] K N S (.slice va i vc) (.slice ua Kr uc) (t.es.take i) t.rest rows bss (wr.alloc (.cells #[.int .i64 xt,.slice ta j tc] 69))) := HCP.out.sm (Sm.below hal (HCP.out.lt (more := [by'] ++ allB (.slice ta j tc) bss') (HAP.out.of_count fun k => by simp only [List.count_append]; omega)));have HEN9 : Hid (EtO (TrO n' (b0 + 2)) (b0 + 2) (wr.alloc (.cells #[.int .i64 xt,.slice ta j tc] 69)) [.int .i64 xt,.slice ta j tc] (xt,xl) (allB (.slice ta j tc) bss')) := ⟨_,rows',bss',rfl,H64.out,HRYF.out.sm (Sm.below hal fun k hk => (HAP.out.2 k (List.mem_append.2 (.inr hk))).2) fun _ _ _ hp hb => hp.sm hb,rfl⟩;have hbw9 : Below w.heap.size w (wr.alloc (.cells #[.int .i64 xt,.slice ta j tc] 69)) := hbel.trans (hal.mono hbel.size)
     have hW9B : b0 + 2 ≤ (wr.alloc (.cells #[.int .i64 xt,.slice ta j tc] 69)).heap.size := by have := (HAP.out.2 bt (by simp)); have := hal.size; omega
     have HRUN9 : Hid (∃ v' W4,(Builtin.append_ #[27,27] 27 #[.slice va i vc,.slice (some ⟨wr.heap.size,0,none⟩) 1 1]).run Tryz.prog (wr.alloc (.cells #[.int .i64 xt,.slice ta j tc] 69)) = .ok v' W4 ∧ W4.ownsRow (b0 + 2) 69 2 v' (i + 1) (rows.flatten ++ [.int .i64 xt,.slice ta j tc]) ∧ (wr.alloc (.cells #[.int .i64 xt,.slice ta j tc] 69)).grownBy W4 (Value.slice va i vc).ownBlock ∧ (v'.ownBlock = (Value.slice va i vc).ownBlock ∨ v'.ownBlock = some (wr.alloc (.cells #[.int .i64 xt,.slice ta j tc] 69)).heap.size)) := by
      obtain ⟨i0,hi0,hz0,hz1,hz2⟩ := info_parts infoEt;have hown := HCP9.out.row.own;rw [show (t.es.take i).length = i by rw [List.length_take,HKe.out]; omega] at hown
      obtain ⟨v',W4,r1,r2,r3,_,r5⟩ := run_append_own_at (wr.alloc (.cells #[.int .i64 xt,.slice ta j tc] 69)) (b0 + 2) 27 27 69 i0 _ 2 32 Tryz.underlying27 hi0 hz0 hz1 hz2 rfl (by decide) (.slice va i vc) i _ hown ⟨wr.heap.size,0,none⟩ 1 1 [.int .i64 xt,.slice ta j tc] rfl (fun j u hu => by
       have := BE.cell j;rw [Addr.add_lit,Nat.zero_add,this]
       simpa using hu) (fun u hu => by
       simp only [List.mem_cons,List.not_mem_nil,or_false] at hu
       rcases hu with rfl | rfl <;> rfl) (by unfold maxLen; omega) (by omega) hW9B
      exact ⟨v',W4,r1,r2,r3,r5⟩
     obtain ⟨v',W4,r1,r2,r3,r5⟩ := HRUN9.out
     have hli : (t.es.take i).length = i := by rw [List.length_take,HKe.out]; omega
     have HROW4 : Hid (RowO (EtO (TrO n' (b0 + 2)) (b0 + 2)) (b0 + 2) 69 2 W4 v' (t.es.take (i + 1)) (rows ++ [[.int .i64 xt,.slice ta j tc]]) (bss ++ [allB (.slice ta j tc) bss'])) := by
      show RowO _ _ _ _ _ _ _ _ _
      rw [take_atC HX.out];exact HCP9.out.row.push (HAP9.out.of_count fun k => by simp only [List.count_append]; omega) (by rw [hli]; exact r2) r3 HEN9.out rfl fun _ _ _ hp hb => hp.sm hb
     have HAP4 : Hid (Apt (b0 + 2) W4 (([bt] ++ blkOf (.slice ua Kr uc)) ++ allB v' (bss ++ [allB (.slice ta j tc) bss']))) := HAP9.out.push r5 r2 r3.size hW9B;have hno : ∀ k ∈ [bt] ++ blkOf (.slice ua Kr uc),k ∉ blkOf (.slice va i vc) := fun k hk hq => HAP9.out.apart k hk (by simp [allB,hq])
     have HLO : Hid (∀ k,(Value.slice va i vc).ownBlock = some k → b0 + 2 ≤ k) := fun k hk => (own_lt HCP9.out.row.own hk).1
     have hsm4 : ∀ bs : List Nat,(∀ k ∈ bs,k < (wr.alloc (.cells #[.int .i64 xt,.slice ta j tc] 69)).heap.size) → (∀ k ∈ bs,k ∉ blkOf (.slice va i vc)) → Sm (wr.alloc (.cells #[.int .i64 xt,.slice ta j tc] 69)) W4 bs := fun bs h1 h2 => grown_sm r3 h1 h2
     have BT4 : Blk W4 bt #[.int .i64 K,.int .i64 N,.string S,.slice va i vc,(.slice ua Kr uc)] 30 := (hsm4 [bt] (by have := HCP9.out.bt.lt; simpa using this) (by intro k hk; exact hno k (by simp at hk; simp [hk])) bt (by simp)).trans HCP9.out.bt;have BX4 : Blk W4 b0 #[.int .i64 K,.int .i64 N,.string S,.slice (some ⟨ge,off,none⟩) Ke ce,.slice pr Kr cr] 30 := (hsm4 [b0] (by have := HCP9.out.bx.lt; simpa using this) (by intro k hk hq; simp at hk; have := HLO.out k (mem_blkOf.1 hq); omega) b0 (by simp)).trans HCP9.out.bx;have BR4 : Blk W4 (b0 + 1) #[.int .i64 0,.int .i64 0,.string ⟨#[]⟩,.slice none 0 0,.slice none 0 0] 30 := (hsm4 [b0 + 1] (by have := HCP9.out.br.lt; simpa using this) (by intro k hk hq; simp at hk; have := HLO.out k (mem_blkOf.1 hq); omega) (b0 + 1) (by simp)).trans HCP9.out.br;have HO4 : Hid (W4.ownsRow (b0 + 2) 79 4 (.slice ua Kr uc) t.rest.length (rawCells t.rest)) := own_sm HCP9.out.rst (hsm4 _ (fun k hk => (own_lt HCP9.out.rst (mem_blkOf.1 hk)).2) fun k hk => hno k (by simp [hk]));have hbw4 : Below w.heap.size w W4 := hbw9.grown r3 hbw9.size (fun k hk => by have := HLO.out k hk; have := HBZ.out; omega);obtain ⟨na,nc,hv'⟩ := own_form r2;subst hv';have s3 := (BT4.cell 3).trans rfl;have s4 := BT4.froz 3;clear r2 r3 r5 hsm4 hno HRUN9 HAP9 HCP9 HEN9 hW9B hbw9 HRY HAP BY HCP hbel BE
     go_wp2_with (first | (at_builtin; refine wpList_ran rfl (append_run rfl rfl rfl r1) ?_) | fail)
     clear w3 w0' w1' r1 hal q3 p1;go_wp2_with fail
     have KS : Kp (fun q => q = bt) W4 (W4.setCell ⟨bt,3,none⟩ (.slice na (i + 1) nc)) := by
      refine Kp.setCell ?_ (fun _ => by simp) _;exact Kp.refl _ _
     have hnb : ∀ k ∈ blkOf (.slice ua Kr uc) ++ allB (.slice na (i + 1) nc) (bss ++ [allB (.slice ta j tc) bss']),k ≠ bt := fun k hk e => by
      subst e;exact (HAP4.out.of_count (cs := [k] ++ (blkOf (.slice ua Kr uc) ++ allB (.slice na (i + 1) nc) (bss ++ [allB (.slice ta j tc) bss']))) fun q => by simp only [List.count_append]; omega).apart k (by simp) hk
     have hsm5 : ∀ bs : List Nat,(∀ k ∈ bs,k < W4.heap.size) → (∀ k ∈ bs,k ≠ bt) → Sm W4 (W4.setCell ⟨bt,3,none⟩ (.slice na (i + 1) nc)) bs := fun bs h1 h2 k hk => KS.block k (h1 k hk) (h2 k hk)
     have HCP5 : Hid (CpS n' (b0 + 2) b0 bt #[.int .i64 K,.int .i64 N,.string S,.slice (some ⟨ge,off,none⟩) Ke ce,.slice pr Kr cr] K N S (.slice na (i + 1) nc) (.slice ua Kr uc) (t.es.take (i + 1)) t.rest (rows ++ [[.int .i64 xt,.slice ta j tc]]) (bss ++ [allB (.slice ta j tc) bss']) (W4.setCell ⟨bt,3,none⟩ (.slice na (i + 1) nc))) :=
      ⟨HROW4.out.sm (hsm5 _ (fun k hk => (HAP4.out.2 k (List.mem_append.2 (.inr hk))).2) fun k hk => hnb k (List.mem_append.2 (.inr hk))) fun _ _ _ hp hb => hp.sm hb,own_sm HO4.out (hsm5 _ (fun k hk => (own_lt HO4.out (mem_blkOf.1 hk)).2) fun k hk => hnb k (List.mem_append.2 (.inl hk))),BT4.set 3 _ rfl,BX4.kp KS (by omega),BR4.kp KS (by omega)⟩
     have HAP5 : Hid (Apt (b0 + 2) (W4.setCell ⟨bt,3,none⟩ (.slice na (i + 1) nc)) (([bt] ++ blkOf (.slice ua Kr uc)) ++ allB (.slice na (i + 1) nc) (bss ++ [allB (.slice ta j tc) bss']))) := HAP4.out.mono KS.size;have hbw5 : Below w.heap.size w (W4.setCell ⟨bt,3,none⟩ (.slice na (i + 1) nc)) := hbw4.trans (KS.toBelow hbw4.size (fun q e => by have := HBZ.out; omega))
     go_roundw
     case rel => exact ⟨i + 1,_,_,_,_,by go_num,by omega,HCP5,HAP5,hbw5⟩
     case measure => simp [intOf]; omega
  ·obtain rfl : i = Ke := by omega
   obtain ⟨s0,s1,s2,s3,s4⟩ := cl5 HCP.out.bt;obtain ⟨y0,y1,y2,y3,y4⟩ := cl5 HCP.out.br;obtain ⟨z0,z1,z2,z3,z4⟩ := fz5 HCP.out.br;go_wp2_with fail
   have KS : Kp (fun q => q = b0 + 1) wr (((((wr.setCell ⟨b0 + 1,0,none⟩ (.int .i64 K)).setCell ⟨b0 + 1,1,none⟩ (.int .i64 N)).setCell ⟨b0 + 1,2,none⟩ (.string S)).setCell ⟨b0 + 1,3,none⟩ (.slice va i vc)).setCell ⟨b0 + 1,4,none⟩ (.slice ua Kr uc)) := by
    refine Kp.setCell ?_ (fun _ => by simp) _;refine Kp.setCell ?_ (fun _ => by simp) _;refine Kp.setCell ?_ (fun _ => by simp) _;refine Kp.setCell ?_ (fun _ => by simp) _;refine Kp.setCell ?_ (fun _ => by simp) _;exact Kp.refl _ _
   refine bodyPost_ret (results_cell rfl _ _ _ ⟨b0 + 1,0,none⟩ (.agg #[.int .i64 K,.int .i64 N,.string S,.slice va i vc,(.slice ua Kr uc)]) (by go_simp) (by go_simp)) rfl ?_;have hrow := HCP.out.row;rw [List.take_of_length_le (by rw [HKe.out]; omega)] at hrow;have hsm : Sm wr (((((wr.setCell ⟨b0 + 1,0,none⟩ (.int .i64 K)).setCell ⟨b0 + 1,1,none⟩ (.int .i64 N)).setCell ⟨b0 + 1,2,none⟩ (.string S)).setCell ⟨b0 + 1,3,none⟩ (.slice va i vc)).setCell ⟨b0 + 1,4,none⟩ (.slice ua Kr uc)) (blkOf (.slice ua Kr uc) ++ allB (.slice va i vc) bss) := fun k hk => KS.block k (HAP.out.2 k (by simp only [List.mem_append] at hk ⊢; rcases hk with hk | hk <;> simp [hk])).2 (by have := (HAP.out.2 k (by simp only [List.mem_append] at hk ⊢; rcases hk with hk | hk <;> simp [hk])).1; omega)
   obtain ⟨f1,f2,f3,f4⟩ := HFA.out;have hbz := HBZ.out;refine ⟨_,blkOf (.slice ua Kr uc) ++ allB (.slice va i vc) bss,rfl,⟨_,rfl,TrO.base (B := b0 + 2) ⟨_,_,rows,bss,by rw [HKN.out.1,HKN.out.2.1,HKN.out.2.2],f1,f2,f3,f4,own_sm HCP.out.rst (hsm.mono fun k hk => List.mem_append.2 (.inl hk)),hrow.sm (hsm.mono fun k hk => List.mem_append.2 (.inr hk)) (fun _ _ _ hp hb => hp.sm hb),rfl⟩ (by omega),?_⟩,?_⟩
   ·exact ((HAP.out.of_count fun k => by simp only [List.count_append]; omega).mono KS.size).base (by omega)
   ·exact hbel.trans (KS.toBelow hbel.size (fun q e => by omega))
theorem copy_any : ∀ (n : Nat) (t : Tr) (v : Value) (w : World),TrIn n w v t → SmN n t → Calls Tryz.prog 8 #[v] w (CopyP n t w)
 | 0,t,v,w,h,_ => by obtain ⟨r,_,h⟩ := h; exact h.elim
 | n + 1,t,v,w,h,hs => copy_step n (fun t v w h hs => copy_any n t v w h hs) t v w h hs
theorem key_any (s : ByteArray) (w : World) :
  Calls Tryz.prog 100 #[.string s] w fun e w' => e = .returned (.bool (keyB s)) ∧ w' = w := by
 go_enter Tryz.func100,Tryz.ntmps100
 go_wp2
 all_goals
  go_ret;refine ⟨ret_bool ?_,rfl⟩
  first | (simp [keyB, *]; done) | simp_all
theorem count_any (s : ByteArray) (w : World) (hs : s.size ≤ 140737488351232) :
  Calls Tryz.prog 99 #[.string s] w fun e w' => e = .returned (.int .i64 (countN s.data.toList)) ∧ Below w.heap.size w w' := by
 go_enter Tryz.func99,Tryz.ntmps99
 go_wp2
 go_loopw [3] (fun n wr => ∃ (pos : Nat) (acc : List Nat),wr = w.iter s pos ∧ n = .int .i64 acc.length ∧ acc.length ≤ pos ∧ Hid (Gone s.data.toList pos acc)) (fun _ wr => s.size - wr.iterPos w.heap.size)
 case atStart => exact ⟨0,[],rfl,rfl,by simp,Gone.start _⟩
 case round =>
  obtain ⟨pos,acc,rfl,rfl,hle,H⟩ := hrel
  by_cases hp : pos < s.size
  ·obtain ⟨c,k,hd,h1,h2⟩ := dec_at s pos hp
   have hnx : ∀ ty,(Instr.next (.pointer (some ⟨w.heap.size,0,none⟩)) true ty).run Tryz.prog (w.iter s pos) = .ok (.tuple #[.bool true,.int .i64 (pos : Int),.int .i32 (c : Int)]) (w.iter s (pos + k)) := by
    intro ty;have := run_next_any (P := Tryz.prog) w s pos ty hp;rw [hd] at this;exact this
   have H1 : Hid (standsB (s.data.toList.drop pos) c = true → nxL (s.data.toList.drop pos) = some (c,k)) := h1;have H2 : Hid (standsB (s.data.toList.drop pos) c = false → nxL (s.data.toList.drop pos) = none) := h2;clear hd h1 h2;go_wp2_with fail;refine (stands_any s _ _ _ hs (by omega) (by omega)).mono ?_;rintro e w' ⟨rfl,rfl⟩;rw [Int.toNat_natCast]
   cases hst : standsB (s.data.toList.drop pos) c with
   | false =>
    go_wp2
    go_ret;exact ⟨ret_int (by unfold countN; rw [H.out.bad (by rw [len_data]; exact hp) (H2.out hst)]; rfl),below_iter _ _ _⟩
   | true =>
    have HN := H1.out hst;have hk : 1 ≤ k := (nxL_some _ _ _ HN).2.2.2.1;have HG : Hid (Gone s.data.toList (pos + k) (acc ++ [c])) := H.out.step HN;clear HN
    go_wp2
    go_roundw
    case rel => exact ⟨pos + k,acc ++ [c],rfl,by simp,by simp; omega,HG⟩
    case measure => simp; omega
  ·have hnx : ∀ ty,(Instr.next (.pointer (some ⟨w.heap.size,0,none⟩)) true ty).run Tryz.prog (w.iter s pos) = _ := fun ty => run_next_end w s pos ty hp
   go_wp2
   go_ret;exact ⟨ret_int (by unfold countN; rw [H.out.done (by rw [len_data]; omega)]; rfl),below_iter _ _ _⟩
theorem nameB_off (s : ByteArray) {pos c k : Nat} {acc : List Nat} (h : Gone s.data.toList pos acc) (hn : nxL (s.data.toList.drop pos) = some (c,k)) (hb : (letB c || (!acc.isEmpty && digB c)) = false) : nameB s = false := by
 unfold nameB
 cases e : runesOf s.data.toList with
 | none => simp [countN,e]
 | some rs =>
  obtain ⟨rest,rfl⟩ := (h.step hn).len e
  have : okFrom true (acc ++ [c] ++ rest) = false := by
   rw [List.append_assoc,okFrom_append];simp only [List.singleton_append,okFrom,Bool.true_and];rw [hb]; simp
  simp only [Option.getD_some,this,Bool.and_false]
theorem name_any (s : ByteArray) (w : World) (hs : s.size ≤ 140737488351232) :
  Calls Tryz.prog 66 #[.string s] w fun e w' => e = .returned (.bool (nameB s)) ∧ Below w.heap.size w w' := by
 have hcl := countN_le s.data.toList;rw [len_data] at hcl
 by_cases hc1 : countN s.data.toList < 1
 ·have HX : Hid (false = nameB s) := by show false = _; unfold nameB; simp; omega
  go_enter Tryz.func66,Tryz.ntmps66
  go_wp2_with fail;refine (count_any s _ hs).mono ?_;rintro e w1 ⟨rfl,hw1⟩;generalize countN s.data.toList = n at *
  have hn1 : decide ((n : Int) < 1) = true := by simp; omega
  go_wp2_with fail;go_ret;exact ⟨ret_bool HX.out,hw1⟩
 ·by_cases hc2 : 20 < countN s.data.toList
  ·have HX : Hid (false = nameB s) := by show false = _; unfold nameB; simp; omega
   go_enter Tryz.func66,Tryz.ntmps66
   go_wp2_with fail;refine (count_any s _ hs).mono ?_;rintro e w1 ⟨rfl,hw1⟩;generalize countN s.data.toList = n at *
   have hn1 : decide ((n : Int) < 1) = false := by simp; omega
   have hn2 : decide (20 < (n : Int)) = true := by simp; omega
   go_wp2_with fail;go_ret;exact ⟨ret_bool HX.out,hw1⟩
  ·cases hk : keyB s with
   | true =>
    have HX : Hid (false = nameB s) := by show false = _; unfold nameB; simp [hk]
    have HK : Hid (keyB s = true) := hk;clear hk
    go_enter Tryz.func66,Tryz.ntmps66
    go_wp2_with fail;refine (count_any s _ hs).mono ?_;rintro e w1 ⟨rfl,hw1⟩;generalize countN s.data.toList = n at *
    have hn1 : decide ((n : Int) < 1) = false := by simp; omega
    have hn2 : decide (20 < (n : Int)) = false := by simp; omega
    go_wp2_with fail;refine (key_any s _).mono ?_;rintro e w2 ⟨rfl,rfl⟩;rw [HK.out];go_wp2_with fail;go_ret;exact ⟨ret_bool HX.out,hw1⟩
   | false =>
    obtain ⟨rs,hrs⟩ : ∃ rs,runesOf s.data.toList = some rs := by
     cases e : runesOf s.data.toList with
     | none => simp [countN,e] at hc1
     | some rs => exact ⟨rs,rfl⟩
    have HX : Hid (nameB s = okFrom true rs) := by
     show nameB s = _
     unfold nameB;rw [hk,hrs];simp only [Bool.not_false,Bool.and_true,Option.getD_some];rw [decide_eq_true (by omega),Bool.true_and]
    have HR : Hid (runesOf s.data.toList = some rs) := hrs;have HK : Hid (keyB s = false) := hk;clear hk hrs
    go_enter Tryz.func66,Tryz.ntmps66
    go_wp2_with fail;refine (count_any s _ hs).mono ?_;rintro e w1 ⟨rfl,hw1⟩;generalize countN s.data.toList = n at *
    have hn1 : decide ((n : Int) < 1) = false := by simp; omega
    have hn2 : decide (20 < (n : Int)) = false := by simp; omega
    go_wp2_with fail;refine (key_any s _).mono ?_;rintro e w2 ⟨rfl,rfl⟩;rw [HK.out];go_wp2_with fail
    go_loopw [] (fun wr => ∃ (pos : Nat) (acc : List Nat),wr = w2.iter s pos ∧ Hid (Gone s.data.toList pos acc) ∧ Hid (okFrom true acc = true) ∧ Hid (acc.isEmpty = decide (pos = 0))) (fun wr => s.size - wr.iterPos w2.heap.size)
    case atStart => exact ⟨0,[],rfl,Gone.start _,rfl,rfl⟩
    case round =>
     obtain ⟨pos,acc,rfl,H,HO,HE⟩ := hrel
     by_cases hp : pos < s.size
     ·obtain ⟨c,k,hd,h1,h2⟩ := dec_at s pos hp;obtain ⟨x,hx⟩ := nx_of_gone H.out (by rw [len_data]; exact hp) HR.out;have HN : Hid (nxL (s.data.toList.drop pos) = some (c,k)) := dec_of_nx h1 h2 hx
      have hnx : ∀ ty,(Instr.next (.pointer (some ⟨w2.heap.size,0,none⟩)) true ty).run Tryz.prog (w2.iter s pos) = .ok (.tuple #[.bool true,.int .i64 (pos : Int),.int .i32 (c : Int)]) (w2.iter s (pos + k)) := by
       intro ty;have := run_next_any (P := Tryz.prog) w2 s pos ty hp;rw [hd] at this;exact this
      have hk : 1 ≤ k := (nxL_some _ _ _ HN.out).2.2.2.1;have HG : Hid (Gone s.data.toList (pos + k) (acc ++ [c])) := H.out.step HN.out
      have HE2 : Hid ((acc ++ [c]).isEmpty = decide (pos + k = 0)) := by show _ = _; rw [decide_eq_false (by omega)]; cases acc <;> rfl
      clear hd h1 h2 hx;go_wp2_with fail;refine (letter_any _ _).mono ?_;rintro e w3 ⟨rfl,rfl⟩
      cases hl : letB c with
      | true =>
       have HO2 : Hid (okFrom true (acc ++ [c]) = true) := by show _ = _; rw [okFrom_append,HO.out]; simp [okFrom,hl]
       go_wp2_with fail
       go_roundw
       case rel => exact ⟨pos + k,acc ++ [c],rfl,HG,HO2,HE2⟩
       case measure => simp; omega
      | false =>
       by_cases hp0 : pos = 0
       ·have HF : Hid (false = nameB s) := (nameB_off s H.out HN.out (by rw [hl,HE.out]; simp [hp0])).symm
        have hpd : ((pos : Int) == 0) = true := by simp [hp0]
        clear hp0;go_wp2_with fail;go_ret;exact ⟨ret_bool HF.out,hw1.trans ((below_iter _ _ _).mono hw1.size)⟩
       ·have hpd : ((pos : Int) == 0) = false := by simp [hp0]
        go_wp2_with fail;refine (digit_any _ _).mono ?_;rintro e w4 ⟨rfl,rfl⟩
        cases hdg : digB c with
        | true =>
         have HO2 : Hid (okFrom true (acc ++ [c]) = true) := by show _ = _; rw [okFrom_append,HO.out,HE.out]; simp [okFrom,hdg,hp0]
         go_wp2_with fail
         go_roundw
         case rel => exact ⟨pos + k,acc ++ [c],rfl,HG,HO2,HE2⟩
         case measure => simp; omega
        | false =>
         have HF : Hid (false = nameB s) := (nameB_off s H.out HN.out (by rw [hl,hdg]; simp)).symm;go_wp2_with fail;go_ret;exact ⟨ret_bool HF.out,hw1.trans ((below_iter _ _ _).mono hw1.size)⟩
     ·have hnx : ∀ ty,(Instr.next (.pointer (some ⟨w2.heap.size,0,none⟩)) true ty).run Tryz.prog (w2.iter s pos) = _ := fun ty => run_next_end w2 s pos ty hp
      have HF : Hid (true = nameB s) := by
       show true = _
       have := H.out.done (by rw [len_data]; omega);rw [HR.out] at this
       simp at this
       rw [HX.out,this,HO.out]
      go_wp2
      go_ret;exact ⟨ret_bool HF.out,hw1.trans ((below_iter _ _ _).mono hw1.size)⟩
end
section
open Go.ChangeShapes Go.WideShapes Go.ChangeAt Go.RowKit Go.Maps
def SetK (k : TypeId) (w : World) (b n : Nat) (L : List Value) : Prop :=
 ∃ D : DataW Unit,w.ownsMap Tryz.prog k (unitElem (H := Unit)) b n D ∧ ∀ v kl,keyOf Tryz.prog k v = some kl → (Maps.has D kl = true ↔ v ∈ L)
theorem SetK.lt {k : TypeId} {w : World} {b n : Nat} {L : List Value} (h : SetK k w b n L) : b < w.heap.size := by obtain ⟨D,h1,_⟩ := h; exact h1.lt
theorem SetK.made (k : TypeId) (w : World) : SetK k (w.alloc (.map #[] 0)) w.heap.size 0 [] :=
 ⟨.map [],World.ownsMap_made w Tryz.prog k unitElem,fun v kl _ => by simp [Maps.has]⟩
theorem SetK.kp {k : TypeId} {S : Nat → Prop} {w w1 : World} {b n : Nat} {L : List Value} (h : SetK k w b n L) (hk : Kp S w w1) (hs : ¬ S b) : SetK k w1 b n L := by
 have hlt := h.lt;obtain ⟨D,⟨es,clock,hb,r⟩,h2⟩ := h;exact ⟨D,⟨es,clock,(hk.block b hlt hs).trans hb,r⟩,h2⟩
theorem SetK.below {k : TypeId} {w w1 : World} {b n : Nat} {L : List Value} (h : SetK k w b n L) (hk : Below w.heap.size w w1) : SetK k w1 b n L := h.kp (S := fun _ => False) (Kp.ofBelow hk) (fun e => e)
theorem SetK.put {k : TypeId} (K : Keyed Tryz.prog k) {w : World} {b n : Nat} {L : List Value} {D : DataW Unit} (hD : Maps.IsMap D) (h2 : ∀ v kl,keyOf Tryz.prog k v = some kl → (Maps.has D kl = true ↔ v ∈ L)) {v : Value} {kl : Lit} (hv : keyOf Tryz.prog k v = some kl) {u : DataW Unit}
  (h1 : w.ownsMap Tryz.prog k (unitElem (H := Unit)) b n (D.put kl u)) : SetK k w b n (L ++ [v]) := by
 refine ⟨_,h1,fun v' kl' hv' => ?_⟩
 by_cases e : kl' = kl
 ·subst e;have : v' = v := K.inj hv' hv;subst this;rw [Maps.has_put_same hD (K.key hv)]
  simp
 ·rw [Maps.has_put_other e,h2 v' kl' hv'];simp only [List.mem_append,List.mem_singleton]
  constructor
  ·exact .inl
  ·rintro (h | rfl)
   ·exact h
   ·rw [hv] at hv'; cases hv'; exact absurd rfl e
theorem SetK.ne {k : TypeId} {w : World} {b n : Nat} {L : List Value} (h : SetK k w b n L) {g : Nat} {p : Addr} {u : Value} (hc : w.cell? p = some u) (hg : p.block = g) : g ≠ b := by
 rintro rfl;obtain ⟨D,⟨es,clock,hb,_⟩,_⟩ := h;obtain ⟨q,off,sp⟩ := p;simp only at hg;subst hg
 simp [World.cell?,hb] at hc
theorem zeroU (w : World) : (zeroValue 129).run Tryz.prog w = .ok (.agg #[]) w := by kernel_rfl
def SetS (w : World) (b n : Nat) (L : List ByteArray) : Prop := SetK 9 w b n (L.map Value.string)
def SetI (w : World) (b n : Nat) (L : List Int) : Prop := SetK 3 w b n (L.map (Value.int .i64))
def tyV (p : Int × ByteArray) : Value := .agg #[.int .i64 p.1,.string p.2]
def SetT (w : World) (b n : Nat) (L : List (Int × ByteArray)) : Prop := SetK 54 w b n (L.map tyV)
theorem lawS : Keyed Tryz.prog 9 := string_keyed Tryz.underlying9
theorem lawI : Keyed Tryz.prog 3 := int_keyed Tryz.underlying3
theorem laidOutP : laidOutB Tryz.prog = true := by kernel_rfl
theorem lawT : Keyed Tryz.prog 54 := Keyed.of_law (deep_law_laid laidOutP (m := 3) (by omega) (of_decide_eq_true (by kernel_rfl)) (by kernel_rfl) (by kernel_rfl))
def I64 (n : Int) : Prop := -9223372036854775808 ≤ n ∧ n ≤ 9223372036854775807
theorem wf64 {n : Int} (h : I64 n) : (Lit.int .i64 n).wf = true := WalkArith.wf_i64 (by obtain ⟨h1,h2⟩ := h; omega)
theorem key_str {s : ByteArray} (h : s.size ≤ 140737488351232) : keyOf Tryz.prog 9 (.string s) = some (.string s.data.toList) :=
 WideMaps.keyOf_string_mk (P := Tryz.prog) (k := 9) Tryz.underlying9 (s := s) (by unfold maxLen; omega)
theorem key_int {n : Int} (h : I64 n) : keyOf Tryz.prog 3 (.int .i64 n) = some (.int .i64 n) :=
 keyOf_int_mk (P := Tryz.prog) (k := 3) Tryz.underlying3 (wf64 h)
theorem keyTypeT : Tryz.prog.keyType 54 = true := by kernel_rfl
theorem cellsT : Tryz.prog.cellsOf 54 = 2 := by kernel_rfl
theorem cellsI : Tryz.prog.cellsOf 3 = 1 := by kernel_rfl
theorem cellsS : Tryz.prog.cellsOf 9 = 1 := by kernel_rfl
theorem lits_int {m : Nat} {k : Int} (hk : I64 k) : Tryz.prog.keyLits (m + 1) 3 [.int .i64 k] = some [.int .i64 k] := by
 simp [Program.keyLits,Tryz.underlying3,wf64 hk]
theorem lits_str {m : Nat} {s : ByteArray} (hs : s.size ≤ 140737488351232) : Tryz.prog.keyLits (m + 1) 9 [.string s] = some [.string s.data.toList] := by
 have : s.size ≤ maxLen := by unfold maxLen; omega
 simp [Program.keyLits,Tryz.underlying9,this]
theorem lits_ty {m : Nat} {k : Int} {s : ByteArray} (hk : I64 k) (hs : s.size ≤ 140737488351232) : Tryz.prog.keyLits (m + 2) 54 [.int .i64 k,.string s] = some [.int .i64 k,.string s.data.toList] := by
 unfold Program.keyLits;simp only [Tryz.underlying54,cellsT]
 simp [cellsI,cellsS,lits_int hk,lits_str hs]
theorem key_ty {k : Int} {s : ByteArray} (hk : I64 k) (hs : s.size ≤ 140737488351232) : ∃ kl,keyOf Tryz.prog 54 (tyV (k,s)) = some kl := by
 obtain ⟨m,hm⟩ : ∃ m,Tryz.prog.types.size + 1 = m + 2 := ⟨Tryz.prog.types.size - 1,by have : 0 < Tryz.prog.types.size := of_decide_eq_true (by kernel_rfl); omega⟩
 have hf : (tyV (k,s)).formed Tryz.prog 54 = true := by simp [tyV,Value.formed,Tryz.underlying54,cellsT]
 unfold keyOf;rw [hm,show (tyV (k,s)).cells.toList = [.int .i64 k,.string s] from rfl,lits_ty hk hs,keyTypeT,hf];simp only [Tryz.underlying54];exact ⟨_,rfl⟩
theorem mem_str {s : ByteArray} {L : List ByteArray} : Value.string s ∈ L.map Value.string ↔ s ∈ L := by
 simp only [List.mem_map,Value.string.injEq,exists_eq_right]
theorem mem_int {s : Int} {L : List Int} : Value.int .i64 s ∈ L.map (Value.int .i64) ↔ s ∈ L := by
 simp only [List.mem_map,Value.int.injEq,true_and,exists_eq_right]
theorem mem_ty {s : Int × ByteArray} {L : List (Int × ByteArray)} : tyV s ∈ L.map tyV ↔ s ∈ L := by
 simp only [List.mem_map,tyV,Value.agg.injEq,Array.mk.injEq,List.cons.injEq,Value.int.injEq,Value.string.injEq,true_and,and_true]
 constructor
 ·rintro ⟨⟨a,b⟩,h1,h2,h3⟩; obtain ⟨c,d⟩ := s; simp only at h2 h3; subst h2 h3; exact h1
 ·intro h; exact ⟨s,h,rfl,rfl⟩
theorem SetS.has {w : World} {b n : Nat} {L : List ByteArray} {D : DataW Unit} (h2 : ∀ v kl,keyOf Tryz.prog 9 v = some kl → (Maps.has D kl = true ↔ v ∈ L.map Value.string)) {s : ByteArray} (hs : s.size ≤ 140737488351232) : Maps.has D (.string s.data.toList) = memB s L := by
 rw [Bool.eq_iff_iff,h2 _ _ (key_str hs),mem_str,memB_iff]
theorem SetI.has {w : World} {b n : Nat} {L : List Int} {D : DataW Unit} (h2 : ∀ v kl,keyOf Tryz.prog 3 v = some kl → (Maps.has D kl = true ↔ v ∈ L.map (Value.int .i64))) {s : Int} (hs : I64 s) : Maps.has D (.int .i64 s) = memI s L := by
 rw [Bool.eq_iff_iff,h2 _ _ (key_int hs),mem_int]
 simp [memI]
theorem has_str {w : World} {b n : Nat} {L : List ByteArray} (h : SetS w b n L) {s : ByteArray} (hs : s.size ≤ 140737488351232) :
  Calls Tryz.prog 121 #[.map (some b),.string s] w fun e w' => e = .returned (.bool (memB s L)) ∧ Below w.heap.size w w' := by
 obtain ⟨D,hown,h2⟩ := h;have HH : Hid (Maps.has D (.string s.data.toList) = memB s L) := SetS.has (w := w) (b := b) (n := n) h2 hs;have hkey := key_str hs;clear h2
 go_enter Tryz.func121,Tryz.ntmps121
 go_wp2_with (first
  | (at_lookup; refine wpList_lookup_own_unit _ rfl _ _ 88 rfl 9 129 lawS Tryz.underlying88 (zeroU _) b n D rfl hown _ _ rfl hkey ?_)
  | fail)
 go_ret;exact ⟨ret_bool HH.out,(bra _)⟩
theorem has_int {w : World} {b n : Nat} {L : List Int} (h : SetI w b n L) {s : Int} (hs : I64 s) :
  Calls Tryz.prog 122 #[.map (some b),.int .i64 s] w fun e w' => e = .returned (.bool (memI s L)) ∧ Below w.heap.size w w' := by
 obtain ⟨D,hown,h2⟩ := h;have HH : Hid (Maps.has D (.int .i64 s) = memI s L) := SetI.has (w := w) (b := b) (n := n) h2 hs;have hkey := key_int hs;clear h2
 go_enter Tryz.func122,Tryz.ntmps122
 go_wp2_with (first
  | (at_lookup; refine wpList_lookup_own_unit _ rfl _ _ 133 rfl 3 129 lawI Tryz.underlying133 (zeroU _) b n D rfl hown _ _ rfl hkey ?_)
  | fail)
 go_ret;exact ⟨ret_bool HH.out,(bra _)⟩
def memT (p : Int × ByteArray) (L : List (Int × ByteArray)) : Bool := L.any fun q => decide (p = q)
theorem memT_iff {p : Int × ByteArray} {L : List (Int × ByteArray)} : memT p L = true ↔ p ∈ L := by simp [memT]
theorem has_ty {w : World} {b n : Nat} {L : List (Int × ByteArray)} (h : SetT w b n L) {k : Int} {s : ByteArray} (hk : I64 k) (hs : s.size ≤ 140737488351232) :
  Calls Tryz.prog 74 #[.map (some b),.agg #[.int .i64 k,.string s]] w fun e w' => e = .returned (.bool (memT (k,s) L)) ∧ Below w.heap.size w w' := by
 obtain ⟨D,hown,h2⟩ := h;obtain ⟨kl,hkey⟩ := key_ty hk hs
 have HH : Hid (Maps.has D kl = memT (k,s) L) := by
  show _ = _
  rw [Bool.eq_iff_iff,h2 _ _ hkey,mem_ty,memT_iff]
 unfold tyV at hkey;simp only at hkey;clear h2
 go_enter Tryz.func74,Tryz.ntmps74
 go_wp2_with (first
  | (at_lookup; refine wpList_lookup_own_unit _ rfl _ _ 85 rfl 54 129 lawT Tryz.underlying85 (zeroU _) b n D rfl (hown.alloc _) _ _ rfl hkey ?_)
  | fail)
 go_ret;exact ⟨ret_bool HH.out,(bra _).alloc (by simp) _⟩
theorem add_str {w : World} {b n : Nat} {L : List ByteArray} (h : SetS w b n L) {s : ByteArray} (hs : s.size ≤ 140737488351232) (hn : n < 1000000) :
  Calls Tryz.prog 103 #[.map (some b),.string s] w fun e w' => e = .returned (.bool (!memB s L)) ∧ (memB s L = false → SetS w' b (n + 1) (L ++ [s])) ∧ Kp (fun k => k = b) w w' := by
 have HS : Hid (SetS w b n L) := h;clear h;have hkey := key_str hs
 cases hm : memB s L
 ·go_enter Tryz.func103,Tryz.ntmps103
  go_wp2_with fail;refine (has_str HS.out hs).mono ?_;rintro e w1 ⟨rfl,hb1⟩;rw [hm];obtain ⟨D,hown,h2⟩ := HS.out.below hb1;have H2 : Hid _ := h2;clear h2
  go_wp2_with (first
   | (at_mapUpdate; refine wpList_mapUpdate_own _ rfl _ _ _ 88 rfl 9 129 lawS Tryz.underlying88 (unitElem (H := Unit)) b n _ rfl hown (by unfold maxLen; omega) _ _ _ rfl rfl hkey _ [] unitElem_mk ?_; intro w2 hown1 hgrow1)
   | fail)
  go_ret;refine ⟨rfl,fun _ => ?_,(Kp.ofBelow hb1).grown hgrow1 (fun k hk _ => by cases hk; rfl)⟩;have := SetK.put lawS hown.isMap H2.out hkey hown1;unfold SetS;rw [List.map_append];exact this
 ·go_enter Tryz.func103,Tryz.ntmps103
  go_wp2_with fail;refine (has_str HS.out hs).mono ?_;rintro e w1 ⟨rfl,hb1⟩;rw [hm];go_wp2_with fail;go_ret;exact ⟨rfl,(fun e => by cases e),Kp.ofBelow hb1⟩
theorem add_int {w : World} {b n : Nat} {L : List Int} (h : SetI w b n L) {s : Int} (hs : I64 s) (hn : n < 1000000) :
  Calls Tryz.prog 104 #[.map (some b),.int .i64 s] w fun e w' => e = .returned (.bool (!memI s L)) ∧ (memI s L = false → SetI w' b (n + 1) (L ++ [s])) ∧ Kp (fun k => k = b) w w' := by
 have HS : Hid (SetI w b n L) := h;clear h;have hkey := key_int hs
 cases hm : memI s L
 ·go_enter Tryz.func104,Tryz.ntmps104
  go_wp2_with fail;refine (has_int HS.out hs).mono ?_;rintro e w1 ⟨rfl,hb1⟩;rw [hm];obtain ⟨D,hown,h2⟩ := HS.out.below hb1;have H2 : Hid _ := h2;clear h2
  go_wp2_with (first
   | (at_mapUpdate; refine wpList_mapUpdate_own _ rfl _ _ _ 133 rfl 3 129 lawI Tryz.underlying133 (unitElem (H := Unit)) b n _ rfl hown (by unfold maxLen; omega) _ _ _ rfl rfl hkey _ [] unitElem_mk ?_; intro w2 hown1 hgrow1)
   | fail)
  go_ret;refine ⟨rfl,fun _ => ?_,(Kp.ofBelow hb1).grown hgrow1 (fun k hk _ => by cases hk; rfl)⟩;have := SetK.put lawI hown.isMap H2.out hkey hown1;unfold SetI;rw [List.map_append];exact this
 ·go_enter Tryz.func104,Tryz.ntmps104
  go_wp2_with fail;refine (has_int HS.out hs).mono ?_;rintro e w1 ⟨rfl,hb1⟩;rw [hm];go_wp2_with fail;go_ret;exact ⟨rfl,(fun e => by cases e),Kp.ofBelow hb1⟩
theorem newname_any {w : World} {b n : Nat} {L : List ByteArray} (h : SetS w b n L) {s : ByteArray} (hs : s.size ≤ 140737488351232) (hn : n < 1000000) :
  Calls Tryz.prog 68 #[.map (some b),.string s] w fun e w' => e = .returned (.bool (freshB s L)) ∧ (freshB s L = true → SetS w' b (n + 1) (L ++ [s])) ∧ Kp (fun k => k = b) w w' := by
 have HS : Hid (SetS w b n L) := h;clear h
 cases hm : nameB s
 ·have HF : Hid (false = freshB s L) := by show _ = _; unfold freshB; rw [hm]; rfl
  go_enter Tryz.func68,Tryz.ntmps68
  go_wp2_with fail;refine (name_any s _ hs).mono ?_;rintro e w1 ⟨rfl,hb1⟩;rw [hm];go_wp2_with fail;go_ret;exact ⟨ret_bool HF.out,(fun e => by rw [← HF.out] at e; cases e),Kp.ofBelow hb1⟩
 ·have HF : Hid ((!memB s L) = freshB s L) := by show _ = _; unfold freshB; rw [hm]; rfl
  go_enter Tryz.func68,Tryz.ntmps68
  go_wp2_with fail;refine (name_any s _ hs).mono ?_;rintro e w1 ⟨rfl,hb1⟩;rw [hm];go_wp2_with fail;refine (add_str (SetK.below HS.out hb1) hs hn).mono ?_;rintro e w2 ⟨rfl,h2,hk2⟩;have H2 : Hid _ := h2;clear h2;go_wp2_with fail;go_ret;exact ⟨ret_bool HF.out,(fun e => H2.out (by rw [← HF.out] at e; simpa using e)),(Kp.ofBelow hb1).trans hk2⟩
theorem newtag_any {w : World} {b n : Nat} {L : List Int} (h : SetI w b n L) {s : Int} (hs : I64 s) (hn : n < 1000000) :
  Calls Tryz.prog 69 #[.map (some b),.int .i64 s] w fun e w' => e = .returned (.bool (tagB s L)) ∧ (tagB s L = true → SetI w' b (n + 1) (L ++ [s])) ∧ Kp (fun k => k = b) w w' := by
 have HS : Hid (SetI w b n L) := h;clear h
 by_cases h1 : 1 ≤ s
 ·by_cases h5 : s ≤ 500
  ·have HF : Hid ((!memI s L) = tagB s L) := by show _ = _; unfold tagB tagR; rw [decide_eq_true (And.intro h1 h5)]; rfl
   go_enter Tryz.func69,Tryz.ntmps69
   go_wp2_with fail;refine (add_int HS.out hs hn).mono ?_;rintro e w2 ⟨rfl,h2,hk2⟩;have H2 : Hid _ := h2;clear h2;go_wp2_with fail;go_ret;exact ⟨ret_bool HF.out,(fun e => H2.out (by rw [← HF.out] at e; simpa using e)),hk2⟩
  ·have hd : decide (s ≤ 500) = false := by simpa using h5
   have HF : Hid (false = tagB s L) := by show _ = _; unfold tagB tagR; rw [decide_eq_false (fun e => h5 e.2)]; rfl
   go_enter Tryz.func69,Tryz.ntmps69
   go_wp2_with fail;go_ret;exact ⟨ret_bool HF.out,(fun e => by rw [← HF.out] at e; cases e),Kp.refl _ _⟩
 ·have hd : decide (1 ≤ s) = false := by simpa using h1
  have HF : Hid (false = tagB s L) := by show _ = _; unfold tagB tagR; rw [decide_eq_false (fun e => h1 e.1)]; rfl
  go_enter Tryz.func69,Tryz.ntmps69
  go_wp2_with fail;go_ret;exact ⟨ret_bool HF.out,(fun e => by rw [← HF.out] at e; cases e),Kp.refl _ _⟩
theorem RowG.kpM {S : Nat → Prop} {w w1 : World} {v : Value} {size : Nat} {rs : List (List Value)} (h : RowG w v size rs) (hk : Kp S w w1) (hs : ∀ p u,w.cell? p = some u → ¬ S p.block) : RowG w1 v size rs := by
 obtain ⟨a,cap,h1,h2,h3,h0,h4⟩ := h.form;refine ⟨a,cap,h1,h2,h3,h0,fun hne => ?_⟩;obtain ⟨g,off,h5,h6⟩ := h4 hne;exact ⟨g,off,h5,fun i c u j hc hu => hk.cell (h6 i c u j hc hu) (hs _ _ (h6 i c u j hc hu))⟩
theorem SetK.no {k : TypeId} {w : World} {b n : Nat} {L : List Value} (h : SetK k w b n L) : ∀ p u,w.cell? p = some u → ¬ p.block = b := fun p u hc => h.ne hc rfl
theorem Kp.new {S : Nat → Prop} {w wr w1 : World} {b : Nat} (h : Kp S w wr) (h1 : Kp (fun k => k = b) wr w1) (hb : w.heap.size ≤ b) : Kp S w w1 := h.trans2 h1 (fun i hi e => by omega)
def FlW (f : FlS) : Prop := f.name.size ≤ 140737488351232 ∧ f.tname.size ≤ 140737488351232 ∧ I64 f.tag ∧ I64 f.label ∧ I64 f.kind
def NmW (f : NmS) : Prop := f.name.size ≤ 140737488351232 ∧ I64 f.n
def MtW (f : MtS) : Prop := f.name.size ≤ 140737488351232 ∧ f.inn.size ≤ 140737488351232 ∧ f.out.size ≤ 140737488351232
def MsW (m : MsS) : Prop := m.name.size ≤ 140737488351232 ∧ (∀ f ∈ m.fields,FlW f) ∧ ∀ n ∈ m.reserved,I64 n
def EnW (m : EnS) : Prop := m.name.size ≤ 140737488351232 ∧ ∀ f ∈ m.values,NmW f
structure ScW (s : ScS) : Prop where
 name : s.name.size ≤ 140737488351232
 msgs : ∀ m ∈ s.msgs,MsW m
 enums : ∀ m ∈ s.enums,EnW m
 meths : ∀ m ∈ s.methods,MtW m
theorem islabel_any (n : Int) (w : World) : Calls Tryz.prog 105 #[.int .i64 n] w fun e w' => e = .returned (.bool (labB n)) ∧ w' = w := by
 by_cases h1 : n = 1
 ·subst h1
  go_enter Tryz.func105,Tryz.ntmps105
  go_wp2_with fail;go_ret;exact ⟨rfl,rfl⟩
 ·by_cases h2 : n = 2
  ·subst h2
   go_enter Tryz.func105,Tryz.ntmps105
   go_wp2_with fail;go_ret;exact ⟨rfl,rfl⟩
  ·by_cases h3 : n = 3
   ·subst h3
    go_enter Tryz.func105,Tryz.ntmps105
    go_wp2_with fail;go_ret;exact ⟨rfl,rfl⟩
   ·have HF : Hid (false = labB n) := by show _ = _; unfold labB; rw [decide_eq_false (by omega)]
    have e1 : (n == 1) = false := by simpa using h1
    have e2 : (n == 2) = false := by simpa using h2
    have e3 : (n == 3) = false := by simpa using h3
    go_enter Tryz.func105,Tryz.ntmps105
    go_wp2_with fail;go_ret;exact ⟨ret_bool HF.out,rfl⟩
theorem msgtype_any (s : ByteArray) (w : World) : Calls Tryz.prog 67 #[.string s] w fun e w' => e = .returned (.agg #[.int .i64 7,.string s]) ∧ Below w.heap.size w w' := by
 go_enter Tryz.func67,Tryz.ntmps67
 go_wp2_with fail;refine bodyPost_ret (v := .agg #[.int .i64 7,.string s]) (by simp [results,Tryz.results67,go_sem]) rfl ⟨rfl,?_⟩;exact bra _
theorem iszero_any (s : ByteArray) (n : Int) (w : World) : Calls Tryz.prog 72 #[.agg #[.string s,.int .i64 n]] w fun e w' => e = .returned (.bool (decide (n = 0))) ∧ Below w.heap.size w w' := by
 have HE : Hid ((n == 0) = decide (n = 0)) := rfl
 go_enter Tryz.func72,Tryz.ntmps72
 go_wp2_with fail;go_ret;exact ⟨ret_bool HE.out,bra _⟩
def zeroM : MsS := ⟨⟨#[]⟩,[],[]⟩
def zeroN : EnS := ⟨⟨#[]⟩,[]⟩
def zeroF : FlS := ⟨⟨#[]⟩,0,0,0,⟨#[]⟩⟩
def flV (m : FlS) : Value := .agg #[.string m.name,.int .i64 m.tag,.int .i64 m.label,.int .i64 m.kind,.string m.tname]
theorem ret_two {a b c d : Value} (h1 : a = c) (h2 : b = d) : Ending.returned (.tuple #[a,b]) = .returned (.tuple #[c,d]) := by rw [h1,h2]
theorem bytes_ne {a b : ByteArray} (h : ¬ a = b) : (a.toList == b.toList) = false := by
 rw [ByteArray.toList_eq,ByteArray.toList_eq,beq_bytes]; exact decide_eq_false h
end
section
open Go.ChangeShapes Go.WideShapes Go.ChangeAt Go.RowKit
theorem Kp.sm {S : Nat → Prop} {w w' : World} {bs : List Nat} (h : Kp S w w') (hb : ∀ k ∈ bs,k < w.heap.size ∧ ¬ S k) : Sm w w' bs := fun k hk => h.block k (hb k hk).1 (hb k hk).2
theorem Apt.right {B : Nat} {w : World} {a b : List Nat} (h : Apt B w (a ++ b)) : Apt B w b := h.of_count fun k => by simp only [List.count_append]; omega
theorem Apt.left {B : Nat} {w : World} {a b : List Nat} (h : Apt B w (a ++ b)) : Apt B w a := h.of_count fun k => by simp only [List.count_append]; omega
theorem push_row {α : Type} {P : World → List Value → α → List Nat → Prop} {B e size bytes : Nat} {W : World} {v : Value} {xs : List α} {rows : List (List Value)} {bss : List (List Nat)} {r : List Value} {x : α} {b more : List Nat} {bz : Nat} {t : TypeId} {z : Value}
  (ht : Tryz.prog.underlying t = some (.slice e)) (hinfo : (Tryz.prog.info? e).map (fun i => (i.zero,i.size,i.bytes)) = some (some z,size,bytes)) (hzs : z.cells.size = size) (hsz : 0 < size) (hrow : RowO P B e size W v xs rows bss) (hap : Apt B W (more ++ (allB v bss ++ b))) (hP : P W r x b) (hr : r.length = size) (h1 : ∀ u ∈ r,u.oneCell' = true)
  (loc : ∀ w' r x b,P W r x b → Sm W w' b → P w' r x b) (BE : Blk W bz r.toArray e) (hn : xs.length ≤ 1000) (hby : bytes ≤ 1000) (hB : B ≤ W.heap.size) :
  ∃ v' W',(Builtin.append_ #[t,t] t #[v,.slice (some ⟨bz,0,none⟩) 1 1]).run Tryz.prog W = .ok v' W' ∧ RowO P B e size W' v' (xs ++ [x]) (rows ++ [r]) (bss ++ [b]) ∧ Apt B W' (more ++ allB v' (bss ++ [b])) ∧ (∃ a c,v' = .slice a (xs.length + 1) c) ∧ Kp (fun q => q ∈ blkOf v) W W' := by
 obtain ⟨i0,hi0,hz0,hz1,hz2⟩ := info_parts hinfo
 obtain ⟨v',W',r1,r2,r3,_,r5⟩ := run_append_own_at W B t t e i0 z size bytes ht hi0 hz0 hz1 hz2 hzs hsz v xs.length _ hrow.own ⟨bz,0,none⟩ 1 1 r (by rw [hr,Nat.one_mul]) (fun j u hu => by
  have := BE.cell j;rw [Addr.add_lit,Nat.zero_add,this]
  simpa using hu) h1 (by unfold maxLen; omega) (by
   have : (xs.length + 1) * bytes ≤ 1001 * 1000 := Nat.mul_le_mul (by omega) hby
   omega) hB
 obtain ⟨a,c,hv⟩ := own_form r2;refine ⟨v',W',r1,hrow.push hap.right r2 r3 hP hr (fun r x b hp hs => loc W' r x b hp hs),hap.push r5 r2 r3.size hB,⟨a,c,hv⟩,?_⟩;exact (Kp.refl _ _).grown r3 (fun k hk _ => mem_blkOf.2 hk)
section
variable {n b0 bt bm ba be bf : Nat} {SC MC LC : Array Value} {tg : Int} {a : Nat} {ve : Value} {es : List (Int × List Tr)} {rows : List (List Value)} {bss : List (List Nat)} {vt : Value} {ts : List Tr} {rows' : List (List Value)} {bss' : List (List Nat)} {w w' : World}
end
theorem own_push {B e size bytes : Nat} {W : World} {v : Value} {n : Nat} {rows : List (List Value)} {r : List Value} {bz : Nat} {t : TypeId} {z : Value}
  (ht : Tryz.prog.underlying t = some (.slice e)) (hinfo : (Tryz.prog.info? e).map (fun i => (i.zero,i.size,i.bytes)) = some (some z,size,bytes)) (hzs : z.cells.size = size) (hsz : 0 < size) (how : W.ownsRow B e size v n rows.flatten) (hr : r.length = size) (h1 : ∀ u ∈ r,u.oneCell' = true)
  (BE : Blk W bz r.toArray e) (hn : n ≤ 1000) (hby : bytes ≤ 1000) (hB : B ≤ W.heap.size) :
  ∃ a c W',(Builtin.append_ #[t,t] t #[v,.slice (some ⟨bz,0,none⟩) 1 1]).run Tryz.prog W = .ok (.slice a (n + 1) c) W' ∧ W'.ownsRow B e size (.slice a (n + 1) c) (n + 1) (rows ++ [r]).flatten ∧ Kp (fun q => v.ownBlock = some q) W W' ∧ ((Value.slice a (n + 1) c).ownBlock = v.ownBlock ∨ (Value.slice a (n + 1) c).ownBlock = some W.heap.size) := by
 obtain ⟨i0,hi0,hz0,hz1,hz2⟩ := info_parts hinfo
 obtain ⟨v',W',r1,r2,r3,_,r5⟩ := run_append_own_at W B t t e i0 z size bytes ht hi0 hz0 hz1 hz2 hzs hsz v n _ how ⟨bz,0,none⟩ 1 1 r (by rw [hr,Nat.one_mul]) (fun j u hu => by
  have := BE.cell j;rw [Addr.add_lit,Nat.zero_add,this]
  simpa using hu) h1 (by unfold maxLen; omega) (by
   have : (n + 1) * bytes ≤ 1001 * 1000 := Nat.mul_le_mul (by omega) hby
   omega) hB
 obtain ⟨a,c,rfl⟩ := own_form r2;refine ⟨a,c,W',r1,by rw [List.flatten_append]; simpa using r2,?_,r5⟩;exact (Kp.refl _ _).grown r3 (fun k hk _ => hk)
theorem p5_chunk : ∀ (n : Nat) (cs : List Value),cs.length = n * 5 → ∃ rows : List (List Value),rows.flatten = cs ∧ rows.length = n ∧ ∀ r ∈ rows,r.length = 5
 | 0,cs,h => ⟨[],by simp at h; simp [h],rfl,by simp⟩
 | n + 1,cs,h => by
  obtain ⟨rows,h1,h2,h3⟩ := p5_chunk n (cs.drop 5) (by rw [List.length_drop]; omega);refine ⟨cs.take 5 :: rows,by rw [List.flatten_cons,h1,List.take_append_drop],by simp [h2],fun r hr => ?_⟩
  rcases List.mem_cons.1 hr with rfl | hr
  ·rw [List.length_take]; omega
  ·exact h3 r hr
theorem p5_cells {w : World} {B ty g n cap : Nat} {rows : List (List Value)} (h : w.ownsRow B ty 5 (.slice (some ⟨g,0,none⟩) n cap) n rows.flatten) (hl : ∀ r ∈ rows,r.length = 5) {j : Nat} (hj : j < rows.length) :
  ∃ v0 v1 v2 v3 v4,w.cell? ⟨g,j * 5,none⟩ = some v0 ∧ w.cell? ⟨g,j * 5 + 1,none⟩ = some v1 ∧ w.cell? ⟨g,j * 5 + 2,none⟩ = some v2 ∧ w.cell? ⟨g,j * 5 + 3,none⟩ = some v3 ∧ w.cell? ⟨g,j * 5 + 4,none⟩ = some v4 ∧ (∀ k,w.frozen? ⟨g,k,none⟩ = false) := by
 obtain ⟨r',hr'⟩ : ∃ r,rows[j]? = some r := ⟨_,List.getElem?_eq_getElem hj⟩;have h5' := hl r' (List.mem_of_getElem? hr')
 have hcell : ∀ k u,r'[k]? = some u → w.cell? ⟨g,j * 5 + k,none⟩ = some u := fun k u hu => by
  have := h.cells (g := g) rfl (j * 5 + k) u (flat_get rows hl j _ hr' k u hu)
  rwa [Addr.add_lit,Nat.zero_add] at this
 match r',h5',hcell with
 | [x0,x1,x2,x3,x4],_,hcell => exact ⟨x0,x1,x2,x3,x4,hcell 0 _ rfl,hcell 1 _ rfl,hcell 2 _ rfl,hcell 3 _ rfl,hcell 4 _ rfl,fun k => h.frozenAt k⟩
structure MsP (n bt : Nat) (F : Nat → Prop) (ve : Value) (es : List (Int × List Tr)) (w : World) : Prop where
 blk : Blk w bt #[.int .i64 3,.int .i64 0,.string ⟨#[]⟩,ve,.slice none 0 0] 30
 row : ∃ rows : List (List Value),w.ownsRow (bt + 1) 69 2 ve es.length rows.flatten ∧ rows.length = es.length ∧ (∀ r ∈ rows,r.length = 2) ∧ ∀ (i : Nat) (e : Int × List Tr),es[i]? = some e → ∃ vt,rows[i]? = some [.int .i64 e.1,vt] ∧ Is64 e.1 ∧ SeeL n w vt e.2 F
 free : ∀ k,ve.ownBlock = some k → ¬ F k
 bfree : ¬ F bt
theorem is64_lit3 : Is64 3 := by constructor <;> decide
theorem is64_lit0 : Is64 0 := by constructor <;> decide
section
variable {n bt b : Nat} {F G S : Nat → Prop} {ve vt : Value} {es : List (Int × List Tr)} {w w0 w1 W0 : World} {s : ScS}
theorem MsP.nil (hb : Blk w bt #[.int .i64 3,.int .i64 0,.string ⟨#[]⟩,.slice none 0 0,.slice none 0 0] 30) (hf : ¬ F bt) : MsP n bt F (.slice none 0 0) [] w := ⟨hb,⟨[],World.ownsRow_nil _ _ _ _,rfl,(fun r hr => by cases hr),fun i e h => by simp at h⟩,(fun k h => by cases h),hf⟩
theorem MsP.size (h : MsP n bt F ve es w) : bt < w.heap.size := h.blk.lt
theorem MsP.kp (h : MsP n bt F ve es w) (hk : Kp S w w1) (h1 : ¬ S bt) (h2 : ∀ k,ve.ownBlock = some k → ¬ S k) (h3 : ∀ k,F k → k < w.heap.size ∧ ¬ S k) (hs : ∀ k,F k → G k) (hg : ∀ k,G k → F k ∨ w.heap.size ≤ k) : MsP n bt G ve es w1 := by
 obtain ⟨rows,r1,r2,r3,r4⟩ := h.row;have hst : Stay F w w1 := Stay.kp hk (fun k e => (h3 k e).1) fun k e => (h3 k e).2
 refine ⟨h.blk.kp hk h1,⟨rows,own_kpT2 r1 hk fun k e1 e2 => h2 k e2 e1,r2,r3,fun i e he => ?_⟩,fun k e hgk => ?_,fun hgb => ?_⟩
 ·obtain ⟨vt,g1,g2,g3⟩ := r4 i e he;exact ⟨vt,g1,g2,(g3.stay hst).more hs⟩
 ·rcases hg k hgk with h4 | h4
  ·exact h.free k e h4
  ·have := (own_lt r1 e).2; omega
 ·rcases hg bt hgb with h4 | h4
  ·exact h.bfree h4
  ·have := h.size; omega
where
 own_kpT2 {S : Nat → Prop} {w w' : World} {base e s n : Nat} {v : Value} {xs : List Value} (h : w.ownsRow base e s v n xs) (hk : Kp S w w') (hs : ∀ k,S k → v.ownBlock ≠ some k) : w'.ownsRow base e s v n xs := by
  refine ⟨h.1,h.2.imp id ?_⟩;rintro ⟨g,cap,cur,rfl,h1,h2,h3⟩;exact ⟨g,cap,cur,rfl,h1,(hk.block g (Array.getElem?_eq_some_iff.1 h2).1 (fun e => hs g e rfl)).trans h2,h3⟩
theorem MsP.below (h : MsP n bt F ve es w) (hb : Below w.heap.size w w1) (hf : ∀ k,F k → k < w.heap.size) : MsP n bt F ve es w1 := h.kp (S := fun _ => False) (Kp.ofBelow hb) (fun e => e) (fun _ _ e => e) (fun k e => ⟨hf k e,fun e => e⟩) (fun _ e => e) fun _ e => .inl e
theorem MsP.call (h : MsP n bt F ve es w) (hK : KnP s W0 w b F) (hk : Kp (fun q => q = b) w w1) (hs : ∀ k,F k → G k) (hg : ∀ k,G k → F k ∨ w.heap.size ≤ k) : MsP n bt G ve es w1 := by
 refine h.kp hk (fun e => hK.neB h.blk e) (fun k e1 e2 => ?_) (fun k e => ⟨(hK.new k e).2,fun e2 => hK.nb (e2 ▸ e)⟩) hs hg;obtain ⟨rows,r1,_⟩ := h.row
 rcases r1.2 with ⟨rfl,_⟩ | ⟨g,cap,cur,rfl,g1,g2,_⟩
 ·cases e1
 ·obtain rfl : g = k := by simpa [Value.ownBlock] using e1
  exact hK.neB g2 e2
theorem MsP.push {tag : Int} {ts : List Tr} {bz : Nat} (h : MsP n bt F ve es w) (hK : KnP s W0 w b F) (hbt : W0.heap.size ≤ bt) (hx : SeeL n w vt ts F) (h64 : Is64 tag) (BZ : Blk w bz #[.int .i64 tag,vt] 69) (hv : vt.oneCell' = true) (hn : es.length ≤ 1000) :
  ∃ a c W',(Builtin.append_ #[27,27] 27 #[ve,.slice (some ⟨bz,0,none⟩) 1 1]).run Tryz.prog w = .ok (.slice a (es.length + 1) c) W' ∧ Blk W' bt #[.int .i64 3,.int .i64 0,.string ⟨#[]⟩,ve,.slice none 0 0] 30 ∧
   MsP n bt F (.slice a (es.length + 1) c) (es ++ [(tag,ts)]) (W'.setCell ⟨bt,3,none⟩ (.slice a (es.length + 1) c)) ∧ KnP s W0 (W'.setCell ⟨bt,3,none⟩ (.slice a (es.length + 1) c)) b F ∧ Kp (fun q => bt ≤ q ∧ ¬ F q ∧ q ≠ b) w (W'.setCell ⟨bt,3,none⟩ (.slice a (es.length + 1) c)) ∧ Kp (fun q => bt < q) w W' := by
 have hb := h.size;obtain ⟨rows,r1,r2,r3,r4⟩ := h.row
 obtain ⟨a,c,W',p1,p2,p3,p4⟩ := own_push (bytes := 32) (t := 27) Tryz.underlying27 infoEt rfl (by decide) r1 (r := [.int .i64 tag,vt]) rfl (fun u hu => by
  simp only [List.mem_cons,List.not_mem_nil,or_false] at hu
  rcases hu with rfl | rfl
  ·rfl
  ·exact hv) BZ hn (by decide) hb
 have hbv : ∀ k,ve.ownBlock = some k → bt + 1 ≤ k := fun k hk => (own_lt r1 hk).1
 have hvb : ∀ k,ve.ownBlock = some k → k ≠ b := fun k hk => by
  rcases r1.2 with ⟨rfl,_⟩ | ⟨g,cap,cur,rfl,g1,g2,_⟩
  ·cases hk
  ·obtain rfl : g = k := by simpa [Value.ownBlock] using hk
   exact hK.neB g2
 have hk1 : Kp (fun q => bt ≤ q ∧ ¬ F q ∧ q ≠ b) w W' := p3.weak fun q _ hq => ⟨by have := hbv q hq; omega,h.free q hq,hvb q hq⟩
 have hk2 : Kp (fun q => bt ≤ q ∧ ¬ F q ∧ q ≠ b) w (W'.setCell ⟨bt,3,none⟩ (.slice a (es.length + 1) c)) := Kp.setCell hk1 (fun _ => ⟨Nat.le_refl _,h.bfree,fun e => hK.neB h.blk e⟩) _;have B' := h.blk.kp p3 (fun e => by have := hbv _ e; omega);have k5 : Kp (fun q => q = bt) W' (W'.setCell ⟨bt,3,none⟩ (.slice a (es.length + 1) c)) := Kp.setCell (S := fun q => q = bt) (p := ⟨bt,3,none⟩) (Kp.refl _ _) (fun _ => rfl) _;have hst : Stay F w (W'.setCell ⟨bt,3,none⟩ (.slice a (es.length + 1) c)) := Stay.kp hk2 (fun k e => (hK.new k e).2) fun k e h => h.2.1 e
 refine ⟨a,c,W',p1,B',⟨B'.set 3 _ rfl,⟨rows ++ [[.int .i64 tag,vt]],?_,by simp [r2],fun r hr => ?_,fun i e he => ?_⟩,fun k e hf => ?_,h.bfree⟩,?_,hk2,p3.weak fun q _ hq => by have := hbv q hq; omega⟩
 ·rw [List.length_append];refine MsP.kp.own_kpT2 p2 k5 fun k e1 e2 => ?_
  subst e1;have := (own_lt p2 e2).1
  omega
 ·rcases List.mem_append.1 hr with hr | hr
  ·exact r3 r hr
  ·obtain rfl := List.mem_singleton.1 hr; rfl
 ·by_cases hi : i < es.length
  ·rw [List.getElem?_append_left hi] at he;obtain ⟨vt',g1,g2,g3⟩ := r4 i e he;exact ⟨vt',by rw [List.getElem?_append_left (by omega)]; exact g1,g2,g3.stay hst⟩
  ·rw [List.getElem?_append_right (by omega)] at he
   have hi0 : i - es.length = 0 := by
    cases hj : i - es.length with
    | zero => rfl
    | succ j => rw [hj] at he; simp at he
   rw [hi0] at he
   obtain rfl : (tag,ts) = e := by simpa using he
   exact ⟨vt,by rw [List.getElem?_append_right (by omega),r2,hi0]; rfl,h64,hx.stay hst⟩
 ·rcases p4 with p4 | p4
  ·exact h.free k (p4 ▸ e) hf
  ·rw [p4] at e;have := (hK.new k hf).2;simp only [Option.some.injEq] at e
   omega
 ·exact hK.kp hk2 (fun k e => Nat.le_trans hbt e.1) (fun e => e.2.2 rfl) fun k e h => h.2.1 e
theorem MsP.done (h : MsP n bt F ve es w) (hb : ∀ k,F k → W0.heap.size ≤ k ∧ k < w.heap.size) (hbt : W0.heap.size ≤ bt) : SeeG (n + 1) w [.int .i64 3,.int .i64 0,.string ⟨#[]⟩,ve,.slice none 0 0] ⟨3,0,⟨#[]⟩,es,[]⟩ (fun k => F k ∨ ve.ownBlock = some k) ∧ (∀ k,(F k ∨ ve.ownBlock = some k) → W0.heap.size ≤ k ∧ k < w.heap.size) := by
 obtain ⟨rows,r1,r2,r3,r4⟩ := h.row;refine ⟨fun w' hw' => ?_,fun k hk => ?_⟩
 ·have r1' : w'.ownsRow (bt + 1) 69 2 ve es.length rows.flatten := by
   refine ⟨r1.1,r1.2.imp id ?_⟩;rintro ⟨g,cap,cur,rfl,g1,g2,g3⟩;exact ⟨g,cap,cur,rfl,g1,(hw' g (.inr rfl)).trans g2,g3⟩
  refine ⟨ve,.slice none 0 0,rfl,is64_lit3,is64_lit0,(by show (0 : Nat) ≤ _; omega),(fun f hf => by cases hf),RowG.nil _ _,⟨rows,(RowG.own r3 (by decide) r1').1,r2,fun i e he => ?_⟩,own_pln r1',fun _ _ _ _ e => by cases e⟩;obtain ⟨vt,g1,g2,g3⟩ := r4 i e he;exact ⟨_,g1,vt,rfl,g2,g3 w' (hw'.less fun k e => .inl e)⟩
 ·rcases hk with hk | hk
  ·exact hb k hk
  ·have := own_lt r1 hk
   omega
end
end
end Go.Proofs.YtmgbhicogmclgaaGreat
