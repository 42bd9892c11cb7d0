/- Part 4 of what the proof stands on. -/
import Derived.Test.YtiajaocckkghgaaGreatPkTAC
import Derived.OneCell
namespace Go.Proofs.YtiajaocckkghgaaGreat
set_option maxHeartbeats 8000000
set_option linter.unusedVariables false
set_option linter.unusedSimpArgs false
set_option maxRecDepth 20000
section
open Go.ChangeShapes Go.WideShapes Go.ChangeAt Go.RowKit
theorem infoTr : (Tryz.prog.info? 33).map (fun i => (i.zero,i.size,i.bytes)) = some (some (.agg #[.int .i64 0,.int .i64 0,.string ⟨#[]⟩,.slice none 0 0,.slice none 0 0]),5,80) := by kernel_rfl
theorem infoEt : (Tryz.prog.info? 80).map (fun i => (i.zero,i.size,i.bytes)) = some (some (.agg #[.int .i64 0,.slice none 0 0]),2,32) := by kernel_rfl
theorem take_atC {α : Type} {l : List α} {i : Nat} {x : α} (h : l[i]? = some x) : l.take (i + 1) = l.take i ++ [x] := by
 obtain ⟨hl,rfl⟩ := List.getElem?_eq_some_iff.1 h;rw [List.take_succ_eq_append_getElem hl]
structure CpS (n B b0 bt : Nat) (bx : Array Value) (K N : Int) (S : ByteArray) (ve vr : Value) (es : List (Int × List Tr)) (fs : List Fd) (rows : List (List Value)) (bss : List (List Nat)) (w : World) : Prop where
 row : RowO (EtO (TrO n B) B) B 80 2 w ve es rows bss
 rst : w.ownsRow B 61 4 vr fs.length (rawCells fs)
 bt : Blk w bt #[.int .i64 K,.int .i64 N,.string S,ve,vr] 33
 bx : Blk w b0 bx 33
 br : Blk w (b0 + 1) #[.int .i64 0,.int .i64 0,.string ⟨#[]⟩,.slice none 0 0,.slice none 0 0] 33
theorem CpS.sm {n B b0 bt : Nat} {bx : Array Value} {K N : Int} {S : ByteArray} {ve vr : Value} {es : List (Int × List Tr)} {fs : List Fd} {rows : List (List Value)} {bss : List (List Nat)} {w w' : World} (h : CpS n B b0 bt bx K N S ve vr es fs rows bss w)
  (hs : Sm w w' ([b0,b0 + 1,bt] ++ (blkOf vr ++ allB ve bss))) : CpS n B b0 bt bx K N S ve vr es fs rows bss w' :=
 ⟨h.row.sm (hs.mono fun k hk => by simp [hk]) fun _ _ _ hp hb => hp.sm hb,own_sm h.rst (hs.mono fun k hk => by simp [hk]),(hs bt (by simp)).trans h.bt,(hs b0 (by simp)).trans h.bx,(hs (b0 + 1) (by simp)).trans h.br⟩
theorem CpS.lt {n B b0 bt : Nat} {bx : Array Value} {K N : Int} {S : ByteArray} {ve vr : Value} {es : List (Int × List Tr)} {fs : List Fd} {rows : List (List Value)} {bss : List (List Nat)} {w : World} (h : CpS n B b0 bt bx K N S ve vr es fs rows bss w) {more : List Nat}
  (ap : Apt B w (([bt] ++ blkOf vr) ++ allB ve bss ++ more)) : ∀ k ∈ [b0,b0 + 1,bt] ++ (blkOf vr ++ allB ve bss),k < w.heap.size := fun k hk => by
 simp only [List.cons_append,List.nil_append,List.mem_cons,List.mem_append] at hk
 rcases hk with rfl | rfl | rfl | hk | hk
 ·exact h.bx.lt
 ·exact h.br.lt
 ·exact h.bt.lt
 ·exact (ap.2 k (by simp [hk])).2
 ·exact (ap.2 k (by simp [hk])).2
def CopyP (n : Nat) (t : Tr) (w : World) (e : Ending) (w' : World) : Prop := ∃ v bs,e = .returned v ∧ TrV n w.heap.size w' v t bs ∧ Below w.heap.size w w'
theorem TrO.open {n B : Nat} {w : World} {r : List Value} {t : Tr} {bs : List Nat} (h : TrO n B w r t bs) : ∃ a1 n1 c1 a2 n2 c2,r = [.int .i64 t.kind,.int .i64 t.n,.string t.s,.slice a1 n1 c1,.slice a2 n2 c2] := by
 cases n with
 | zero => exact h.elim
 | succ n =>
  obtain ⟨ve,vr,rows,bss,h1,h2,h3,h4,h5,h6,h7,rfl⟩ := h;obtain ⟨a1,c1,rfl⟩ := own_form h7.own;obtain ⟨a2,c2,rfl⟩ := own_form h6;exact ⟨_,_,_,_,_,_,h1⟩
theorem copy_step (n : Nat) (IH : ∀ t v w,TrIn n w v t → SmN n t → Calls Tryz.prog 20 #[v] w (CopyP n t w)) (t : Tr) (v : Value) (w : World) (ht : TrIn (n + 1) w v t) (hsm : SmN (n + 1) t) :
  Calls Tryz.prog 20 #[v] w (CopyP (n + 1) t w) := by
 obtain ⟨n',ve,vr,e0,rfl,ka,na,sa,fa,ra,ea⟩ := ht.open
 obtain rfl : n' = n := by omega
 clear e0 ht;obtain ⟨pe,ce,rfl,u1,u2, -⟩ := ea.open;obtain ⟨pr,cr,rfl,x1,x2, -⟩ := rest_holds ra;unfold maxLen at u2 x2;obtain ⟨-,hr40,he40, -,hsub⟩ := hsm;obtain ⟨Ke,hKe⟩ : ∃ K,t.es.length = K := ⟨_,rfl⟩;obtain ⟨Kr,hKr⟩ : ∃ K,t.rest.length = K := ⟨_,rfl⟩;have HSB : Hid (∀ e ∈ t.es,e.2.length ≤ 70 ∧ ∀ x ∈ e.2,SmN n' x) := hsub;rw [hKe] at u1 he40 ⊢;rw [hKr] at x1 hr40 ⊢;have EA : Hid (EnsIn n' w (.slice pe Ke ce) t.es) := hid (by rw [← hKe]; exact ea);have RA : Hid (RowG w (.slice pr Kr cr) 4 (fdRows t.rest)) := hid (by rw [← hKr]; exact ra);have HKe : Hid (t.es.length = Ke) := hKe;have HKr : Hid (t.rest.length = Kr) := hKr;have HFA : Hid (Is64 t.kind ∧ Is64 t.n ∧ t.s.size ≤ 140737488351232 ∧ Fd64 t.rest) := ⟨ka,na,sa,fa⟩;clear hKe hKr ea ra fa ka na sa hsub;obtain ⟨K,hK⟩ : ∃ K,t.kind = K := ⟨_,rfl⟩;obtain ⟨N,hN⟩ : ∃ K,t.n = K := ⟨_,rfl⟩;obtain ⟨S,hS⟩ : ∃ K,t.s = K := ⟨_,rfl⟩;rw [hK,hN,hS];have HKN : Hid (t.kind = K ∧ t.n = N ∧ t.s = S) := ⟨hK,hN,hS⟩;clear hK hN hS
 go_enter Tryz.func20,Tryz.ntmps20
 go_wp2_with fail;refine M_region (T := fun W => W.cell? ⟨w.heap.size,0,none⟩ = some (.int .i64 K) ∧ W.cell? ⟨w.heap.size,1,none⟩ = some (.int .i64 N) ∧ W.cell? ⟨w.heap.size,2,none⟩ = some (.string S) ∧ W.cell? ⟨w.heap.size,4,none⟩ = some (.slice pr Kr cr)) (m := 11) (by kernel_rfl) ?_;have HB0 : Hid (Below w.heap.size w ((w.alloc (.cells #[.int .i64 K,.int .i64 N,.string S,.slice pe Ke ce,.slice pr Kr cr] 33)).alloc (.cells #[.int .i64 0,.int .i64 0,.string ⟨#[]⟩,.slice none 0 0,.slice none 0 0] 33)).drew) := below_drewN 1 ((bra _).alloc (by simp) _);have HX0 : Hid (Blk ((w.alloc (.cells #[.int .i64 K,.int .i64 N,.string S,.slice pe Ke ce,.slice pr Kr cr] 33)).alloc (.cells #[.int .i64 0,.int .i64 0,.string ⟨#[]⟩,.slice none 0 0,.slice none 0 0] 33)).drew w.heap.size #[.int .i64 K,.int .i64 N,.string S,.slice pe Ke ce,.slice pr Kr cr] 33) := (Blk.new w _ _).below (below_drewN 1 (bra _))
 have HR0 : Hid (Blk ((w.alloc (.cells #[.int .i64 K,.int .i64 N,.string S,.slice pe Ke ce,.slice pr Kr cr] 33)).alloc (.cells #[.int .i64 0,.int .i64 0,.string ⟨#[]⟩,.slice none 0 0,.slice none 0 0] 33)).drew (w.heap.size + 1) #[.int .i64 0,.int .i64 0,.string ⟨#[]⟩,.slice none 0 0,.slice none 0 0] 33) := by
  have := Blk.new (w.alloc (.cells #[.int .i64 K,.int .i64 N,.string S,.slice pe Ke ce,.slice pr Kr cr] 33)) #[.int .i64 0,.int .i64 0,.string ⟨#[]⟩,.slice none 0 0,.slice none 0 0] 33;rw [show (w.alloc (.cells #[.int .i64 K,.int .i64 N,.string S,.slice pe Ke ce,.slice pr Kr cr] 33)).heap.size = w.heap.size + 1 by simp] at this;exact this
 have HS0 : Hid (((w.alloc (.cells #[.int .i64 K,.int .i64 N,.string S,.slice pe Ke ce,.slice pr Kr cr] 33)).alloc (.cells #[.int .i64 0,.int .i64 0,.string ⟨#[]⟩,.slice none 0 0,.slice none 0 0] 33)).drew.heap.size = w.heap.size + 2) := by show _ = _; simp [World.drew]
 generalize ((w.alloc (.cells #[.int .i64 K,.int .i64 N,.string S,.slice pe Ke ce,.slice pr Kr cr] 33)).alloc (.cells #[.int .i64 0,.int .i64 0,.string ⟨#[]⟩,.slice none 0 0,.slice none 0 0] 33)).drew = W0 at *;have hTb : ∀ W,Below W0.heap.size W0 W → W.cell? ⟨w.heap.size,0,none⟩ = some (.int .i64 K) ∧ W.cell? ⟨w.heap.size,1,none⟩ = some (.int .i64 N) ∧ W.cell? ⟨w.heap.size,2,none⟩ = some (.string S) ∧ W.cell? ⟨w.heap.size,4,none⟩ = some (.slice pr Kr cr) := fun W hW => ⟨(HX0.out.below hW).cell 0,(HX0.out.below hW).cell 1,(HX0.out.below hW).cell 2,(HX0.out.below hW).cell 4⟩
 obtain ⟨b0,hb0⟩ : ∃ n,w.heap.size = n := ⟨_,rfl⟩;rw [hb0] at HX0 HR0 HS0 hTb ⊢;have HBZ : Hid (w.heap.size = b0) := hb0;clear hb0;have hT := hTb W0 (Below.refl _ _);refine M_tk 0 7 (.pointer (some ⟨b0,0,none⟩)) (fun w' hw' => ?_) hT (bts 12 1) ?_
 ·obtain ⟨g0,g1,g2,g3⟩ := hw'; go_simp
 refine M_tk 2 9 (.pointer (some ⟨b0,1,none⟩)) (fun w' hw' => ?_) hT (bts 12 5) ?_
 ·obtain ⟨g0,g1,g2,g3⟩ := hw'; go_simp
 refine M_tk 4 11 (.pointer (some ⟨b0,2,none⟩)) (fun w' hw' => ?_) hT (bts 12 21) ?_
 ·obtain ⟨g0,g1,g2,g3⟩ := hw'; go_simp
 refine M_tk 6 13 (.pointer (some ⟨b0,4,none⟩)) (fun w' hw' => ?_) hT (bts 12 85) ?_
 ·obtain ⟨g0,g1,g2,g3⟩ := hw'; go_simp
 refine M_tk 1 8 (.int .i64 K) (fun w' hw' => ?_) hT (bts 12 87) ?_
 ·obtain ⟨g0,g1,g2,g3⟩ := hw'; go_simp
 refine M_tk 3 10 (.int .i64 N) (fun w' hw' => ?_) hT (bts 12 95) ?_
 ·obtain ⟨g0,g1,g2,g3⟩ := hw'; go_simp
 refine M_tk 5 12 (.string S) (fun w' hw' => ?_) hT (bts 12 127) ?_
 ·obtain ⟨g0,g1,g2,g3⟩ := hw'; go_simp
 refine M_tk 7 14 (.slice pr Kr cr) (fun w' hw' => ?_) hT (bts 12 255) ?_
 ·obtain ⟨g0,g1,g2,g3⟩ := hw'; go_simp
 have HRW : Hid (∀ W,Below W0.heap.size W0 W → Calls Tryz.prog 26 #[.slice pr Kr cr] W fun e w' => ∃ r,e = .returned r ∧ w'.ownsRow W.heap.size 61 4 r Kr (rawCells t.rest) ∧ Below W.heap.size W w') := fun W hW => by
  have := traws_any (RA.out.below (HB0.out.trans (hW.mono HB0.out.size))) (by have := HKr.out; omega);rw [HKr.out] at this;exact this
 have hAl : ∀ W : World,Below W.heap.size W (W.alloc (.cells #[.int .i64 0,.int .i64 0,.string ⟨#[]⟩,.slice none 0 0,.slice none 0 0] 33)) := fun W => bra _
 refine M_cab 8 10 9 15 3 16 26 #[.slice pr Kr cr] (fun W => .pointer (some ⟨W.heap.size,0,none⟩)) (fun W => W.alloc (.cells #[.int .i64 0,.int .i64 0,.string ⟨#[]⟩,.slice none 0 0,.slice none 0 0] 33)) (fun u => .agg #[.int .i64 K,.int .i64 N,.string S,.slice none 0 0,u]) (fun u => ∃ a c,u = .slice a Kr c)
  (fun u p W => ∃ bt,p = .pointer (some ⟨bt,0,none⟩) ∧ b0 + 2 ≤ bt ∧ Blk W bt #[.int .i64 0,.int .i64 0,.string ⟨#[]⟩,.slice none 0 0,.slice none 0 0] 33 ∧ W.ownsRow (b0 + 2) 61 4 u Kr (rawCells t.rest) ∧ u.ownBlock ≠ some bt ∧ Below W0.heap.size W0 W)
  rfl rfl rfl rfl rfl rfl (by decide) (by decide) (by decide) (by decide) (by kernel_rfl) (by kernel_rfl) (by kernel_rfl) (by kernel_rfl) (by kernel_rfl) (fun _ => rfl) (fun _ => rfl) (fun _ => rfl) (by kernel_rfl) (by kernel_rfl) (by kernel_rfl) (by kernel_rfl) (fun _ _ _ _ h => h) ?x1 ?x1' ?x2 ?hA ?hT' ?hB ?xk ?xk' ?_
 case x1 => go_simp
 case x1' => intro v W'; go_simp
 case x2 => intro a' W'; go_simp
 case hA =>
  refine (HRW.out W0 (Below.refl _ _)).mono ?_;rintro e W1 ⟨u,rfl,r3,r4⟩;have r5 : Below W0.heap.size W0 (W1.alloc (.cells #[.int .i64 0,.int .i64 0,.string ⟨#[]⟩,.slice none 0 0,.slice none 0 0] 33)) := r4.trans ((hAl W1).mono r4.size);have hs0 := HS0.out;exact ⟨u,rfl,own_form r3,hTb W1 r4,hTb _ r5,W1.heap.size,rfl,by have := r4.size; omega,Blk.new W1 _ _,own_base (own_below r3 (hAl W1)) (by omega),fun e => by have := (own_lt r3 e).2; omega,r5⟩
 case hT' => exact hTb _ (hAl W0)
 case hB =>
  refine (HRW.out _ (hAl W0)).mono ?_;rintro e W1 ⟨u,rfl,r3,r4⟩;have r5 : Below W0.heap.size W0 W1 := (hAl W0).trans (r4.mono (hAl W0).size);have hs0 := HS0.out;exact ⟨u,rfl,own_form r3,hTb W1 r5,W0.heap.size,rfl,by omega,(Blk.new W0 _ _).below r4,own_base r3 (by simp; omega),fun e => by have := (own_lt r3 e).1; simp at this; omega,r5⟩
 case xk => rintro u W' ⟨a,c,rfl⟩; go_simp
 case xk' => rintro u v W' ⟨a,c,rfl⟩; go_simp
 rintro u p W1 ⟨ua,uc,rfl⟩ _ ⟨bt,rfl,hbt,BT,ho,hnbt,hbel⟩;simp only [zsA,zsZ,zsS];have HO : Hid (W1.ownsRow (b0 + 2) 61 4 (.slice ua Kr uc) Kr (rawCells t.rest)) := ho;have HX1 := HX0.out.below hbel;have HR1 := HR0.out.below hbel;have hbw : Below w.heap.size w W1 := HB0.out.trans (hbel.mono HB0.out.size);obtain ⟨t0,t1,t2,t3,t4⟩ := cl5 BT;obtain ⟨z0,z1,z2,z3,z4⟩ := fz5 BT;refine M_st 11 (((((W1.setCell ⟨bt,0,none⟩ (.int .i64 K)).setCell ⟨bt,1,none⟩ (.int .i64 N)).setCell ⟨bt,2,none⟩ (.string S)).setCell ⟨bt,3,none⟩ (.slice none 0 0)).setCell ⟨bt,4,none⟩ (.slice ua Kr uc)) (bts 12 4095) rfl (by go_simp) ?_;refine M_done (by kernel_rfl) ?_ _
 have KS : Kp (fun k => k = bt) W1 (((((W1.setCell ⟨bt,0,none⟩ (.int .i64 K)).setCell ⟨bt,1,none⟩ (.int .i64 N)).setCell ⟨bt,2,none⟩ (.string S)).setCell ⟨bt,3,none⟩ (.slice none 0 0)).setCell ⟨bt,4,none⟩ (.slice ua Kr uc)) := by
  refine Kp.setCell ?_ (fun _ => by simp) _;refine Kp.setCell ?_ (fun _ => by simp) _;refine Kp.setCell ?_ (fun _ => by simp) _;refine Kp.setCell ?_ (fun _ => by simp) _;refine Kp.setCell ?_ (fun _ => by simp) _;exact Kp.refl _ _
 have BA : Blk (W1.setCell ⟨bt,0,none⟩ (.int .i64 K)) bt #[.int .i64 K,.int .i64 0,.string ⟨#[]⟩,.slice none 0 0,.slice none 0 0] 33 := BT.set 0 (.int .i64 K) rfl;have BB : Blk ((W1.setCell ⟨bt,0,none⟩ (.int .i64 K)).setCell ⟨bt,1,none⟩ (.int .i64 N)) bt #[.int .i64 K,.int .i64 N,.string ⟨#[]⟩,.slice none 0 0,.slice none 0 0] 33 := BA.set 1 (.int .i64 N) rfl;have BC : Blk (((W1.setCell ⟨bt,0,none⟩ (.int .i64 K)).setCell ⟨bt,1,none⟩ (.int .i64 N)).setCell ⟨bt,2,none⟩ (.string S)) bt #[.int .i64 K,.int .i64 N,.string S,.slice none 0 0,.slice none 0 0] 33 := BB.set 2 (.string S) rfl;have BD : Blk ((((W1.setCell ⟨bt,0,none⟩ (.int .i64 K)).setCell ⟨bt,1,none⟩ (.int .i64 N)).setCell ⟨bt,2,none⟩ (.string S)).setCell ⟨bt,3,none⟩ (.slice none 0 0)) bt #[.int .i64 K,.int .i64 N,.string S,.slice none 0 0,.slice none 0 0] 33 := BC.set 3 (.slice none 0 0) rfl;have BT2 : Blk (((((W1.setCell ⟨bt,0,none⟩ (.int .i64 K)).setCell ⟨bt,1,none⟩ (.int .i64 N)).setCell ⟨bt,2,none⟩ (.string S)).setCell ⟨bt,3,none⟩ (.slice none 0 0)).setCell ⟨bt,4,none⟩ (.slice ua Kr uc)) bt #[.int .i64 K,.int .i64 N,.string S,.slice none 0 0,.slice ua Kr uc] 33 := BD.set 4 (.slice ua Kr uc) rfl;clear BA BB BC BD
 have HO2 : (((((W1.setCell ⟨bt,0,none⟩ (.int .i64 K)).setCell ⟨bt,1,none⟩ (.int .i64 N)).setCell ⟨bt,2,none⟩ (.string S)).setCell ⟨bt,3,none⟩ (.slice none 0 0)).setCell ⟨bt,4,none⟩ (.slice ua Kr uc)).ownsRow (b0 + 2) 61 4 (.slice ua Kr uc) t.rest.length (rawCells t.rest) := by
  rw [HKr.out];exact own_kpV HO.out KS (fun k hk e => hnbt (by rw [hk,e]))
 have BX2 := HX1.kp KS (by omega);have BR2 := HR1.kp KS (by omega);have hb2 : Below w.heap.size w (((((W1.setCell ⟨bt,0,none⟩ (.int .i64 K)).setCell ⟨bt,1,none⟩ (.int .i64 N)).setCell ⟨bt,2,none⟩ (.string S)).setCell ⟨bt,3,none⟩ (.slice none 0 0)).setCell ⟨bt,4,none⟩ (.slice ua Kr uc)) := hbw.trans (KS.toBelow hbw.size (fun k e => by have := HBZ.out; omega));generalize (((((W1.setCell ⟨bt,0,none⟩ (.int .i64 K)).setCell ⟨bt,1,none⟩ (.int .i64 N)).setCell ⟨bt,2,none⟩ (.string S)).setCell ⟨bt,3,none⟩ (.slice none 0 0)).setCell ⟨bt,4,none⟩ (.slice ua Kr uc)) = W2 at *
 have HAP : Hid (Apt (b0 + 2) W2 (([bt] ++ blkOf (.slice ua Kr uc)) ++ allB (.slice none 0 0) [])) := by
  show Apt _ _ _
  have h1 : blkOf (.slice none 0 0) = [] := rfl;simp only [allB,h1,List.flatten_nil,List.append_nil];refine ⟨?_,fun k hk => ?_⟩
  ·rw [List.cons_append,List.nil_append,List.nodup_cons];refine ⟨fun h => hnbt (mem_blkOf.1 h),?_⟩;unfold blkOf; split <;> simp
  ·rcases List.mem_cons.1 hk with rfl | hk
   ·exact ⟨hbt,BT2.lt⟩
   ·exact own_lt HO2 (mem_blkOf.1 hk)
 have HCP : Hid (CpS n' (b0 + 2) b0 bt #[.int .i64 K,.int .i64 N,.string S,.slice pe Ke ce,.slice pr Kr cr] K N S (.slice none 0 0) (.slice ua Kr uc) (t.es.take 0) t.rest [] [] W2) := ⟨RowO.nil _ _ _ _ _,HO2,BT2,BX2,BR2⟩;clear t0 t1 t2 t3 t4 z0 z1 z2 z3 z4 KS HO HX1 HR1 hbw BT ho hbel hT hTb HRW HB0 HX0 HR0 HS0 hAl BT2 HO2 BX2 BR2 hnbt;go_wp2_with fail
 go_loopw [4] (fun iv wr => ∃ (i : Nat) (va : Option Addr) (vc : Nat) (rows : List (List Value)) (bss : List (List Nat)),iv = .int .i64 (i : Int) ∧ i ≤ Ke ∧ Hid (CpS n' (b0 + 2) b0 bt #[.int .i64 K,.int .i64 N,.string S,.slice pe Ke ce,.slice pr Kr cr] K N S (.slice va i vc) (.slice ua Kr uc) (t.es.take i) t.rest rows bss wr) ∧ Hid (Apt (b0 + 2) wr (([bt] ++ blkOf (.slice ua Kr uc)) ++ allB (.slice va i vc) bss)) ∧ Below w.heap.size w wr) (fun iv _ => Ke - (intOf iv).toNat)
 case atStart => exact ⟨0,none,0,[],[],rfl,by omega,HCP,HAP,hb2⟩
 case round =>
  clear HCP HAP hb2;obtain ⟨i,va,vc,rows,bss,rfl,hi,HCP,HAP,hbel⟩ := hrel;have q3 : wr.cell? ⟨b0,3,none⟩ = some (.slice pe Ke ce) := HCP.out.bx.cell 3;have hbtl := HCP.out.bt.lt
  by_cases hlt : i < Ke
  ·obtain ⟨x,hx⟩ : ∃ r,t.es[i]? = some r := ⟨_,List.getElem?_eq_getElem (by rw [HKe.out]; exact hlt)⟩;obtain ⟨ge,off,rfl,cc⟩ := EA.out.get hx;obtain ⟨vt,p0,p1,p2,p3⟩ := ens_at cc;obtain ⟨pt,ct,rfl,t1,t2, -⟩ := p3.open;unfold maxLen at t2;have HX : Hid (t.es[i]? = some x) := hx;have HSX : Hid (x.2.length ≤ 70 ∧ ∀ y ∈ x.2,SmN n' y) := HSB.out x (List.mem_of_getElem? hx);obtain ⟨xt,xl⟩ := x;simp only at p0 p1 p2 p3 t1 HSX;obtain ⟨Kt,hKt⟩ : ∃ K,xl.length = K := ⟨_,rfl⟩;rw [hKt] at p1 t1;have T1 : Hid (TrsIn n' w (.slice pt Kt ct) xl) := hid (by rw [← hKt]; exact p3);have HKt : Hid (xl.length = Kt) := hKt
   have hkt : Kt ≤ 70 := by rw [← hKt]; exact HSX.out.1
   have H64 : Hid (Is64 xt) := p2;have P1 : Hid (w.cell? ⟨ge,off + i * 2 + 1,none⟩ = some (.slice pt Kt ct)) := p1;have r0 := (hbel.cell (World.block_lt_of_cell? _ _ p0)).trans p0;clear hx cc p0 p1 p2 p3 hKt;go_wp2_with fail;have hbY : Below wr.heap.size wr (wr.alloc (.cells #[.int .i64 xt,.slice none 0 0] 80)) := bra _;have BY : Blk (wr.alloc (.cells #[.int .i64 xt,.slice none 0 0] 80)) wr.heap.size #[.int .i64 xt,.slice none 0 0] 80 := Blk.new wr _ _
   have HAPY : Hid (Apt (b0 + 2) (wr.alloc (.cells #[.int .i64 xt,.slice none 0 0] 80)) ((([bt] ++ blkOf (.slice ua Kr uc)) ++ allB (.slice va i vc) bss ++ [wr.heap.size]) ++ allB (.slice none 0 0) [])) := by
    show Apt _ _ _
    have h1 : allB (.slice none 0 0) [] = [] := rfl;rw [h1,List.append_nil];exact HAP.out.new (by omega) (by simp)
   have HCPY : Hid (CpS n' (b0 + 2) b0 bt #[.int .i64 K,.int .i64 N,.string S,.slice (some ⟨ge,off,none⟩) Ke ce,.slice pr Kr cr] K N S (.slice va i vc) (.slice ua Kr uc) (t.es.take i) t.rest rows bss (wr.alloc (.cells #[.int .i64 xt,.slice none 0 0] 80))) := HCP.out.sm (Sm.below hbY (HCP.out.lt (more := []) (by simpa using HAP.out)));have hbZ : Below w.heap.size w (wr.alloc (.cells #[.int .i64 xt,.slice none 0 0] 80)) := hbel.trans (hbY.mono hbel.size);have HYW : Hid (b0 + 2 ≤ wr.heap.size) := hid (by have := (HAP.out.2 bt (by simp)).1; omega);have HRY : Hid (RowO (TrO n' (b0 + 2)) (b0 + 2) 33 5 (wr.alloc (.cells #[.int .i64 xt,.slice none 0 0] 80)) (.slice none 0 0) (xl.take 0) [] []) := RowO.nil _ _ _ _ _;generalize (wr.alloc (.cells #[.int .i64 xt,.slice none 0 0] 80)) = WY at *;obtain ⟨by',hby⟩ : ∃ q,wr.heap.size = q := ⟨_,rfl⟩;rw [hby] at BY HAPY HYW ⊢;clear hby hbY HCP HAP hbel q3 r0 hbtl
   go_loopw [6] (fun iv wz => ∃ (j : Nat) (ta : Option Addr) (tc : Nat) (rows' : List (List Value)) (bss' : List (List Nat)),iv = .int .i64 (j : Int) ∧ j ≤ Kt ∧ Hid (RowO (TrO n' (b0 + 2)) (b0 + 2) 33 5 wz (.slice ta j tc) (xl.take j) rows' bss') ∧ Hid (Apt (b0 + 2) wz ((([bt] ++ blkOf (.slice ua Kr uc)) ++ allB (.slice va i vc) bss ++ [by']) ++ allB (.slice ta j tc) bss')) ∧ Hid (Blk wz by' #[.int .i64 xt,.slice ta j tc] 80) ∧ Hid (CpS n' (b0 + 2) b0 bt #[.int .i64 K,.int .i64 N,.string S,.slice (some ⟨ge,off,none⟩) Ke ce,.slice pr Kr cr] K N S (.slice va i vc) (.slice ua Kr uc) (t.es.take i) t.rest rows bss wz) ∧ Below w.heap.size w wz) (fun iv _ => Kt - (intOf iv).toNat)
   case atStart => exact ⟨0,none,0,[],[],rfl,by omega,HRY,HAPY,BY,HCPY,hbZ⟩
   case round =>
    clear HRY HAPY BY HCPY hbZ;obtain ⟨j,ta,tc,rows',bss',rfl,hj,HRY,HAP,BY,HCP,hbel⟩ := hrel;have q3 : wr.cell? ⟨b0,3,none⟩ = some (.slice (some ⟨ge,off,none⟩) Ke ce) := HCP.out.bx.cell 3;have p1 := (hbel.cell (World.block_lt_of_cell? _ _ P1.out)).trans P1.out
    by_cases hlt2 : j < Kt
    ·obtain ⟨x,hx⟩ : ∃ r,xl[j]? = some r := ⟨_,List.getElem?_eq_getElem (by rw [HKt.out]; exact hlt2)⟩;obtain ⟨g3,off3,rfl,k1⟩ := T1.out.get hx;obtain ⟨z1,n1,e1,z2,n2,e2,y0,y1,y2,y3,y4,y5⟩ := trs_get k1;have HX2 : Hid (xl[j]? = some x) := hx;have HSY : Hid (SmN n' x) := HSX.out.2 x (List.mem_of_getElem? hx);have HIN : Hid (TrIn n' w (.agg #[.int .i64 x.kind,.int .i64 x.n,.string x.s,.slice z1 n1 e1,.slice z2 n2 e2]) x) := y5;have HCE : Hid (w.cell? ⟨g3,off3 + j * 5,none⟩ = some (.int .i64 x.kind) ∧ w.cell? ⟨g3,off3 + j * 5 + 1,none⟩ = some (.int .i64 x.n) ∧ w.cell? ⟨g3,off3 + j * 5 + 2,none⟩ = some (.string x.s) ∧ w.cell? ⟨g3,off3 + j * 5 + 3,none⟩ = some (.slice z1 n1 e1) ∧ w.cell? ⟨g3,off3 + j * 5 + 4,none⟩ = some (.slice z2 n2 e2)) := ⟨y0,y1,y2,y3,y4⟩;clear y0 y1 y2 y3 y4 y5 k1 hx;go_wp2_with fail;clear q3 p1;refine M_region (T := fun W => W.cell? ⟨by',1,none⟩ = some (.slice ta j tc) ∧ W.cell? ⟨b0,3,none⟩ = some (.slice (some ⟨ge,off,none⟩) Ke ce) ∧ W.cell? ⟨ge,off + i * 2 + 1,none⟩ = some (.slice (some ⟨g3,off3,none⟩) Kt ct) ∧ W.cell? ⟨g3,off3 + j * 5,none⟩ = some (.int .i64 x.kind) ∧ W.cell? ⟨g3,off3 + j * 5 + 1,none⟩ = some (.int .i64 x.n) ∧ W.cell? ⟨g3,off3 + j * 5 + 2,none⟩ = some (.string x.s) ∧ W.cell? ⟨g3,off3 + j * 5 + 3,none⟩ = some (.slice z1 n1 e1) ∧ W.cell? ⟨g3,off3 + j * 5 + 4,none⟩ = some (.slice z2 n2 e2)) (m := 15) (by kernel_rfl) ?_;have hdr : Below wr.heap.size wr wr.drew := (Below.refl _ _).drew;have HSZ : Hid (wr.drew.heap.size = wr.heap.size) := hid (rfl);have HRYd : Hid (RowO (TrO n' (b0 + 2)) (b0 + 2) 33 5 wr.drew (.slice ta j tc) (xl.take j) rows' bss') := HRY.out.sm (fun _ _ => rfl) fun _ _ _ hp hb => hp.sm hb
     have HAPd : Hid (Apt (b0 + 2) wr.drew ((([bt] ++ blkOf (.slice ua Kr uc)) ++ allB (.slice va i vc) bss ++ [by']) ++ allB (.slice ta j tc) bss')) := HAP.out.mono (Nat.le_refl _)
     have BYd : Blk wr.drew by' #[.int .i64 xt,.slice ta j tc] 80 := BY.out
     have HCPd : Hid (CpS n' (b0 + 2) b0 bt #[.int .i64 K,.int .i64 N,.string S,.slice (some ⟨ge,off,none⟩) Ke ce,.slice pr Kr cr] K N S (.slice va i vc) (.slice ua Kr uc) (t.es.take i) t.rest rows bss wr.drew) := HCP.out.sm (fun _ _ => rfl);have hbd : Below w.heap.size w wr.drew := hbel.trans (hdr.mono hbel.size);generalize wr.drew = W0 at *;clear HRY HAP BY HCP hbel HSZ hdr
     have hTb : ∀ W,Below w.heap.size w W → Blk W by' #[.int .i64 xt,.slice ta j tc] 80 → Blk W b0 #[.int .i64 K,.int .i64 N,.string S,.slice (some ⟨ge,off,none⟩) Ke ce,.slice pr Kr cr] 33 → W.cell? ⟨by',1,none⟩ = some (.slice ta j tc) ∧ W.cell? ⟨b0,3,none⟩ = some (.slice (some ⟨ge,off,none⟩) Ke ce) ∧ W.cell? ⟨ge,off + i * 2 + 1,none⟩ = some (.slice (some ⟨g3,off3,none⟩) Kt ct) ∧ W.cell? ⟨g3,off3 + j * 5,none⟩ = some (.int .i64 x.kind) ∧ W.cell? ⟨g3,off3 + j * 5 + 1,none⟩ = some (.int .i64 x.n) ∧ W.cell? ⟨g3,off3 + j * 5 + 2,none⟩ = some (.string x.s) ∧ W.cell? ⟨g3,off3 + j * 5 + 3,none⟩ = some (.slice z1 n1 e1) ∧ W.cell? ⟨g3,off3 + j * 5 + 4,none⟩ = some (.slice z2 n2 e2) := fun W hW h1 h2 => by
      obtain ⟨y0,y1,y2,y3,y4⟩ := HCE.out;exact ⟨h1.cell 1,h2.cell 3,(hW.cell (World.block_lt_of_cell? _ _ P1.out)).trans P1.out,(hW.cell (World.block_lt_of_cell? _ _ y0)).trans y0,(hW.cell (World.block_lt_of_cell? _ _ y1)).trans y1,(hW.cell (World.block_lt_of_cell? _ _ y2)).trans y2,(hW.cell (World.block_lt_of_cell? _ _ y3)).trans y3,(hW.cell (World.block_lt_of_cell? _ _ y4)).trans y4⟩
     have hT := hTb W0 hbd BYd HCPd.out.bx;refine M_tk 0 42 (.pointer (some ⟨by',1,none⟩)) (fun w' hw' => ?_) hT (bts 16 1) ?_
     ·obtain ⟨f0,f1,f2,f3,f4,f5,f6,f7⟩ := hw'; go_simp
     refine M_tk 2 44 (.pointer (some ⟨b0,3,none⟩)) (fun w' hw' => ?_) hT (bts 16 5) ?_
     ·obtain ⟨f0,f1,f2,f3,f4,f5,f6,f7⟩ := hw'; go_simp
     refine M_tk 4 46 (.int .i64 (i : Int)) (fun w' hw' => ?_) hT (bts 16 21) ?_
     ·obtain ⟨f0,f1,f2,f3,f4,f5,f6,f7⟩ := hw'; go_simp
     refine M_tk 8 50 (.int .i64 (j : Int)) (fun w' hw' => ?_) hT (bts 16 277) ?_
     ·obtain ⟨f0,f1,f2,f3,f4,f5,f6,f7⟩ := hw'; go_simp
     refine M_tk 1 43 (.slice ta j tc) (fun w' hw' => ?_) hT (bts 16 279) ?_
     ·obtain ⟨f0,f1,f2,f3,f4,f5,f6,f7⟩ := hw'; go_simp
     refine M_tk 3 45 (.slice (some ⟨ge,off,none⟩) Ke ce) (fun w' hw' => ?_) hT (bts 16 287) ?_
     ·obtain ⟨f0,f1,f2,f3,f4,f5,f6,f7⟩ := hw'; go_simp
     refine M_tk 5 47 (.pointer (some ⟨ge,off + i * 2,none⟩)) (fun w' hw' => ?_) hT (bts 16 319) ?_
     ·obtain ⟨f0,f1,f2,f3,f4,f5,f6,f7⟩ := hw'; go_simp
     refine M_tk 6 48 (.pointer (some ⟨ge,off + i * 2 + 1,none⟩)) (fun w' hw' => ?_) hT (bts 16 383) ?_
     ·obtain ⟨f0,f1,f2,f3,f4,f5,f6,f7⟩ := hw'; go_simp
     refine M_tk 7 49 (.slice (some ⟨g3,off3,none⟩) Kt ct) (fun w' hw' => ?_) hT (bts 16 511) ?_
     ·obtain ⟨f0,f1,f2,f3,f4,f5,f6,f7⟩ := hw'; go_simp
     refine M_tk 9 51 (.pointer (some ⟨g3,off3 + j * 5,none⟩)) (fun w' hw' => ?_) hT (bts 16 1023) ?_
     ·obtain ⟨f0,f1,f2,f3,f4,f5,f6,f7⟩ := hw'; go_simp
     refine M_tk 10 52 (.agg #[.int .i64 x.kind,.int .i64 x.n,.string x.s,.slice z1 n1 e1,.slice z2 n2 e2]) (fun w' hw' => ?_) hT (bts 16 2047) ?_
     ·obtain ⟨f0,f1,f2,f3,f4,f5,f6,f7⟩ := hw'; go_simp
     refine M_cl 11 53 20 #[.agg #[.int .i64 x.kind,.int .i64 x.n,.string x.s,.slice z1 n1 e1,.slice z2 n2 e2]] (bts 16 4095) rfl (fun W => by go_simp) ?_;refine (IH x _ W0 (HIN.out.below hbd) HSY.out).mono ?_;rintro e W1 ⟨v,bs,rfl,⟨r,rfl,hO,hA⟩,hb1⟩;obtain ⟨a1,m1,c1,a2,m2,c2,rfl⟩ := hO.open;have hbw1 : Below w.heap.size w W1 := hbd.trans (hb1.mono hbd.size);have BY1 := BYd.below hb1;have HRY1 : Hid (RowO (TrO n' (b0 + 2)) (b0 + 2) 33 5 W1 (.slice ta j tc) (xl.take j) rows' bss') := HRYd.out.sm (Sm.below hb1 fun k hk => (HAPd.out.2 k (by simp only [List.mem_append]; exact .inr hk)).2) fun _ _ _ hp hb => hp.sm hb
     have HCP1 : Hid (CpS n' (b0 + 2) b0 bt #[.int .i64 K,.int .i64 N,.string S,.slice (some ⟨ge,off,none⟩) Ke ce,.slice pr Kr cr] K N S (.slice va i vc) (.slice ua Kr uc) (t.es.take i) t.rest rows bss W1) := HCPd.out.sm (Sm.below hb1 (HCPd.out.lt (more := [by'] ++ allB (.slice ta j tc) bss') (HAPd.out.of_count fun k => by simp only [List.count_append]; omega)))
     have hW0B : b0 + 2 ≤ W0.heap.size := by have := (HAPd.out.2 by' (by simp)); omega
     have HAP1 : Hid (Apt (b0 + 2) W1 ((([bt] ++ blkOf (.slice ua Kr uc)) ++ allB (.slice va i vc) bss ++ [by']) ++ (allB (.slice ta j tc) bss' ++ bs))) := (HAPd.out.append hA hW0B (Nat.le_refl _) hb1.size).of_count fun k => by simp only [List.count_append]; omega
     have HTO : Hid (TrO n' (b0 + 2) W1 [.int .i64 x.kind,.int .i64 x.n,.string x.s,.slice a1 m1 c1,.slice a2 m2 c2] x bs) := hO.base hW0B;have hT1 := hTb W1 hbw1 BY1 HCP1.out.bx;refine ⟨_,rfl,hT1,?_⟩;simp only [zsA,zsZ,zsS];clear HRYd HAPd BYd HCPd hbd hO hA hT HIN;have hal : Below W1.heap.size W1 (W1.alloc (.cells #[.int .i64 x.kind,.int .i64 x.n,.string x.s,.slice a1 m1 c1,.slice a2 m2 c2] 33)) := bra _;have hbw3 : Below w.heap.size w (W1.alloc (.cells #[.int .i64 x.kind,.int .i64 x.n,.string x.s,.slice a1 m1 c1,.slice a2 m2 c2] 33)) := hbw1.trans (hal.mono hbw1.size);have BE := Blk.new W1 #[.int .i64 x.kind,.int .i64 x.n,.string x.s,.slice a1 m1 c1,.slice a2 m2 c2] 33;have BY3 := BY1.below hal;have HRY3 : Hid (RowO (TrO n' (b0 + 2)) (b0 + 2) 33 5 (W1.alloc (.cells #[.int .i64 x.kind,.int .i64 x.n,.string x.s,.slice a1 m1 c1,.slice a2 m2 c2] 33)) (.slice ta j tc) (xl.take j) rows' bss') := HRY1.out.sm (Sm.below hal fun k hk => (HAP1.out.2 k (by simp only [List.mem_append]; exact .inr (.inl hk))).2) fun _ _ _ hp hb => hp.sm hb
     have HCP3 : Hid (CpS n' (b0 + 2) b0 bt #[.int .i64 K,.int .i64 N,.string S,.slice (some ⟨ge,off,none⟩) Ke ce,.slice pr Kr cr] K N S (.slice va i vc) (.slice ua Kr uc) (t.es.take i) t.rest rows bss (W1.alloc (.cells #[.int .i64 x.kind,.int .i64 x.n,.string x.s,.slice a1 m1 c1,.slice a2 m2 c2] 33))) := HCP1.out.sm (Sm.below hal (HCP1.out.lt (more := [by'] ++ (allB (.slice ta j tc) bss' ++ bs)) (HAP1.out.of_count fun k => by simp only [List.count_append]; omega)));have HAP3 : Hid (Apt (b0 + 2) (W1.alloc (.cells #[.int .i64 x.kind,.int .i64 x.n,.string x.s,.slice a1 m1 c1,.slice a2 m2 c2] 33)) ((([bt] ++ blkOf (.slice ua Kr uc)) ++ allB (.slice va i vc) bss ++ [by']) ++ (allB (.slice ta j tc) bss' ++ bs))) := HAP1.out.mono hal.size;have HTO3 : Hid (TrO n' (b0 + 2) (W1.alloc (.cells #[.int .i64 x.kind,.int .i64 x.n,.string x.s,.slice a1 m1 c1,.slice a2 m2 c2] 33)) [.int .i64 x.kind,.int .i64 x.n,.string x.s,.slice a1 m1 c1,.slice a2 m2 c2] x bs) := HTO.out.sm (Sm.below hal fun k hk => (HAP1.out.2 k (by simp only [List.mem_append]; exact .inr (.inr hk))).2)
     have hW3B : b0 + 2 ≤ (W1.alloc (.cells #[.int .i64 x.kind,.int .i64 x.n,.string x.s,.slice a1 m1 c1,.slice a2 m2 c2] 33)).heap.size := by have := hb1.size; simp; omega
     have hT3 := hTb _ hbw3 BY3 HCP3.out.bx;obtain ⟨bz,hbz⟩ : ∃ n,W1.heap.size = n := ⟨_,rfl⟩;refine M_rn 12 54 (.slice (some ⟨W1.heap.size,0,none⟩) 1 1) ((W1.alloc (.cells #[.int .i64 x.kind,.int .i64 x.n,.string x.s,.slice a1 m1 c1,.slice a2 m2 c2] 33))) (bts 16 8191) rfl (by go_simp) hT3 ?_;simp only [zsA,zsZ,zsS];rw [hbz] at BE ⊢;generalize (W1.alloc (.cells #[.int .i64 x.kind,.int .i64 x.n,.string x.s,.slice a1 m1 c1,.slice a2 m2 c2] 33)) = W3 at *;clear hbz hal HRY1 HCP1 HAP1 HTO BY1 hbw1 hT1 hb1;obtain ⟨i0,hi0,hz0,hz1,hz2⟩ := info_parts infoTr;have hown := HRY3.out.own
     have hlj : (xl.take j).length = j := by rw [List.length_take,HKt.out]; omega
     rw [hlj] at hown
     obtain ⟨v',W4,r1,r2,r3,_,r5⟩ := run_append_own_at W3 (b0 + 2) 78 78 33 i0 _ 5 80 Tryz.underlying78 hi0 hz0 hz1 hz2 rfl (by decide) (.slice ta j tc) j _ hown ⟨bz,0,none⟩ 1 1 [.int .i64 x.kind,.int .i64 x.n,.string x.s,.slice a1 m1 c1,.slice a2 m2 c2] rfl (fun j u hu => by
      have := BE.cell j;rw [Addr.add_lit,Nat.zero_add,this]
      simpa using hu) (fun u hu => by
      simp only [List.mem_cons,List.not_mem_nil,or_false] at hu
      rcases hu with rfl | rfl | rfl | rfl | rfl <;> rfl) (by unfold maxLen; omega) (by omega) hW3B
     have HRUN : Hid _ := r1
     have HRY4 : Hid (RowO (TrO n' (b0 + 2)) (b0 + 2) 33 5 W4 v' (xl.take (j + 1)) (rows' ++ [[.int .i64 x.kind,.int .i64 x.n,.string x.s,.slice a1 m1 c1,.slice a2 m2 c2]]) (bss' ++ [bs])) := by
      show RowO _ _ _ _ _ _ _ _ _
      rw [take_atC HX2.out];exact HRY3.out.push (HAP3.out.of_count fun k => by simp only [List.count_append]; omega) (by rw [hlj]; exact r2) r3 HTO3.out rfl fun _ _ _ hp hb => hp.sm hb
     have HAP4 : Hid (Apt (b0 + 2) W4 ((([bt] ++ blkOf (.slice ua Kr uc)) ++ allB (.slice va i vc) bss ++ [by']) ++ allB v' (bss' ++ [bs]))) := HAP3.out.push r5 r2 r3.size hW3B;have hno : ∀ k ∈ (([bt] ++ blkOf (.slice ua Kr uc)) ++ allB (.slice va i vc) bss ++ [by']),k ∉ blkOf (.slice ta j tc) := fun k hk hq => HAP3.out.apart k hk (by simp [allB,hq])
     have HCP4 : Hid (CpS n' (b0 + 2) b0 bt #[.int .i64 K,.int .i64 N,.string S,.slice (some ⟨ge,off,none⟩) Ke ce,.slice pr Kr cr] K N S (.slice va i vc) (.slice ua Kr uc) (t.es.take i) t.rest rows bss W4) := HCP3.out.sm (grown_sm r3 (HCP3.out.lt (more := [by'] ++ (allB (.slice ta j tc) bss' ++ bs)) (HAP3.out.of_count fun k => by simp only [List.count_append]; omega)) fun k hk hq => by
      have h9 := own_lt hown (mem_blkOf.1 hq);simp only [List.cons_append,List.nil_append,List.mem_cons] at hk
      rcases hk with rfl | rfl | rfl | hk
      ·omega
      ·omega
      ·exact hno _ (by simp) hq
      ·exact hno k (by simp only [List.mem_append] at hk ⊢; rcases hk with hk | hk <;> simp [hk]) hq)
     have BY4 : Blk W4 by' #[.int .i64 xt,.slice ta j tc] 80 := (r3.block by' BY3.lt (fun e => hno by' (by simp) (mem_blkOf.2 e.symm))).trans BY3
     have hbw4 : Below w.heap.size w W4 := hbw3.grown r3 hbw3.size (fun k hk => by have := (own_lt hown hk).1; have := HBZ.out; omega);have hT4 := hTb W4 hbw4 BY4 HCP4.out.bx;obtain ⟨na,nc,hv'⟩ := own_form r2;subst hv';clear r1 r2 r3 r5 hown HRY3 HAP3 HCP3 HTO3 BY3 hbw3 hT3 BE hno;refine M_rn 13 55 (.slice na (j + 1) nc) (W4) (bts 16 16383) rfl (append_run rfl rfl rfl HRUN.out) hT4 ?_;simp only [zsA,zsZ,zsS];clear HRUN;refine M_tk 14 56 (.pointer (some ⟨by',1,none⟩)) (fun w' hw' => ?_) hT4 (bts 16 32767) ?_
     ·obtain ⟨f0,f1,f2,f3,f4,f5,f6,f7⟩ := hw'; go_simp
     have s1 := (BY4.cell 1).trans rfl;have s2 := BY4.froz 1;refine M_st 15 (W4.setCell ⟨by',1,none⟩ (.slice na (j + 1) nc)) (bts 16 65535) rfl (by go_simp) ?_;refine M_done (by kernel_rfl) ?_ _
     have KS : Kp (fun q => q = by') W4 (W4.setCell ⟨by',1,none⟩ (.slice na (j + 1) nc)) := by
      refine Kp.setCell ?_ (fun _ => by simp) _;exact Kp.refl _ _
     have hsmY : ∀ bs : List Nat,(∀ k ∈ bs,k < W4.heap.size) → (∀ k ∈ bs,k ≠ by') → Sm W4 (W4.setCell ⟨by',1,none⟩ (.slice na (j + 1) nc)) bs := fun bs h1 h2 k hk => KS.block k (h1 k hk) (h2 k hk)
     have BY5 : Hid (Blk (W4.setCell ⟨by',1,none⟩ (.slice na (j + 1) nc)) by' #[.int .i64 xt,.slice na (j + 1) nc] 80) := BY4.set 1 _ rfl
     have hnb : ∀ k ∈ (([bt] ++ blkOf (.slice ua Kr uc)) ++ allB (.slice va i vc) bss) ++ allB (.slice na (j + 1) nc) (bss' ++ [bs]),k ≠ by' := fun k hk e => by
      subst e;exact (HAP4.out.of_count (cs := ((([bt] ++ blkOf (.slice ua Kr uc)) ++ allB (.slice va i vc) bss) ++ allB (.slice na (j + 1) nc) (bss' ++ [bs])) ++ [k]) fun q => by simp only [List.count_append]; omega).apart k hk (by simp)
     have HRY5 : Hid (RowO (TrO n' (b0 + 2)) (b0 + 2) 33 5 (W4.setCell ⟨by',1,none⟩ (.slice na (j + 1) nc)) (.slice na (j + 1) nc) (xl.take (j + 1)) (rows' ++ [[.int .i64 x.kind,.int .i64 x.n,.string x.s,.slice a1 m1 c1,.slice a2 m2 c2]]) (bss' ++ [bs])) := HRY4.out.sm (hsmY _ (fun k hk => (HAP4.out.2 k (List.mem_append.2 (.inr hk))).2) fun k hk => hnb k (List.mem_append.2 (.inr hk))) fun _ _ _ hp hb => hp.sm hb
     have HAP5 : Hid (Apt (b0 + 2) (W4.setCell ⟨by',1,none⟩ (.slice na (j + 1) nc)) ((([bt] ++ blkOf (.slice ua Kr uc)) ++ allB (.slice va i vc) bss ++ [by']) ++ allB (.slice na (j + 1) nc) (bss' ++ [bs]))) := HAP4.out.mono KS.size
     have hbyB : b0 + 2 ≤ by' := (HAP4.out.2 by' (by simp)).1
     have HCP5 : Hid (CpS n' (b0 + 2) b0 bt #[.int .i64 K,.int .i64 N,.string S,.slice (some ⟨ge,off,none⟩) Ke ce,.slice pr Kr cr] K N S (.slice va i vc) (.slice ua Kr uc) (t.es.take i) t.rest rows bss (W4.setCell ⟨by',1,none⟩ (.slice na (j + 1) nc))) := HCP4.out.sm (hsmY _ (HCP4.out.lt (more := [by'] ++ allB (.slice na (j + 1) nc) (bss' ++ [bs])) (HAP4.out.of_count fun k => by simp only [List.count_append]; omega)) fun k hk => by
      simp only [List.cons_append,List.nil_append,List.mem_cons] at hk
      rcases hk with rfl | rfl | rfl | hk
      ·omega
      ·omega
      ·exact hnb _ (by simp)
      ·exact hnb k (by simp only [List.mem_append] at hk ⊢; rcases hk with hk | hk <;> simp [hk]))
     have hbw5 : Below w.heap.size w (W4.setCell ⟨by',1,none⟩ (.slice na (j + 1) nc)) := hbw4.trans (KS.toBelow hbw4.size (fun q e => by have := HBZ.out; omega));generalize (W4.setCell ⟨by',1,none⟩ (.slice na (j + 1) nc)) = W5 at *;clear s1 s2 KS BY4 HRY4 HAP4 HCP4 hbw4 hT4 hTb hsmY hnb HCE HSY;go_wp2_with fail
     go_roundw
     case rel => exact ⟨j + 1,_,_,_,_,by go_num,by omega,HRY5,HAP5,BY5,HCP5,hbw5⟩
     case measure => simp [intOf]; omega
    ·obtain rfl : j = Kt := by omega
     have HRYF : Hid (RowO (TrO n' (b0 + 2)) (b0 + 2) 33 5 wr (.slice ta j tc) xl rows' bss') := by
      have := HRY.out;rw [List.take_of_length_le (by rw [HKt.out]; omega)] at this;exact this
     have w3 : wr.cell? ⟨bt,3,none⟩ = some (.slice va i vc) := HCP.out.bt.cell 3;have w0' : wr.cell? ⟨by',0,none⟩ = some (.int .i64 xt) := BY.out.cell 0;have w1' : wr.cell? ⟨by',1,none⟩ = some (.slice ta j tc) := BY.out.cell 1;have hal : Below wr.heap.size wr (wr.alloc (.cells #[.int .i64 xt,.slice ta j tc] 80)) := bra _;have BE : Blk (wr.alloc (.cells #[.int .i64 xt,.slice ta j tc] 80)) wr.heap.size #[.int .i64 xt,.slice ta j tc] 80 := Blk.new wr _ _
     have HAP9 : Hid (Apt (b0 + 2) (wr.alloc (.cells #[.int .i64 xt,.slice ta j tc] 80)) (([bt] ++ blkOf (.slice ua Kr uc)) ++ (allB (.slice va i vc) bss ++ allB (.slice ta j tc) bss'))) := (HAP.out.mono hal.size).of_count fun k => by simp only [List.count_append]; omega
     have HCP9 : Hid (CpS n' (b0 + 2) b0 bt #[.int .i64 K,.int .i64 N,.string S,.slice (some ⟨ge,off,none⟩) Ke ce,.slice pr Kr cr] K N S (.slice va i vc) (.slice ua Kr uc) (t.es.take i) t.rest rows bss (wr.alloc (.cells #[.int .i64 xt,.slice ta j tc] 80))) := HCP.out.sm (Sm.below hal (HCP.out.lt (more := [by'] ++ allB (.slice ta j tc) bss') (HAP.out.of_count fun k => by simp only [List.count_append]; omega)));have HEN9 : Hid (EtO (TrO n' (b0 + 2)) (b0 + 2) (wr.alloc (.cells #[.int .i64 xt,.slice ta j tc] 80)) [.int .i64 xt,.slice ta j tc] (xt,xl) (allB (.slice ta j tc) bss')) := ⟨_,rows',bss',rfl,H64.out,HRYF.out.sm (Sm.below hal fun k hk => (HAP.out.2 k (List.mem_append.2 (.inr hk))).2) fun _ _ _ hp hb => hp.sm hb,rfl⟩;have hbw9 : Below w.heap.size w (wr.alloc (.cells #[.int .i64 xt,.slice ta j tc] 80)) := hbel.trans (hal.mono hbel.size)
     have hW9B : b0 + 2 ≤ (wr.alloc (.cells #[.int .i64 xt,.slice ta j tc] 80)).heap.size := by have := (HAP.out.2 bt (by simp)); have := hal.size; omega
     have HRUN9 : Hid (∃ v' W4,(Builtin.append_ #[30,30] 30 #[.slice va i vc,.slice (some ⟨wr.heap.size,0,none⟩) 1 1]).run Tryz.prog (wr.alloc (.cells #[.int .i64 xt,.slice ta j tc] 80)) = .ok v' W4 ∧ W4.ownsRow (b0 + 2) 80 2 v' (i + 1) (rows.flatten ++ [.int .i64 xt,.slice ta j tc]) ∧ (wr.alloc (.cells #[.int .i64 xt,.slice ta j tc] 80)).grownBy W4 (Value.slice va i vc).ownBlock ∧ (v'.ownBlock = (Value.slice va i vc).ownBlock ∨ v'.ownBlock = some (wr.alloc (.cells #[.int .i64 xt,.slice ta j tc] 80)).heap.size)) := by
      obtain ⟨i0,hi0,hz0,hz1,hz2⟩ := info_parts infoEt;have hown := HCP9.out.row.own;rw [show (t.es.take i).length = i by rw [List.length_take,HKe.out]; omega] at hown
      obtain ⟨v',W4,r1,r2,r3,_,r5⟩ := run_append_own_at (wr.alloc (.cells #[.int .i64 xt,.slice ta j tc] 80)) (b0 + 2) 30 30 80 i0 _ 2 32 Tryz.underlying30 hi0 hz0 hz1 hz2 rfl (by decide) (.slice va i vc) i _ hown ⟨wr.heap.size,0,none⟩ 1 1 [.int .i64 xt,.slice ta j tc] rfl (fun j u hu => by
       have := BE.cell j;rw [Addr.add_lit,Nat.zero_add,this]
       simpa using hu) (fun u hu => by
       simp only [List.mem_cons,List.not_mem_nil,or_false] at hu
       rcases hu with rfl | rfl <;> rfl) (by unfold maxLen; omega) (by omega) hW9B
      exact ⟨v',W4,r1,r2,r3,r5⟩
     obtain ⟨v',W4,r1,r2,r3,r5⟩ := HRUN9.out
     have hli : (t.es.take i).length = i := by rw [List.length_take,HKe.out]; omega
     have HROW4 : Hid (RowO (EtO (TrO n' (b0 + 2)) (b0 + 2)) (b0 + 2) 80 2 W4 v' (t.es.take (i + 1)) (rows ++ [[.int .i64 xt,.slice ta j tc]]) (bss ++ [allB (.slice ta j tc) bss'])) := by
      show RowO _ _ _ _ _ _ _ _ _
      rw [take_atC HX.out];exact HCP9.out.row.push (HAP9.out.of_count fun k => by simp only [List.count_append]; omega) (by rw [hli]; exact r2) r3 HEN9.out rfl fun _ _ _ hp hb => hp.sm hb
     have HAP4 : Hid (Apt (b0 + 2) W4 (([bt] ++ blkOf (.slice ua Kr uc)) ++ allB v' (bss ++ [allB (.slice ta j tc) bss']))) := HAP9.out.push r5 r2 r3.size hW9B;have hno : ∀ k ∈ [bt] ++ blkOf (.slice ua Kr uc),k ∉ blkOf (.slice va i vc) := fun k hk hq => HAP9.out.apart k hk (by simp [allB,hq])
     have HLO : Hid (∀ k,(Value.slice va i vc).ownBlock = some k → b0 + 2 ≤ k) := fun k hk => (own_lt HCP9.out.row.own hk).1
     have hsm4 : ∀ bs : List Nat,(∀ k ∈ bs,k < (wr.alloc (.cells #[.int .i64 xt,.slice ta j tc] 80)).heap.size) → (∀ k ∈ bs,k ∉ blkOf (.slice va i vc)) → Sm (wr.alloc (.cells #[.int .i64 xt,.slice ta j tc] 80)) W4 bs := fun bs h1 h2 => grown_sm r3 h1 h2
     have BT4 : Blk W4 bt #[.int .i64 K,.int .i64 N,.string S,.slice va i vc,(.slice ua Kr uc)] 33 := (hsm4 [bt] (by have := HCP9.out.bt.lt; simpa using this) (by intro k hk; exact hno k (by simp at hk; simp [hk])) bt (by simp)).trans HCP9.out.bt;have BX4 : Blk W4 b0 #[.int .i64 K,.int .i64 N,.string S,.slice (some ⟨ge,off,none⟩) Ke ce,.slice pr Kr cr] 33 := (hsm4 [b0] (by have := HCP9.out.bx.lt; simpa using this) (by intro k hk hq; simp at hk; have := HLO.out k (mem_blkOf.1 hq); omega) b0 (by simp)).trans HCP9.out.bx;have BR4 : Blk W4 (b0 + 1) #[.int .i64 0,.int .i64 0,.string ⟨#[]⟩,.slice none 0 0,.slice none 0 0] 33 := (hsm4 [b0 + 1] (by have := HCP9.out.br.lt; simpa using this) (by intro k hk hq; simp at hk; have := HLO.out k (mem_blkOf.1 hq); omega) (b0 + 1) (by simp)).trans HCP9.out.br;have HO4 : Hid (W4.ownsRow (b0 + 2) 61 4 (.slice ua Kr uc) t.rest.length (rawCells t.rest)) := own_sm HCP9.out.rst (hsm4 _ (fun k hk => (own_lt HCP9.out.rst (mem_blkOf.1 hk)).2) fun k hk => hno k (by simp [hk]));have hbw4 : Below w.heap.size w W4 := hbw9.grown r3 hbw9.size (fun k hk => by have := HLO.out k hk; have := HBZ.out; omega);obtain ⟨na,nc,hv'⟩ := own_form r2;subst hv';have s3 := (BT4.cell 3).trans rfl;have s4 := BT4.froz 3;clear r2 r3 r5 hsm4 hno HRUN9 HAP9 HCP9 HEN9 hW9B hbw9 HRY HAP BY HCP hbel BE
     go_wp2_with (first | (at_builtin; refine wpList_ran rfl (append_run rfl rfl rfl r1) ?_) | fail)
     clear w3 w0' w1' r1 hal q3 p1;go_wp2_with fail
     have KS : Kp (fun q => q = bt) W4 (W4.setCell ⟨bt,3,none⟩ (.slice na (i + 1) nc)) := by
      refine Kp.setCell ?_ (fun _ => by simp) _;exact Kp.refl _ _
     have hnb : ∀ k ∈ blkOf (.slice ua Kr uc) ++ allB (.slice na (i + 1) nc) (bss ++ [allB (.slice ta j tc) bss']),k ≠ bt := fun k hk e => by
      subst e;exact (HAP4.out.of_count (cs := [k] ++ (blkOf (.slice ua Kr uc) ++ allB (.slice na (i + 1) nc) (bss ++ [allB (.slice ta j tc) bss']))) fun q => by simp only [List.count_append]; omega).apart k (by simp) hk
     have hsm5 : ∀ bs : List Nat,(∀ k ∈ bs,k < W4.heap.size) → (∀ k ∈ bs,k ≠ bt) → Sm W4 (W4.setCell ⟨bt,3,none⟩ (.slice na (i + 1) nc)) bs := fun bs h1 h2 k hk => KS.block k (h1 k hk) (h2 k hk)
     have HCP5 : Hid (CpS n' (b0 + 2) b0 bt #[.int .i64 K,.int .i64 N,.string S,.slice (some ⟨ge,off,none⟩) Ke ce,.slice pr Kr cr] K N S (.slice na (i + 1) nc) (.slice ua Kr uc) (t.es.take (i + 1)) t.rest (rows ++ [[.int .i64 xt,.slice ta j tc]]) (bss ++ [allB (.slice ta j tc) bss']) (W4.setCell ⟨bt,3,none⟩ (.slice na (i + 1) nc))) :=
      ⟨HROW4.out.sm (hsm5 _ (fun k hk => (HAP4.out.2 k (List.mem_append.2 (.inr hk))).2) fun k hk => hnb k (List.mem_append.2 (.inr hk))) fun _ _ _ hp hb => hp.sm hb,own_sm HO4.out (hsm5 _ (fun k hk => (own_lt HO4.out (mem_blkOf.1 hk)).2) fun k hk => hnb k (List.mem_append.2 (.inl hk))),BT4.set 3 _ rfl,BX4.kp KS (by omega),BR4.kp KS (by omega)⟩
     have HAP5 : Hid (Apt (b0 + 2) (W4.setCell ⟨bt,3,none⟩ (.slice na (i + 1) nc)) (([bt] ++ blkOf (.slice ua Kr uc)) ++ allB (.slice na (i + 1) nc) (bss ++ [allB (.slice ta j tc) bss']))) := HAP4.out.mono KS.size;have hbw5 : Below w.heap.size w (W4.setCell ⟨bt,3,none⟩ (.slice na (i + 1) nc)) := hbw4.trans (KS.toBelow hbw4.size (fun q e => by have := HBZ.out; omega))
     go_roundw
     case rel => exact ⟨i + 1,_,_,_,_,by go_num,by omega,HCP5,HAP5,hbw5⟩
     case measure => simp [intOf]; omega
  ·obtain rfl : i = Ke := by omega
   obtain ⟨s0,s1,s2,s3,s4⟩ := cl5 HCP.out.bt;obtain ⟨y0,y1,y2,y3,y4⟩ := cl5 HCP.out.br;obtain ⟨z0,z1,z2,z3,z4⟩ := fz5 HCP.out.br;go_wp2_with fail
   have KS : Kp (fun q => q = b0 + 1) wr (((((wr.setCell ⟨b0 + 1,0,none⟩ (.int .i64 K)).setCell ⟨b0 + 1,1,none⟩ (.int .i64 N)).setCell ⟨b0 + 1,2,none⟩ (.string S)).setCell ⟨b0 + 1,3,none⟩ (.slice va i vc)).setCell ⟨b0 + 1,4,none⟩ (.slice ua Kr uc)) := by
    refine Kp.setCell ?_ (fun _ => by simp) _;refine Kp.setCell ?_ (fun _ => by simp) _;refine Kp.setCell ?_ (fun _ => by simp) _;refine Kp.setCell ?_ (fun _ => by simp) _;refine Kp.setCell ?_ (fun _ => by simp) _;exact Kp.refl _ _
   refine bodyPost_ret (results_cell rfl _ _ _ ⟨b0 + 1,0,none⟩ (.agg #[.int .i64 K,.int .i64 N,.string S,.slice va i vc,(.slice ua Kr uc)]) (by go_simp) (by go_simp)) rfl ?_;have hrow := HCP.out.row;rw [List.take_of_length_le (by rw [HKe.out]; omega)] at hrow;have hsm : Sm wr (((((wr.setCell ⟨b0 + 1,0,none⟩ (.int .i64 K)).setCell ⟨b0 + 1,1,none⟩ (.int .i64 N)).setCell ⟨b0 + 1,2,none⟩ (.string S)).setCell ⟨b0 + 1,3,none⟩ (.slice va i vc)).setCell ⟨b0 + 1,4,none⟩ (.slice ua Kr uc)) (blkOf (.slice ua Kr uc) ++ allB (.slice va i vc) bss) := fun k hk => KS.block k (HAP.out.2 k (by simp only [List.mem_append] at hk ⊢; rcases hk with hk | hk <;> simp [hk])).2 (by have := (HAP.out.2 k (by simp only [List.mem_append] at hk ⊢; rcases hk with hk | hk <;> simp [hk])).1; omega)
   obtain ⟨f1,f2,f3,f4⟩ := HFA.out;have hbz := HBZ.out;refine ⟨_,blkOf (.slice ua Kr uc) ++ allB (.slice va i vc) bss,rfl,⟨_,rfl,TrO.base (B := b0 + 2) ⟨_,_,rows,bss,by rw [HKN.out.1,HKN.out.2.1,HKN.out.2.2],f1,f2,f3,f4,own_sm HCP.out.rst (hsm.mono fun k hk => List.mem_append.2 (.inl hk)),hrow.sm (hsm.mono fun k hk => List.mem_append.2 (.inr hk)) (fun _ _ _ hp hb => hp.sm hb),rfl⟩ (by omega),?_⟩,?_⟩
   ·exact ((HAP.out.of_count fun k => by simp only [List.count_append]; omega).mono KS.size).base (by omega)
   ·exact hbel.trans (KS.toBelow hbel.size (fun q e => by omega))
theorem copy_any : ∀ (n : Nat) (t : Tr) (v : Value) (w : World),TrIn n w v t → SmN n t → Calls Tryz.prog 20 #[v] w (CopyP n t w)
 | 0,t,v,w,h,_ => by obtain ⟨r,_,h⟩ := h; exact h.elim
 | n + 1,t,v,w,h,hs => copy_step n (fun t v w h hs => copy_any n t v w h hs) t v w h hs
end
section
open Go.ChangeShapes Go.WideShapes Go.ChangeAt Go.RowKit Go.Maps
theorem RowG.kpM {S : Nat → Prop} {w w1 : World} {v : Value} {size : Nat} {rs : List (List Value)} (h : RowG w v size rs) (hk : Kp S w w1) (hs : ∀ p u,w.cell? p = some u → ¬ S p.block) : RowG w1 v size rs := by
 obtain ⟨a,cap,h1,h2,h3,h0,h4⟩ := h.form;refine ⟨a,cap,h1,h2,h3,h0,fun hne => ?_⟩;obtain ⟨g,off,h5,h6⟩ := h4 hne;exact ⟨g,off,h5,fun i c u j hc hu => hk.cell (h6 i c u j hc hu) (hs _ _ (h6 i c u j hc hu))⟩
theorem SetK.no {k : TypeId} {w : World} {b n : Nat} {L : List Value} (h : SetK k w b n L) : ∀ p u,w.cell? p = some u → ¬ p.block = b := fun p u hc => h.ne hc rfl
theorem Kp.new {S : Nat → Prop} {w wr w1 : World} {b : Nat} (h : Kp S w wr) (h1 : Kp (fun k => k = b) wr w1) (hb : w.heap.size ≤ b) : Kp S w w1 := h.trans2 h1 (fun i hi e => by omega)
def FlW (f : FlS) : Prop := f.name.size ≤ 140737488351232 ∧ f.tname.size ≤ 140737488351232 ∧ I64 f.tag ∧ I64 f.label ∧ I64 f.kind
def NmW (f : NmS) : Prop := f.name.size ≤ 140737488351232 ∧ I64 f.n
def MtW (f : MtS) : Prop := f.name.size ≤ 140737488351232 ∧ f.inn.size ≤ 140737488351232 ∧ f.out.size ≤ 140737488351232
def MsW (m : MsS) : Prop := m.name.size ≤ 140737488351232 ∧ (∀ f ∈ m.fields,FlW f) ∧ ∀ n ∈ m.reserved,I64 n
def EnW (m : EnS) : Prop := m.name.size ≤ 140737488351232 ∧ ∀ f ∈ m.values,NmW f
structure ScW (s : ScS) : Prop where
 name : s.name.size ≤ 140737488351232
 msgs : ∀ m ∈ s.msgs,MsW m
 enums : ∀ m ∈ s.enums,EnW m
 meths : ∀ m ∈ s.methods,MtW m
theorem islabel_any (n : Int) (w : World) : Calls Tryz.prog 142 #[.int .i64 n] w fun e w' => e = .returned (.bool (labB n)) ∧ w' = w := by
 by_cases h1 : n = 1
 ·subst h1
  go_enter Tryz.func142,Tryz.ntmps142
  go_wp2_with fail;go_ret;exact ⟨rfl,rfl⟩
 ·by_cases h2 : n = 2
  ·subst h2
   go_enter Tryz.func142,Tryz.ntmps142
   go_wp2_with fail;go_ret;exact ⟨rfl,rfl⟩
  ·by_cases h3 : n = 3
   ·subst h3
    go_enter Tryz.func142,Tryz.ntmps142
    go_wp2_with fail;go_ret;exact ⟨rfl,rfl⟩
   ·have HF : Hid (false = labB n) := by show _ = _; unfold labB; rw [decide_eq_false (by omega)]
    have e1 : (n == 1) = false := by simpa using h1
    have e2 : (n == 2) = false := by simpa using h2
    have e3 : (n == 3) = false := by simpa using h3
    go_enter Tryz.func142,Tryz.ntmps142
    go_wp2_with fail;go_ret;exact ⟨ret_bool HF.out,rfl⟩
theorem msgtype_any (s : ByteArray) (w : World) : Calls Tryz.prog 98 #[.string s] w fun e w' => e = .returned (.agg #[.int .i64 7,.string s]) ∧ Below w.heap.size w w' := by
 go_enter Tryz.func98,Tryz.ntmps98
 go_wp2_with fail;refine bodyPost_ret (v := .agg #[.int .i64 7,.string s]) (by simp [results,Tryz.results98,go_sem]) rfl ⟨rfl,?_⟩;exact bra _
theorem iszero_any (s : ByteArray) (n : Int) (w : World) : Calls Tryz.prog 103 #[.agg #[.string s,.int .i64 n]] w fun e w' => e = .returned (.bool (decide (n = 0))) ∧ Below w.heap.size w w' := by
 have HE : Hid ((n == 0) = decide (n = 0)) := rfl
 go_enter Tryz.func103,Tryz.ntmps103
 go_wp2_with fail;go_ret;exact ⟨ret_bool HE.out,bra _⟩
def zeroM : MsS := ⟨⟨#[]⟩,[],[]⟩
def zeroN : EnS := ⟨⟨#[]⟩,[]⟩
def zeroF : FlS := ⟨⟨#[]⟩,0,0,0,⟨#[]⟩⟩
def flV (m : FlS) : Value := .agg #[.string m.name,.int .i64 m.tag,.int .i64 m.label,.int .i64 m.kind,.string m.tname]
theorem ret_two {a b c d : Value} (h1 : a = c) (h2 : b = d) : Ending.returned (.tuple #[a,b]) = .returned (.tuple #[c,d]) := by rw [h1,h2]
theorem bytes_ne {a b : ByteArray} (h : ¬ a = b) : (a.toList == b.toList) = false := by
 rw [ByteArray.toList_eq,ByteArray.toList_eq,beq_bytes]; exact decide_eq_false h
end
section
open Go.ChangeShapes Go.WideShapes Go.ChangeAt Go.RowKit
theorem Kp.sm {S : Nat → Prop} {w w' : World} {bs : List Nat} (h : Kp S w w') (hb : ∀ k ∈ bs,k < w.heap.size ∧ ¬ S k) : Sm w w' bs := fun k hk => h.block k (hb k hk).1 (hb k hk).2
theorem Apt.right {B : Nat} {w : World} {a b : List Nat} (h : Apt B w (a ++ b)) : Apt B w b := h.of_count fun k => by simp only [List.count_append]; omega
theorem Apt.left {B : Nat} {w : World} {a b : List Nat} (h : Apt B w (a ++ b)) : Apt B w a := h.of_count fun k => by simp only [List.count_append]; omega
theorem push_row {α : Type} {P : World → List Value → α → List Nat → Prop} {B e size bytes : Nat} {W : World} {v : Value} {xs : List α} {rows : List (List Value)} {bss : List (List Nat)} {r : List Value} {x : α} {b more : List Nat} {bz : Nat} {t : TypeId} {z : Value}
  (ht : Tryz.prog.underlying t = some (.slice e)) (hinfo : (Tryz.prog.info? e).map (fun i => (i.zero,i.size,i.bytes)) = some (some z,size,bytes)) (hzs : z.cells.size = size) (hsz : 0 < size) (hrow : RowO P B e size W v xs rows bss) (hap : Apt B W (more ++ (allB v bss ++ b))) (hP : P W r x b) (hr : r.length = size) (h1 : ∀ u ∈ r,u.oneCell' = true)
  (loc : ∀ w' r x b,P W r x b → Sm W w' b → P w' r x b) (BE : Blk W bz r.toArray e) (hn : xs.length ≤ 1000) (hby : bytes ≤ 1000) (hB : B ≤ W.heap.size) :
  ∃ v' W',(Builtin.append_ #[t,t] t #[v,.slice (some ⟨bz,0,none⟩) 1 1]).run Tryz.prog W = .ok v' W' ∧ RowO P B e size W' v' (xs ++ [x]) (rows ++ [r]) (bss ++ [b]) ∧ Apt B W' (more ++ allB v' (bss ++ [b])) ∧ (∃ a c,v' = .slice a (xs.length + 1) c) ∧ Kp (fun q => q ∈ blkOf v) W W' := by
 obtain ⟨i0,hi0,hz0,hz1,hz2⟩ := info_parts hinfo
 obtain ⟨v',W',r1,r2,r3,_,r5⟩ := run_append_own_at W B t t e i0 z size bytes ht hi0 hz0 hz1 hz2 hzs hsz v xs.length _ hrow.own ⟨bz,0,none⟩ 1 1 r (by rw [hr,Nat.one_mul]) (fun j u hu => by
  have := BE.cell j;rw [Addr.add_lit,Nat.zero_add,this]
  simpa using hu) h1 (by unfold maxLen; omega) (by
   have : (xs.length + 1) * bytes ≤ 1001 * 1000 := Nat.mul_le_mul (by omega) hby
   omega) hB
 obtain ⟨a,c,hv⟩ := own_form r2;refine ⟨v',W',r1,hrow.push hap.right r2 r3 hP hr (fun r x b hp hs => loc W' r x b hp hs),hap.push r5 r2 r3.size hB,⟨a,c,hv⟩,?_⟩;exact (Kp.refl _ _).grown r3 (fun k hk _ => mem_blkOf.2 hk)
section
variable {n b0 bt bm ba be bf : Nat} {SC MC LC : Array Value} {tg : Int} {a : Nat} {ve : Value} {es : List (Int × List Tr)} {rows : List (List Value)} {bss : List (List Nat)} {vt : Value} {ts : List Tr} {rows' : List (List Value)} {bss' : List (List Nat)} {w w' : World}
end
abbrev KE := Int × (Value × List Tr × List Nat)
def esK (K : List KE) : List (Int × List Tr) := K.map fun k => (k.1,k.2.2.1)
def vsK (K : List KE) : List (Int × Value) := K.map fun k => (k.1,k.2.1)
def fpK (K : List KE) : List Nat := K.flatMap fun k => k.2.2.2
theorem esK_set (tag : Int) (x : Value × List Tr × List Nat) (K : List KE) : esK (setE tag x K) = setE tag x.2.1 (esK K) := setE_map (fun y : Value × List Tr × List Nat => y.2.1) tag x K
theorem vsK_set (tag : Int) (x : Value × List Tr × List Nat) (K : List KE) : vsK (setE tag x K) = setE tag x.1 (vsK K) := setE_map (fun y : Value × List Tr × List Nat => y.1) tag x K
theorem esK_del (tag : Int) (K : List KE) : esK (delE tag K) = delE tag (esK K) := delE_map (fun y : Value × List Tr × List Nat => y.2.1) tag K
theorem vsK_del (tag : Int) (K : List KE) : vsK (delE tag K) = delE tag (vsK K) := delE_map (fun y : Value × List Tr × List Nat => y.1) tag K
theorem fpK_app (K K' : List KE) : fpK (K ++ K') = fpK K ++ fpK K' := by simp [fpK]
theorem fpK_cons (k : KE) (K : List KE) : fpK (k :: K) = k.2.2.2 ++ fpK K := by simp [fpK]
theorem cnt_two (tag : Int) (K : List KE) (q : Nat) : (fpK (K.filter fun e => decide (e.1 < tag))).count q + (fpK (K.filter fun e => decide (tag < e.1))).count q ≤ (fpK (delE tag K)).count q := by
 induction K with
 | nil => simp [fpK,delE]
 | cons a l ih =>
  simp only [delE] at ih ⊢;simp only [List.filter_cons]
  by_cases h1 : a.1 < tag
  ·have h2 : ¬ tag < a.1 := by omega
   have h3 : a.1 ≠ tag := by omega
   simp only [h1,h2,h3,decide_true,decide_false,if_true,ne_eq,not_false_eq_true,Bool.false_eq_true,if_false,fpK_cons,List.count_append] at ih ⊢
   omega
  ·by_cases h2 : tag < a.1
   ·have h3 : a.1 ≠ tag := by omega
    simp only [h1,h2,h3,decide_true,decide_false,if_true,ne_eq,not_false_eq_true,Bool.false_eq_true,if_false,fpK_cons,List.count_append] at ih ⊢
    omega
   ·have h3 : a.1 = tag := by omega
    simp only [h3,Int.lt_irrefl,decide_false,ne_eq,not_true_eq_false,Bool.false_eq_true,if_false] at ih ⊢;exact ih
theorem cnt_set (tag : Int) (x : Value × List Tr × List Nat) (K : List KE) (q : Nat) : (fpK (setE tag x K)).count q ≤ x.2.2.count q + (fpK (delE tag K)).count q := by
 have h := cnt_two tag K q
 show List.count q (fpK (K.filter (fun e => decide (e.1 < tag)) ++ (tag,x) :: K.filter (fun e => decide (tag < e.1)))) ≤ _
 rw [fpK_app,fpK_cons,List.count_append,List.count_append];exact Nat.le_trans (Nat.le_of_eq (Nat.add_left_comm _ _ _)) (Nat.add_le_add_left h _)
theorem cnt_del0 (tag : Int) (K : List KE) (q : Nat) : (fpK (delE tag K)).count q ≤ (fpK K).count q := by
 induction K with
 | nil => simp [fpK,delE]
 | cons a l ih =>
  simp only [delE] at ih ⊢;simp only [List.filter_cons]
  split
  ·simp only [fpK_cons,List.count_append]; omega
  ·simp only [fpK_cons,List.count_append]; omega
theorem cnt_del {K : List KE} {p : KE} (hp : p ∈ K) (q : Nat) : (fpK (delE p.1 K)).count q + p.2.2.2.count q ≤ (fpK K).count q := by
 induction K with
 | nil => cases hp
 | cons a l ih =>
  rcases List.mem_cons.1 hp with rfl | hp
  ·have h0 := cnt_del0 p.1 l q
   have h1 : delE p.1 (p :: l) = delE p.1 l := by simp [delE]
   rw [h1];simp only [fpK_cons,List.count_append]; omega
  ·have h0 := ih hp;simp only [delE] at h0 ⊢;simp only [List.filter_cons]
   split
   ·simp only [fpK_cons,List.count_append]; omega
   ·simp only [fpK_cons,List.count_append]; omega
theorem fpK_mem {K : List KE} {k : KE} (hk : k ∈ K) : ∀ q ∈ k.2.2.2,q ∈ fpK K := fun q hq => List.mem_flatMap.2 ⟨k,hk,hq⟩
structure DcS (n B bR bm c : Nat) (K : List KE) (vr : Value) (rest : List Fd) (w : World) : Prop where
 map : KMap w bm c (vsK K)
 ris : RisE K
 row : ∀ k ∈ K,∃ rows bss,RowO (TrO n B) B 33 5 w k.2.1 k.2.2.1 rows bss ∧ k.2.2.2 = allB k.2.1 bss
 i64 : ∀ k ∈ K,Is64 k.1
 rb : Blk w bR #[vr] 31
 rr : w.ownsRow B 61 4 vr rest.length (rawCells rest)
 r64 : Fd64 rest
 ap : Apt B w (fpK K ++ blkOf vr)
 ltR : bR < B
 ltm : bm < B
section
variable {n B bR bm c : Nat} {K : List KE} {vr : Value} {rest : List Fd} {w w' : World}
theorem DcS.nil (hm : KMap w bm 0 []) (hb : Blk w bR #[.slice none 0 0] 31) (h1 : bR < B) (h2 : bm < B) : DcS n B bR bm 0 [] (.slice none 0 0) [] w :=
 ⟨hm,List.Pairwise.nil,by simp,by simp,hb,World.ownsRow_nil _ _ _ _,(fun f hf => by cases hf),Apt.nil _ _,h1,h2⟩
theorem DcS.kp {S : Nat → Prop} (h : DcS n B bR bm c K vr rest w) (hk : Kp S w w') (hs : ∀ q ∈ fpK K ++ blkOf vr,¬ S q) (h1 : ¬ S bR) (h2 : ¬ S bm) : DcS n B bR bm c K vr rest w' := by
 have hsm : Sm w w' (fpK K ++ blkOf vr) := hk.sm fun k hq => ⟨(h.ap.2 k hq).2,hs k hq⟩
 refine ⟨h.map.kp hk h2,h.ris,fun k hq => ?_,h.i64,h.rb.kp hk h1,own_sm h.rr (hsm.mono fun q hq => List.mem_append.2 (.inr hq)),h.r64,h.ap.mono hk.size,h.ltR,h.ltm⟩;obtain ⟨rows,bss,g1,g2⟩ := h.row k hq;exact ⟨rows,bss,g1.sm (hsm.mono fun q hq' => List.mem_append.2 (.inl (fpK_mem hq q (by rw [g2]; exact hq')))) fun _ _ _ hp hb => hp.sm hb,g2⟩
theorem DcS.below (h : DcS n B bR bm c K vr rest w) (hk : Below w.heap.size w w') : DcS n B bR bm c K vr rest w' := h.kp (S := fun _ => False) (Kp.ofBelow hk) (fun _ _ e => e) (fun e => e) (fun e => e)
theorem DcS.setNew (h : DcS n B bR bm c K vr rest w) {tag : Int} (h64 : Is64 tag) {v' : Value} {ts' : List Tr} {rows' : List (List Value)} {bss' : List (List Nat)} {c' : Nat} (hs : Sm w w' (fpK (delE tag K) ++ blkOf vr)) (hb : Blk w' bR #[vr] 31) (hm : KMap w' bm c' (setE tag v' (vsK K)))
  (hr : RowO (TrO n B) B 33 5 w' v' ts' rows' bss') (hap : Apt B w' ((fpK (delE tag K) ++ blkOf vr) ++ allB v' bss')) : DcS n B bR bm c' (setE tag (v',ts',allB v' bss') K) vr rest w' := by
 refine ⟨by rw [vsK_set]; exact hm,h.ris.set _ _,fun k hk => ?_,fun k hk => ?_,hb,own_sm h.rr (hs.mono fun q hq => List.mem_append.2 (.inr hq)),h.r64,?_,h.ltR,h.ltm⟩
 ·rcases mem_setE.1 hk with rfl | ⟨hk,hne⟩
  ·exact ⟨rows',bss',hr,rfl⟩
  ·obtain ⟨rows,bss,g1,g2⟩ := h.row k hk;exact ⟨rows,bss,g1.sm (hs.mono fun q hq' => List.mem_append.2 (.inl (fpK_mem (mem_delE.2 ⟨hk,hne⟩) q (by rw [g2]; exact hq')))) fun _ _ _ hp hb => hp.sm hb,g2⟩
 ·rcases mem_setE.1 hk with rfl | ⟨hk,hne⟩
  ·exact h64
  ·exact h.i64 k hk
 ·refine hap.of_count fun q => ?_
  have := cnt_set tag (v',ts',allB v' bss') K q;simp only [List.count_append] at this ⊢
  omega
theorem DcS.setDel (h : DcS n B bR bm c K vr rest w) (tag : Int) (hk : Kp (fun q => q = bm) w w') (hm : KMap w' bm c (delE tag (vsK K))) : DcS n B bR bm c (delE tag K) vr rest w' := by
 have hne : ∀ q ∈ fpK K ++ blkOf vr,q ≠ bm := fun q hq e => by have := (h.ap.2 q hq).1; have := h.ltm; omega
 have hsm : Sm w w' (fpK K ++ blkOf vr) := hk.sm fun k hq => ⟨(h.ap.2 k hq).2,hne k hq⟩
 refine ⟨by rw [vsK_del]; exact hm,h.ris.del _,fun k hq => ?_,fun k hq => h.i64 k (mem_delE.1 hq).1,h.rb.kp hk (h.map.ne h.rb),own_sm h.rr (hsm.mono fun q hq => List.mem_append.2 (.inr hq)),h.r64,?_,h.ltR,h.ltm⟩
 ·obtain ⟨rows,bss,g1,g2⟩ := h.row k (mem_delE.1 hq).1;exact ⟨rows,bss,g1.sm (hsm.mono fun q hq' => List.mem_append.2 (.inl (fpK_mem (mem_delE.1 hq).1 q (by rw [g2]; exact hq')))) fun _ _ _ hp hb => hp.sm hb,g2⟩
 ·refine (h.ap.mono hk.size).of_count fun q => ?_
  have := cnt_del0 tag K q;simp only [List.count_append]
  omega
theorem DcS.at (h : DcS n B bR bm c K vr rest w) (tag : Int) : ∃ rows bss,RowO (TrO n B) B 33 5 w (lookE (vsK K) tag) (undE (esK K) tag) rows bss ∧ ∀ q,(fpK (delE tag K)).count q + (allB (lookE (vsK K) tag) bss).count q ≤ (fpK K).count q := by
 cases hf : K.find? (fun e => decide (e.1 = tag)) with
 | none =>
  have h1 : (vsK K).find? (fun e => decide (e.1 = tag)) = none := by simp [vsK,List.find?_map,Function.comp_def,hf]
  have h2 : (esK K).find? (fun e => decide (e.1 = tag)) = none := by simp [esK,List.find?_map,Function.comp_def,hf]
  simp only [lookE,undE,h1,h2,Option.map_none,Option.getD_none];exact ⟨[],[],RowO.nil _ _ _ _ _,fun q => by have := cnt_del0 tag K q; simp [allB,blkOf,Value.ownBlock]; exact this⟩
 | some p =>
  have hp := List.mem_of_find?_eq_some hf
  have hpx : p.1 = tag := by simpa using List.find?_some hf
  have h1 : (vsK K).find? (fun e => decide (e.1 = tag)) = some (p.1,p.2.1) := by simp [vsK,List.find?_map,Function.comp_def,hf]
  have h2 : (esK K).find? (fun e => decide (e.1 = tag)) = some (p.1,p.2.2.1) := by simp [esK,List.find?_map,Function.comp_def,hf]
  simp only [lookE,undE,h1,h2,Option.map_some,Option.getD_some];obtain ⟨rows,bss,g1,g2⟩ := h.row p hp;refine ⟨rows,bss,g1,fun q => ?_⟩;have := cnt_del hp q;rw [hpx,g2] at this;exact this
end
theorem i64_of {z : Int} (h : Is64 z) : I64 z := h
theorem TrO.len5 {n B : Nat} {w : World} {r : List Value} {t : Tr} {bs : List Nat} (h : TrO n B w r t bs) : r.length = 5 ∧ ∀ u ∈ r,u.oneCell' = true := by
 obtain ⟨a1,n1,c1,a2,n2,c2,rfl⟩ := h.open;refine ⟨rfl,fun u hu => ?_⟩;simp only [List.mem_cons,List.not_mem_nil,or_false] at hu
 rcases hu with rfl | rfl | rfl | rfl | rfl <;> rfl
section
variable {n B bR bm c : Nat} {K : List KE} {vr : Value} {rest : List Fd} {w w' : World} {tag : Int} {r : List Value} {x : Tr} {bs : List Nat}
theorem row_one (hB : B ≤ w.heap.size) (hx : TrO n B w r x bs) (hb : Blk w' w.heap.size r.toArray 33) (hs : Sm w w' bs) : RowO (TrO n B) B 33 5 w' (.slice (some ⟨w.heap.size,0,none⟩) 1 1) [x] [r] [bs] := by
 obtain ⟨h5,_⟩ := hx.len5;refine ⟨⟨by simp [h5],.inr ⟨w.heap.size,1,r.toArray,rfl,hB,hb,Nat.le_refl _,by unfold maxLen; omega,by simp [h5],by simp [h5,List.take_of_length_le]⟩⟩,rfl,rfl,by simpa using h5,fun i y hy => ?_⟩
 cases i with
 | zero =>
  obtain rfl : x = y := by simpa using hy
  exact ⟨r,bs,rfl,rfl,hx.sm hs⟩
 | succ i => simp at hy
theorem DcS.one (h : DcS n B bR bm c K vr rest w) (hB : B ≤ w.heap.size) (h64 : Is64 tag) (hx : TrO n B w r x bs) (hap : Apt B w ((fpK K ++ blkOf vr) ++ bs)) (hc : c < maxLen) :
  ∃ w5,(Instr.mapUpdate 106 (.map (some bm)) (.int .i64 tag) (.slice (some ⟨w.heap.size,0,none⟩) 1 1)).run Tryz.prog (w.alloc (Obj.cells r.toArray 33)) = .ok () w5 ∧
   DcS n B bR bm (c + 1) (setE tag (.slice (some ⟨w.heap.size,0,none⟩) 1 1,[x],allB (.slice (some ⟨w.heap.size,0,none⟩) 1 1) [bs]) K) vr rest w5 ∧ Kp (fun q => q = bm) (w.alloc (Obj.cells r.toArray 33)) w5 := by
 have al : Below w.heap.size w (w.alloc (Obj.cells r.toArray 33)) := bra _;obtain ⟨w5,hrun,hm5,k5⟩ := (h.map.below al).put hc (i64_of h64) (.slice (some ⟨w.heap.size,0,none⟩) 1 1)
 have hsz5 : w.heap.size < w5.heap.size := by have := k5.size; simp at this; omega
 have hS : ∀ q ∈ (fpK K ++ blkOf vr) ++ bs,w5.heap[q]? = w.heap[q]? := fun q hq => by
  have h1 := hap.2 q hq;have := h.ltm;exact (k5.block q (by simp; omega) (by omega)).trans (al.block q h1.2)
 refine ⟨w5,hrun,h.setNew h64 (rows' := [r]) (bss' := [bs]) (fun q hq => hS q ?_) ?_ hm5 (row_one hB hx ?_ fun q hq => hS q (List.mem_append.2 (.inr hq))) ?_,k5⟩
 ·rcases List.mem_append.1 hq with hq | hq
  ·have := cnt_del0 tag K q;exact List.mem_append.2 (.inl (List.mem_append.2 (.inl (List.count_pos_iff.1 (Nat.lt_of_lt_of_le (List.count_pos_iff.2 hq) this)))))
  ·exact List.mem_append.2 (.inl (List.mem_append.2 (.inr hq)))
 ·exact (h.rb.below al).kp k5 (h.map.ne h.rb)
 ·exact (Blk.new w _ _).kp k5 (fun e => by have := h.ltm; omega)
 ·have h1 : Apt B w5 (((fpK K ++ blkOf vr) ++ bs) ++ [w.heap.size]) := hap.new hB hsz5;refine h1.of_count fun q => ?_
  have := cnt_del0 tag K q;simp only [allB,blkOf,Value.ownBlock,List.count_append,List.flatten_cons,List.flatten_nil,List.append_nil]
  omega
theorem DcS.more (h : DcS n B bR bm c K vr rest w) (hB : B ≤ w.heap.size) (h64 : Is64 tag) (hx : TrO n B w r x bs) (hap : Apt B w ((fpK K ++ blkOf vr) ++ bs)) (hc : c < maxLen) (hl : (undE (esK K) tag).length ≤ 64) {bz : Nat} (BZ : Blk w bz r.toArray 33) :
  ∃ v' W' w5 bs',(Builtin.append_ #[78,78] 78 #[lookE (vsK K) tag,.slice (some ⟨bz,0,none⟩) 1 1]).run Tryz.prog w = .ok v' W' ∧ Kp (fun q => q ∈ blkOf (lookE (vsK K) tag)) w W' ∧
   (Instr.mapUpdate 106 (.map (some bm)) (.int .i64 tag) v').run Tryz.prog W' = .ok () w5 ∧ DcS n B bR bm (c + 1) (setE tag (v',undE (esK K) tag ++ [x],bs') K) vr rest w5 ∧ Kp (fun q => q = bm) W' w5 := by
 obtain ⟨h5,h1⟩ := hx.len5;obtain ⟨rows,bss,g1,g2⟩ := h.at tag
 have hap1 : Apt B w ((fpK (delE tag K) ++ blkOf vr) ++ (allB (lookE (vsK K) tag) bss ++ bs)) := hap.of_count fun q => by
  have := g2 q;simp only [List.count_append] at this ⊢
  omega
 obtain ⟨v',W',r1,r2,r3,r4,r5⟩ := push_row (P := TrO n B) (t := 78) (more := fpK (delE tag K) ++ blkOf vr) Tryz.underlying78 infoTr rfl (by decide) g1 hap1 hx h5 h1 (fun _ _ _ _ hp hs => hp.sm hs) BZ (by omega) (by decide) hB;have hgeb : ∀ k ∈ blkOf (lookE (vsK K) tag),B ≤ k := fun k hk => (own_lt g1.own (mem_blkOf.1 hk)).1
 have hnm : bm ∉ blkOf (lookE (vsK K) tag) := fun e => by have := hgeb _ e; have := h.ltm; omega
 have hnR : bR ∉ blkOf (lookE (vsK K) tag) := fun e => by have := hgeb _ e; have := h.ltR; omega
 obtain ⟨w5,hrun,hm5,k5⟩ := (h.map.kp r5 hnm).put hc (i64_of h64) v';refine ⟨v',W',w5,allB v' (bss ++ [bs]),r1,r5,hrun,?_,k5⟩;have hS1 : Sm w W' (fpK (delE tag K) ++ blkOf vr) := r5.sm fun k hk => ⟨(hap1.2 k (List.mem_append.2 (.inl hk))).2,fun e => hap1.apart k hk (List.mem_append.2 (.inl (by simp [allB,e])))⟩
 have hne : ∀ k ∈ (fpK (delE tag K) ++ blkOf vr) ++ allB v' (bss ++ [bs]),k ≠ bm := fun k hk e => by have := (r3.2 k hk).1; have := h.ltm; omega
 have hS2 : Sm W' w5 ((fpK (delE tag K) ++ blkOf vr) ++ allB v' (bss ++ [bs])) := k5.sm fun k hk => ⟨(r3.2 k hk).2,hne k hk⟩
 refine h.setNew h64 (rows' := rows ++ [r]) (bss' := bss ++ [bs]) (fun q hq => (hS2 q (List.mem_append.2 (.inl hq))).trans (hS1 q hq)) ((h.rb.kp r5 hnR).kp k5 (h.map.ne h.rb)) hm5 (r2.sm (hS2.mono fun q hq => List.mem_append.2 (.inr hq)) fun _ _ _ hp hb => hp.sm hb) (r3.mono k5.size)
end
end
section
def fldT (label : Int) (xs : List Tr) : List Tr :=
 if label = 3 then xs else match xs.getLast? with
  | none => []
  | some x => if label = 1 ∧ zroB x = true then [] else [x]
theorem fldT_snoc (label : Int) (xs : List Tr) (x : Tr) : fldT label (xs ++ [x]) = if label = 3 then xs ++ [x] else if label = 1 ∧ zroB x = true then [] else [x] := by
 simp [fldT,List.getLast?_append]
theorem und_mem {es : List (Int × List Tr)} (h : RisE es) {p : Int × List Tr} (hp : p ∈ es) : undE es p.1 = p.2 := by
 simp [undE,find_mem h hp]
theorem und_none {es : List (Int × List Tr)} {t : Int} (h : ∀ e ∈ es,e.1 ≠ t) : undE es t = [] := by
 have : es.find? (fun e => decide (e.1 = t)) = none := List.find?_eq_none.2 fun e he => by simpa using h e he
 simp [undE,this]
theorem und_in {es : List (Int × List Tr)} {t : Int} (h : undE es t ≠ []) : (t,undE es t) ∈ es := by
 unfold undE at h ⊢
 cases hf : es.find? (fun e => decide (e.1 = t)) with
 | none => rw [hf] at h; exact absurd rfl h
 | some p =>
  have h1 := List.mem_of_find?_eq_some hf
  have h2 : p.1 = t := by simpa using List.find?_some hf
  simp only [Option.map_some,Option.getD_some];rw [← h2]; exact h1
theorem und_set {es : List (Int × List Tr)} (h : RisE es) (t : Int) (x : List Tr) (u : Int) : undE (setE t x es) u = if u = t then x else undE es u := by
 by_cases hu : u = t
 ·subst hu;rw [if_pos rfl];exact und_mem (h.set u x) (p := (u,x)) (mem_setE.2 (.inl rfl))
 ·rw [if_neg hu]
  by_cases hk : ∃ p ∈ es,p.1 = u
  ·obtain ⟨p,hp,rfl⟩ := hk;rw [und_mem (h.set t x) (p := p) (mem_setE.2 (.inr ⟨hp,hu⟩)),und_mem h hp]
  ·have h1 : ∀ e ∈ es,e.1 ≠ u := fun e he e1 => hk ⟨e,he,e1⟩
   rw [und_none h1,und_none];intro e he
   rcases mem_setE.1 he with rfl | ⟨he,_⟩
   ·exact fun e => hu e.symm
   ·exact h1 e he
theorem und_del {es : List (Int × List Tr)} (h : RisE es) (t : Int) (u : Int) : undE (delE t es) u = if u = t then [] else undE es u := by
 by_cases hu : u = t
 ·subst hu;rw [if_pos rfl];exact und_none fun e he => (mem_delE.1 he).2
 ·rw [if_neg hu]
  by_cases hk : ∃ p ∈ es,p.1 = u
  ·obtain ⟨p,hp,rfl⟩ := hk;rw [und_mem (h.del t) (p := p) (mem_delE.2 ⟨hp,hu⟩),und_mem h hp]
  ·have h1 : ∀ e ∈ es,e.1 ≠ u := fun e he e1 => hk ⟨e,he,e1⟩
   rw [und_none h1,und_none];exact fun e he => h1 e (mem_delE.1 he).1
theorem ris_uniq {α : Type} : ∀ {a b : List (Int × α)},RisE a → RisE b → (∀ p,p ∈ a ↔ p ∈ b) → a = b
 | [],[],_,_,_ => rfl
 | [],y :: b,_,_,h => absurd ((h y).2 (List.mem_cons_self ..)) (by simp)
 | x :: a,[],_,_,h => absurd ((h x).1 (List.mem_cons_self ..)) (by simp)
 | x :: a,y :: b,ha,hb,h => by
  rw [RisE,List.pairwise_cons] at ha hb
  have hxy : x = y := by
   rcases List.mem_cons.1 ((h x).1 (List.mem_cons_self ..)) with e | hx
   ·exact e
   ·rcases List.mem_cons.1 ((h y).2 (List.mem_cons_self ..)) with e | hy
    ·exact e.symm
    ·have := hb.1 x hx;have := ha.1 y hy
     omega
  subst hxy
  congr 1
  refine ris_uniq ha.2 hb.2 fun p => ⟨fun hp => ?_,fun hp => ?_⟩
  ·rcases List.mem_cons.1 ((h p).1 (List.mem_cons_of_mem _ hp)) with rfl | h1
   ·have := ha.1 p hp; omega
   ·exact h1
  ·rcases List.mem_cons.1 ((h p).2 (List.mem_cons_of_mem _ hp)) with rfl | h1
   ·have := hb.1 p hp; omega
   ·exact h1
def ofT (l : List Fd) (tag : Int) : List Fd := l.filter fun r => decide (r.tag = tag)
theorem ofT_app (a b : List Fd) (t : Int) : ofT (a ++ b) t = ofT a t ++ ofT b t := List.filter_append ..
theorem ofT_one (r : Fd) (t : Int) : ofT [r] t = if r.tag = t then [r] else [] := by
 by_cases h : r.tag = t <;> simp [ofT,h]
structure Ran (M : ByteArray → List Nat → Tr × Int) (fs : List FlS) (l : List Fd) (st : Ds) : Prop where
 ris : RisE st.es
 ne : ∀ e ∈ st.es,e.2 ≠ []
 und : ∀ tag f,fldOf fs tag = some f → undE st.es tag = fldT f.label ((ofT l tag).map fun r => (treeD M f r).1)
 kn : ∀ e ∈ st.es,∃ f,fldOf fs e.1 = some f
 rest : st.rest = l.filter fun r => (fldOf fs r.tag).isNone
theorem Ran.nil (M : ByteArray → List Nat → Tr × Int) (fs : List FlS) : Ran M fs [] ⟨[],[]⟩ :=
 ⟨List.Pairwise.nil,by simp,fun tag f _ => by simp [undE,ofT,fldT],by simp,rfl⟩
theorem fld_tag {fs : List FlS} {t : Int} {f : FlS} (h : fldOf fs t = some f) : f.tag = t := by simpa using List.find?_some h
def FitR (M : ByteArray → List Nat → Tr × Int) (fs : List FlS) (l : List Fd) : Prop :=
 (∀ r ∈ l,∀ f,fldOf fs r.tag = some f → (treeD M f r).2 = 0) ∧ ∀ tag f,fldOf fs tag = some f → f.label = 3 → (ofT l tag).length ≤ 64
theorem FitR.app {M : ByteArray → List Nat → Tr × Int} {fs : List FlS} {a b : List Fd} (h : FitR M fs (a ++ b)) : FitR M fs a :=
 ⟨fun r hr => h.1 r (List.mem_append.2 (.inl hr)),fun t f h1 h2 => by have := h.2 t f h1 h2; rw [ofT_app,List.length_append] at this; omega⟩
theorem Ran.step {M : ByteArray → List Nat → Tr × Int} {fs : List FlS} {l : List Fd} {st : Ds} (h : Ran M fs l st) (hl : FitR M fs l) (r : Fd) :
  ((oneD M fs st r).2 = 0 ↔ FitR M fs (l ++ [r])) ∧ ((oneD M fs st r).2 = 0 → Ran M fs (l ++ [r]) (oneD M fs st r).1) := by
 cases hf : fldOf fs r.tag with
 | none =>
  have e1 : oneD M fs st r = (⟨st.es,st.rest ++ [r]⟩,0) := by simp [oneD,hf]
  rw [e1];refine ⟨⟨fun _ => ⟨fun x hx f hxf => ?_,fun t f h1 h2 => ?_⟩,fun _ => rfl⟩,fun _ => ⟨h.ris,h.ne,fun t f htf => ?_,h.kn,?_⟩⟩
  ·rcases List.mem_append.1 hx with hx | hx
   ·exact hl.1 x hx f hxf
   ·obtain rfl : x = r := by simpa using hx
    rw [hf] at hxf; cases hxf
  ·have hne : r.tag ≠ t := fun e => by rw [e,h1] at hf; cases hf
   rw [ofT_app,ofT_one,if_neg hne,List.append_nil];exact hl.2 t f h1 h2
  ·have hne : r.tag ≠ t := fun e => by rw [e,htf] at hf; cases hf
   rw [ofT_app,ofT_one,if_neg hne,List.append_nil];exact h.und t f htf
  ·simp [h.rest,hf]
 | some f =>
  have hft := fld_tag hf
  by_cases ht : (treeD M f r).2 ≠ 0
  ·have e1 : oneD M fs st r = (st,(treeD M f r).2) := by simp [oneD,hf,ht]
   rw [e1];exact ⟨⟨fun e => absurd e ht,fun g => absurd (g.1 r (by simp) f hf) ht⟩,fun e => absurd e ht⟩
  ·have ht0 : (treeD M f r).2 = 0 := by omega
   have e1 : oneD M fs st r = (⟨(putD f (treeD M f r).1 st.es).1,st.rest⟩,(putD f (treeD M f r).1 st.es).2) := by simp [oneD,hf,ht0]
   have hu := h.und r.tag f hf
   have hrest : st.rest = (l ++ [r]).filter fun r => (fldOf fs r.tag).isNone := by simp [h.rest,hf]
   have hfit : (f.label = 3 → (ofT l r.tag).length + 1 ≤ 64) → FitR M fs (l ++ [r]) := fun hlen => ⟨fun x hx g hg => by
    rcases List.mem_append.1 hx with hx | hx
    ·exact hl.1 x hx g hg
    ·obtain rfl : x = r := by simpa using hx
     rw [hf] at hg; cases hg; exact ht0,fun t g h1 h2 => by
    rw [ofT_app,ofT_one]
    by_cases e : r.tag = t
    ·subst e;rw [hf] at h1; cases h1;rw [if_pos rfl,List.length_append];exact hlen h2
    ·rw [if_neg e,List.append_nil]; exact hl.2 t g h1 h2⟩
   have hund : ∀ (es' : List (Int × List Tr)),(∀ u,undE es' u = if u = r.tag then fldT f.label ((ofT (l ++ [r]) r.tag).map fun r => (treeD M f r).1) else undE st.es u) → ∀ tag g,fldOf fs tag = some g → undE es' tag = fldT g.label ((ofT (l ++ [r]) tag).map fun r => (treeD M g r).1) := fun es' he t g hg => by
    rw [he t]
    by_cases e : t = r.tag
    ·subst e;rw [hf] at hg; cases hg;rw [if_pos rfl]
    ·rw [if_neg e,ofT_app,ofT_one,if_neg (fun e' => e e'.symm),List.append_nil];exact h.und t g hg
   have hx : (ofT (l ++ [r]) r.tag).map (fun r => (treeD M f r).1) = (ofT l r.tag).map (fun r => (treeD M f r).1) ++ [(treeD M f r).1] := by
    rw [ofT_app,ofT_one,if_pos rfl,List.map_append]; rfl
   rw [e1]
   by_cases h3 : f.label = 3
   ·have hu3 : undE st.es f.tag = (ofT l r.tag).map fun r => (treeD M f r).1 := by rw [hft,hu,fldT,if_pos h3]
    by_cases h64 : (undE st.es f.tag).length = 64
    ·have e2 : putD f (treeD M f r).1 st.es = (st.es,4) := by simp [putD,h3,h64]
     rw [e2];refine ⟨⟨fun e => absurd e (by simp),fun g => ?_⟩,fun e => absurd e (by simp)⟩;have := g.2 r.tag f hf h3;rw [ofT_app,ofT_one,if_pos rfl,List.length_append] at this;rw [hu3,List.length_map] at h64
     simp at this; omega
    ·have e2 : putD f (treeD M f r).1 st.es = (setE f.tag (undE st.es f.tag ++ [(treeD M f r).1]) st.es,0) := by simp [putD,h3,h64]
     rw [e2];refine ⟨⟨fun _ => hfit fun _ => ?_,fun _ => rfl⟩,fun _ => ⟨h.ris.set _ _,fun e he => ?_,hund _ fun u => ?_,fun e he => ?_,hrest⟩⟩
     ·have := hl.2 r.tag f hf h3;rw [hu3,List.length_map] at h64
      omega
     ·rcases mem_setE.1 he with rfl | ⟨he,_⟩
      ·simp
      ·exact h.ne e he
     ·rw [und_set h.ris,hft]
      by_cases e : u = r.tag
      ·rw [if_pos e,if_pos e,hx,fldT_snoc,if_pos h3,← hu3,hft]
      ·rw [if_neg e,if_neg e]
     ·rcases mem_setE.1 he with rfl | ⟨he,_⟩
      ·exact ⟨f,by rw [hft]; exact hf⟩
      ·exact h.kn e he
   ·by_cases h1 : f.label = 1 ∧ zroB (treeD M f r).1 = true
    ·have e2 : putD f (treeD M f r).1 st.es = (delE f.tag st.es,0) := by simp [putD,h3,h1]
     rw [e2];refine ⟨⟨fun _ => hfit fun e => absurd e h3,fun _ => rfl⟩,fun _ => ⟨h.ris.del _,fun e he => h.ne e (mem_delE.1 he).1,hund _ fun u => ?_,fun e he => h.kn e (mem_delE.1 he).1,hrest⟩⟩;rw [und_del h.ris,hft]
     by_cases e : u = r.tag
     ·rw [if_pos e,if_pos e,hx,fldT_snoc,if_neg h3,if_pos h1]
     ·rw [if_neg e,if_neg e]
    ·have e2 : putD f (treeD M f r).1 st.es = (setE f.tag [(treeD M f r).1] st.es,0) := by rw [putD,if_neg h3,if_neg h1]
     rw [e2];refine ⟨⟨fun _ => hfit fun e => absurd e h3,fun _ => rfl⟩,fun _ => ⟨h.ris.set _ _,fun e he => ?_,hund _ fun u => ?_,fun e he => ?_,hrest⟩⟩
     ·rcases mem_setE.1 he with rfl | ⟨he,_⟩
      ·simp
      ·exact h.ne e he
     ·rw [und_set h.ris,hft]
      by_cases e : u = r.tag
      ·rw [if_pos e,if_pos e,hx,fldT_snoc,if_neg h3,if_neg h1]
      ·rw [if_neg e,if_neg e]
     ·rcases mem_setE.1 he with rfl | ⟨he,_⟩
      ·exact ⟨f,by rw [hft]; exact hf⟩
      ·exact h.kn e he
theorem Ran.run {M : ByteArray → List Nat → Tr × Int} {fs : List FlS} : ∀ (l pre : List Fd) (st : Ds),Ran M fs pre st → FitR M fs pre → ((runD M fs st l).2 = 0 ↔ FitR M fs (pre ++ l)) ∧ ((runD M fs st l).2 = 0 → Ran M fs (pre ++ l) (runD M fs st l).1)
 | [],pre,st,h,hf => by rw [List.append_nil]; exact ⟨⟨fun _ => hf,fun _ => rfl⟩,fun _ => h⟩
 | r :: l,pre,st,h,hf => by
  obtain ⟨s1,s2⟩ := h.step hf r
  have ea : pre ++ r :: l = (pre ++ [r]) ++ l := by simp
  by_cases h1 : (oneD M fs st r).2 ≠ 0
  ·simp only [runD,if_pos h1];refine ⟨⟨fun e => absurd e h1,fun g => absurd (s1.2 ?_) h1⟩,fun e => absurd e h1⟩;rw [ea] at g; exact g.app
  ·have h0 : (oneD M fs st r).2 = 0 := by omega
   simp only [runD,if_neg h1];rw [ea];exact Ran.run l (pre ++ [r]) _ (s2 h0) (s1.1 h0)
theorem FitR.nil (M : ByteArray → List Nat → Tr × Int) (fs : List FlS) : FitR M fs [] := ⟨by simp,by simp [ofT]⟩
theorem run_fit {M : ByteArray → List Nat → Tr × Int} {fs : List FlS} (l : List Fd) : (runD M fs ⟨[],[]⟩ l).2 = 0 ↔ FitR M fs l := by
 have := (Ran.run l [] ⟨[],[]⟩ (Ran.nil M fs) (FitR.nil M fs)).1
 simpa using this
theorem run_ran {M : ByteArray → List Nat → Tr × Int} {fs : List FlS} {l : List Fd} (h : (runD M fs ⟨[],[]⟩ l).2 = 0) : Ran M fs l (runD M fs ⟨[],[]⟩ l).1 := by
 have := (Ran.run l [] ⟨[],[]⟩ (Ran.nil M fs) (FitR.nil M fs)).2
 simpa using this h
def setR (f : FlS) (x : Tr) (es : List (Int × List Tr)) : List (Int × List Tr) := setE f.tag (if f.label = 3 then undE es f.tag ++ [x] else [x]) es
def oneR (M : ByteArray → List Nat → Tr × Int) (fs : List FlS) (st : Ds) (r : Fd) : Ds × Int :=
 match fldOf fs r.tag with
 | none => (⟨st.es,st.rest ++ [r]⟩,0)
 | some f => if (treeD M f r).2 ≠ 0 then (st,(treeD M f r).2) else if f.label = 3 ∧ (undE st.es f.tag).length = 64 then (st,4) else (⟨setR f (treeD M f r).1 st.es,st.rest⟩,0)
def runR (M : ByteArray → List Nat → Tr × Int) (fs : List FlS) : Ds → List Fd → Ds × Int
 | st,[] => (st,0)
 | st,r :: l => if (oneR M fs st r).2 ≠ 0 then oneR M fs st r else runR M fs (oneR M fs st r).1 l
def keepR (fs : List FlS) (e : Int × List Tr) : Bool := match fldOf fs e.1 with
 | none => true
 | some f => !(decide (f.label = 1) && zroB (e.2.headD tr0))
def setldR (fs : List FlS) (es : List (Int × List Tr)) : List (Int × List Tr) := es.filter (keepR fs)
theorem RisE.setR {es : List (Int × List Tr)} (h : RisE es) (f : FlS) (x : Tr) : RisE (setR f x es) := h.set _ _
theorem setld_set {fs : List FlS} {es : List (Int × List Tr)} (h : RisE es) (t : Int) (x : List Tr) : setldR fs (setE t x es) = if keepR fs (t,x) = true then setE t x (setldR fs es) else delE t (setldR fs es) := by
 have h1 : RisE (setldR fs es) := h.filter _
 split
 ·rename_i hk
  refine ris_uniq ((h.set t x).filter _) (h1.set t x) fun p => ?_
  simp only [setldR,List.mem_filter,mem_setE]
  constructor
  ·rintro ⟨rfl | ⟨a,b⟩,c⟩
   ·exact .inl rfl
   ·exact .inr ⟨⟨a,c⟩,b⟩
  ·rintro (rfl | ⟨⟨a,c⟩,b⟩)
   ·exact ⟨.inl rfl,hk⟩
   ·exact ⟨.inr ⟨a,b⟩,c⟩
 ·rename_i hk
  refine ris_uniq ((h.set t x).filter _) (h1.del t) fun p => ?_
  simp only [setldR,List.mem_filter,mem_setE,mem_delE]
  constructor
  ·rintro ⟨rfl | ⟨a,b⟩,c⟩
   ·exact absurd c hk
   ·exact ⟨⟨a,c⟩,b⟩
  ·rintro ⟨⟨a,c⟩,b⟩;exact ⟨.inr ⟨a,b⟩,c⟩
theorem setld_und {fs : List FlS} {es : List (Int × List Tr)} (h : RisE es) {t : Int} {f : FlS} (hf : fldOf fs t = some f) (h3 : f.label = 3) : undE (setldR fs es) t = undE es t := by
 by_cases hk : ∃ p ∈ es,p.1 = t
 ·obtain ⟨p,hp,rfl⟩ := hk
  have hkp : keepR fs p = true := by simp [keepR,hf,h3]
  have e1 : undE (setldR fs es) p.1 = p.2 := und_mem (es := setldR fs es) (h.filter _) (List.mem_filter.2 ⟨hp,hkp⟩);rw [und_mem h hp,e1]
 ·have h1 : ∀ e ∈ es,e.1 ≠ t := fun e he e1 => hk ⟨e,he,e1⟩
  rw [und_none h1,und_none];exact fun e he => h1 e (List.mem_filter.1 he).1
theorem fld_tagR {fs : List FlS} {t : Int} {f : FlS} (h : fldOf fs t = some f) : f.tag = t := by simpa using List.find?_some h
theorem one_same {M : ByteArray → List Nat → Tr × Int} {fs : List FlS} {es : List (Int × List Tr)} (rest : List Fd) (h : RisE es) (r : Fd) :
  (oneD M fs ⟨setldR fs es,rest⟩ r).2 = (oneR M fs ⟨es,rest⟩ r).2 ∧ ((oneR M fs ⟨es,rest⟩ r).2 = 0 → (oneD M fs ⟨setldR fs es,rest⟩ r).1 = ⟨setldR fs (oneR M fs ⟨es,rest⟩ r).1.es,(oneR M fs ⟨es,rest⟩ r).1.rest⟩ ∧ RisE (oneR M fs ⟨es,rest⟩ r).1.es) := by
 cases hf : fldOf fs r.tag with
 | none => simp only [oneD,oneR,hf]; exact ⟨by first | rfl | trivial,fun _ => ⟨by first | rfl | trivial,h⟩⟩
 | some f =>
  have ht := fld_tagR hf;simp only [oneD,oneR,hf]
  by_cases he : (treeD M f r).2 ≠ 0
  ·simp only [if_pos he]; exact ⟨by first | rfl | trivial,fun e => absurd e he⟩
  ·simp only [if_neg he]
   by_cases h3 : f.label = 3
   ·have hu : undE (setldR fs es) f.tag = undE es f.tag := setld_und h (by rw [ht]; exact hf) h3;simp only [putD,if_pos h3,hu,setR,h3,true_and]
    by_cases h64 : (undE es f.tag).length = 64
    ·simp only [if_pos h64]; exact ⟨by first | rfl | trivial,fun e => absurd e (by decide)⟩
    ·simp only [if_neg h64,if_true];refine ⟨by first | rfl | trivial,fun _ => ⟨?_,h.set _ _⟩⟩;rw [setld_set h,if_pos];rw [ht]; simp [keepR,hf,h3]
   ·simp only [putD,if_neg h3,setR];rw [if_neg (c := f.label = 3 ∧ (undE es f.tag).length = 64) (fun e => h3 e.1)]
    by_cases hz : f.label = 1 ∧ zroB (treeD M f r).1 = true
    ·rw [if_pos hz];refine ⟨by first | rfl | trivial,fun _ => ⟨?_,h.set _ _⟩⟩;simp only;rw [setld_set h,if_neg];rw [ht]; simp [keepR,hf,hz.1,hz.2]
    ·rw [if_neg hz];refine ⟨by first | rfl | trivial,fun _ => ⟨?_,h.set _ _⟩⟩;simp only;rw [setld_set h,if_pos];rw [ht];simp only [keepR,hf,List.headD_cons]
     cases hb : zroB (treeD M f r).1 with
     | false => simp
     | true => have : f.label ≠ 1 := fun e => hz ⟨e,hb⟩; simp [this]
theorem run_same {M : ByteArray → List Nat → Tr × Int} {fs : List FlS} : ∀ (l : List Fd) (es : List (Int × List Tr)) (rest : List Fd),RisE es →
  (runD M fs ⟨setldR fs es,rest⟩ l).2 = (runR M fs ⟨es,rest⟩ l).2 ∧ ((runR M fs ⟨es,rest⟩ l).2 = 0 → (runD M fs ⟨setldR fs es,rest⟩ l).1 = ⟨setldR fs (runR M fs ⟨es,rest⟩ l).1.es,(runR M fs ⟨es,rest⟩ l).1.rest⟩)
 | [],es,rest,h => ⟨rfl,fun _ => rfl⟩
 | r :: l,es,rest,h => by
  obtain ⟨h1,h2⟩ := one_same (M := M) (fs := fs) rest h r;simp only [runD,runR];rw [h1]
  by_cases he : (oneR M fs ⟨es,rest⟩ r).2 ≠ 0
  ·rw [if_pos he,if_pos he];exact ⟨h1,fun e => absurd e he⟩
  ·have h0 : (oneR M fs ⟨es,rest⟩ r).2 = 0 := by omega
   rw [if_neg he,if_neg he];obtain ⟨g1,g2⟩ := h2 h0;rw [g1];exact run_same l _ _ g2
theorem runR_app (M : ByteArray → List Nat → Tr × Int) (fs : List FlS) : ∀ (l l' : List Fd) (st : Ds),(runR M fs st l).2 = 0 → runR M fs st (l ++ l') = runR M fs (runR M fs st l).1 l'
 | [],_,_,_ => rfl
 | r :: l,l',st,h => by
  by_cases h1 : (oneR M fs st r).2 ≠ 0
  ·simp only [runR,if_pos h1] at h; exact absurd h h1
  ·simp only [runR,if_neg h1,List.cons_append] at h ⊢;exact runR_app M fs l l' _ h
theorem runR_err (M : ByteArray → List Nat → Tr × Int) (fs : List FlS) : ∀ (l l' : List Fd) (st : Ds),(runR M fs st l).2 ≠ 0 → runR M fs st (l ++ l') = runR M fs st l
 | [],_,_,h => absurd rfl h
 | r :: l,l',st,h => by
  by_cases h1 : (oneR M fs st r).2 ≠ 0
  ·simp only [runR,if_pos h1,List.cons_append]
  ·simp only [runR,if_neg h1,List.cons_append] at h ⊢;exact runR_err M fs l l' _ h
theorem runR_one (M : ByteArray → List Nat → Tr × Int) (fs : List FlS) (st : Ds) (r : Fd) : runR M fs st [r] = oneR M fs st r := by
 by_cases h1 : (oneR M fs st r).2 ≠ 0
 ·simp only [runR,if_pos h1]
 ·simp only [runR,if_neg h1]
  have h2 : (oneR M fs st r).2 = 0 := by omega
  exact Prod.ext rfl h2.symm
theorem ref_same {M : ByteArray → List Nat → Tr × Int} {fs : List FlS} (l : List Fd) :
  (runD M fs ⟨[],[]⟩ l).2 = (runR M fs ⟨[],[]⟩ l).2 ∧ ((runR M fs ⟨[],[]⟩ l).2 = 0 → (runD M fs ⟨[],[]⟩ l).1 = ⟨setldR fs (runR M fs ⟨[],[]⟩ l).1.es,(runR M fs ⟨[],[]⟩ l).1.rest⟩) := run_same l [] [] List.Pairwise.nil
end
end Go.Proofs.YtiajaocckkghgaaGreat
