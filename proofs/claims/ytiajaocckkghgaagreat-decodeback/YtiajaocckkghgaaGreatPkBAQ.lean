/- Part 17 of what the proof stands on. -/
import Derived.Test.YtiajaocckkghgaaGreatPkBAP
namespace Go.Proofs.YtiajaocckkghgaaGreat
set_option linter.unusedVariables false
set_option linter.unusedSimpArgs false
open Go.ChangeShapes Go.WideShapes Go.ChangeAt Go.RowKit
set_option maxRecDepth 20000
theorem row_slice' {w : World} {v : Value} {size : Nat} {rs : List (List Value)} (h : RowG w v size rs) : ∃ a n c,v = .slice a n c := by
 obtain ⟨a,c,e,_⟩ := h.form
 exact ⟨a,_,c,e⟩
set_option maxHeartbeats 16000000 in
theorem fit_step (s : ScS) (sn : ByteArray) (ma ea ta : Option Addr) (mn mc en ec tn tc : Nat) (hl20 : ∀ m ∈ s.msgs,m.fields.length ≤ 20) (hkd : ∀ m ∈ s.msgs,∀ f ∈ m.fields,1 ≤ f.kind ∧ f.kind ≤ 7) (m : Nat) (hm4 : m ≤ 4) (ls : List Int) (la : Option Addr) (lc L ba : Nat) (w0 : World) (hs0 : ScIn w0 (.agg #[.string sn,.slice ma mn mc,.slice ea en ec,.slice ta tn tc]) s) (hl : RowG w0 (.slice la L lc) 1 (inRows ls)) (hL : ls.length = L) (hL2 : L ≤ 100000) (hba : w0.heap.size ≤ ba) (deep : Int) (hdeep : deep = 5 - (m : Int))
  (IH : 1 ≤ m → ∀ (nm : ByteArray) (a : Nat) (w : World),Below w0.heap.size w0 w → Blk w ba #[.int .i64 (a : Int)] 3 → ba < w.heap.size → a ≤ 900 → Calls Tryz.prog 41 #[.agg #[.string sn,.slice ma mn mc,.slice ea en ec,.slice ta tn tc],.string nm,.slice la L lc,.pointer (some ⟨ba,0,none⟩),.int .i64 (deep + 1)] w (FitP (m + 1) s nm ba a w))
  (nm : ByteArray) (a0 : Nat) (w : World) (hw : Below w0.heap.size w0 w) (hB : Blk w ba #[.int .i64 (a0 : Int)] 3) (ha : a0 ≤ 900) :
  Calls Tryz.prog 41 #[.agg #[.string sn,.slice ma mn mc,.slice ea en ec,.slice ta tn tc],.string nm,.slice la L lc,.pointer (some ⟨ba,0,none⟩),.int .i64 deep] w (FitP (m + 2) s nm ba a0 w) := by
 have BS := b3a w #[.string sn,.slice ma mn mc,.slice ea en ec,.slice ta tn tc] #[.int .i64 0,.int .i64 0,.string ⟨#[]⟩,.slice none 0 0,.slice none 0 0] #[.int .i64 3,.int .i64 0,.string ⟨#[]⟩,.slice none 0 0,.slice none 0 0] 26 33 33
 have BR := b3b w #[.string sn,.slice ma mn mc,.slice ea en ec,.slice ta tn tc] #[.int .i64 0,.int .i64 0,.string ⟨#[]⟩,.slice none 0 0,.slice none 0 0] #[.int .i64 3,.int .i64 0,.string ⟨#[]⟩,.slice none 0 0,.slice none 0 0] 26 33 33
 have BT := b3c w #[.string sn,.slice ma mn mc,.slice ea en ec,.slice ta tn tc] #[.int .i64 0,.int .i64 0,.string ⟨#[]⟩,.slice none 0 0,.slice none 0 0] #[.int .i64 3,.int .i64 0,.string ⟨#[]⟩,.slice none 0 0,.slice none 0 0] 26 33 33
 have hbw := b3w w #[.string sn,.slice ma mn mc,.slice ea en ec,.slice ta tn tc] #[.int .i64 0,.int .i64 0,.string ⟨#[]⟩,.slice none 0 0,.slice none 0 0] #[.int .i64 3,.int .i64 0,.string ⟨#[]⟩,.slice none 0 0,.slice none 0 0] 26 33 33
 have hw3 : Below w0.heap.size w0 (((w.alloc (Obj.cells #[.string sn,.slice ma mn mc,.slice ea en ec,.slice ta tn tc] 26)).alloc (Obj.cells #[.int .i64 0,.int .i64 0,.string ⟨#[]⟩,.slice none 0 0,.slice none 0 0] 33)).alloc (Obj.cells #[.int .i64 3,.int .i64 0,.string ⟨#[]⟩,.slice none 0 0,.slice none 0 0] 33)) := hw.trans (hbw.mono hw.size)
 have HSZ : Hid ((((w.alloc (Obj.cells #[.string sn,.slice ma mn mc,.slice ea en ec,.slice ta tn tc] 26)).alloc (Obj.cells #[.int .i64 0,.int .i64 0,.string ⟨#[]⟩,.slice none 0 0,.slice none 0 0] 33)).alloc (Obj.cells #[.int .i64 3,.int .i64 0,.string ⟨#[]⟩,.slice none 0 0,.slice none 0 0] 33)).heap.size = w.heap.size + 3) := (by simp : (((w.alloc (Obj.cells #[.string sn,.slice ma mn mc,.slice ea en ec,.slice ta tn tc] 26)).alloc (Obj.cells #[.int .i64 0,.int .i64 0,.string ⟨#[]⟩,.slice none 0 0,.slice none 0 0] 33)).alloc (Obj.cells #[.int .i64 3,.int .i64 0,.string ⟨#[]⟩,.slice none 0 0,.slice none 0 0] 33)).heap.size = w.heap.size + 3)
 have hs00 := hs0
 obtain ⟨vm,ve,vt,hse,hms, -, -⟩ := hs0
 simp only [Value.agg.injEq,Array.mk.injEq,List.cons.injEq,and_true] at hse
 obtain ⟨hse0,rfl,rfl,rfl⟩ := hse
 have HMC : Hid (Calls Tryz.prog 33 #[.agg #[.string sn,.slice ma mn mc,.slice ea en ec,.slice ta tn tc],.string nm] (((w.alloc (Obj.cells #[.string sn,.slice ma mn mc,.slice ea en ec,.slice ta tn tc] 26)).alloc (Obj.cells #[.int .i64 0,.int .i64 0,.string ⟨#[]⟩,.slice none 0 0,.slice none 0 0] 33)).alloc (Obj.cells #[.int .i64 3,.int .i64 0,.string ⟨#[]⟩,.slice none 0 0,.slice none 0 0] 33)) fun e w' => ∃ vf vr,e = .returned (.tuple #[.agg #[.string ((msgOf s nm).getD zMs).name,vf,vr],.bool (msgOf s nm).isSome]) ∧ RowG w0 vf 5 (flRows ((msgOf s nm).getD zMs).fields) ∧ RowG w0 vr 1 (inRows ((msgOf s nm).getD zMs).reserved) ∧ Below (((w.alloc (Obj.cells #[.string sn,.slice ma mn mc,.slice ea en ec,.slice ta tn tc] 26)).alloc (Obj.cells #[.int .i64 0,.int .i64 0,.string ⟨#[]⟩,.slice none 0 0,.slice none 0 0] 33)).alloc (Obj.cells #[.int .i64 3,.int .i64 0,.string ⟨#[]⟩,.slice none 0 0,.slice none 0 0] 33)).heap.size (((w.alloc (Obj.cells #[.string sn,.slice ma mn mc,.slice ea en ec,.slice ta tn tc] 26)).alloc (Obj.cells #[.int .i64 0,.int .i64 0,.string ⟨#[]⟩,.slice none 0 0,.slice none 0 0] 33)).alloc (Obj.cells #[.int .i64 3,.int .i64 0,.string ⟨#[]⟩,.slice none 0 0,.slice none 0 0] 33)) w') := r7messageW_any hw3 hms
 obtain ⟨fs,hfs⟩ : ∃ z,((msgOf s nm).getD zMs).fields = z := ⟨_,rfl⟩
 obtain ⟨mnm,hmnm⟩ : ∃ z,((msgOf s nm).getD zMs).name = z := ⟨_,rfl⟩
 obtain ⟨okM,hokM⟩ : ∃ z,(msgOf s nm).isSome = z := ⟨_,rfl⟩
 have HFS : Hid (((msgOf s nm).getD zMs).fields = fs) := hfs
 have HFL : Hid (fs.length ≤ 20 ∧ ∀ f ∈ fs,1 ≤ f.kind ∧ f.kind ≤ 7) := by
  show _ ∧ _
  cases hq : msgOf s nm with
  | none =>
   rw [hq] at hfs
   have : fs = [] := hfs.symm
   subst this
   exact ⟨by simp,by simp⟩
  | some q =>
   rw [hq] at hfs
   have h1 : q ∈ s.msgs := List.mem_of_find?_eq_some hq
   have : fs = q.fields := hfs.symm
   subst this
   exact ⟨hl20 q h1,hkd q h1⟩
 rw [hfs,hmnm,hokM] at HMC
 have HIH : Hid (1 ≤ m → ∀ (nm : ByteArray) (a : Nat) (w : World),Below w0.heap.size w0 w → Blk w ba #[.int .i64 (a : Int)] 3 → ba < w.heap.size → a ≤ 900 → Calls Tryz.prog 41 #[.agg #[.string sn,.slice ma mn mc,.slice ea en ec,.slice ta tn tc],.string nm,.slice la L lc,.pointer (some ⟨ba,0,none⟩),.int .i64 (deep + 1)] w (FitP (m + 1) s nm ba a w)) := IH
 have HCX : Hid (ScIn w0 (.agg #[.string sn,.slice ma mn mc,.slice ea en ec,.slice ta tn tc]) s ∧ RowG w0 (.slice la L lc) 1 (inRows ls) ∧ ls.length = L ∧ w0.heap.size ≤ ba ∧ Below w0.heap.size w0 w) := ⟨hs00,hl,hL,hba,hw⟩
 have HB : Hid (Blk w ba #[.int .i64 (a0 : Int)] 3) := hB
 have HDP : Hid (deep = 5 - (m : Int)) := hdeep
 have hd1 : 0 ≤ deep := by omega
 have hd2 : deep ≤ 5 := by omega
 clear hfs hmnm hokM IH hs00 hl hL hw hB hms hse0 hdeep hl20 hkd hw3
 go_enter Tryz.func41,Tryz.ntmps41
 go_wp2_with fail
 refine HMC.out.mono ?_
 rintro ee w4 ⟨vf,vr,rfl,hrf,hrr,hb4⟩
 have HRF0 : Hid (RowG w0 vf 5 (flRows fs)) := hrf
 obtain ⟨fa,fl,fc,rfl⟩ := row_slice' hrf
 obtain ⟨ra,rl,rc,rfl⟩ := row_slice' hrr
 have al5 : Below w4.heap.size w4 (w4.alloc (Obj.cells #[.string mnm,.slice fa fl fc,.slice ra rl rc] 50)) := (Below.refl _ _).alloc (Nat.le_refl _) _
 have hb5 : Below (((w.alloc (Obj.cells #[.string sn,.slice ma mn mc,.slice ea en ec,.slice ta tn tc] 26)).alloc (Obj.cells #[.int .i64 0,.int .i64 0,.string ⟨#[]⟩,.slice none 0 0,.slice none 0 0] 33)).alloc (Obj.cells #[.int .i64 3,.int .i64 0,.string ⟨#[]⟩,.slice none 0 0,.slice none 0 0] 33)).heap.size (((w.alloc (Obj.cells #[.string sn,.slice ma mn mc,.slice ea en ec,.slice ta tn tc] 26)).alloc (Obj.cells #[.int .i64 0,.int .i64 0,.string ⟨#[]⟩,.slice none 0 0,.slice none 0 0] 33)).alloc (Obj.cells #[.int .i64 3,.int .i64 0,.string ⟨#[]⟩,.slice none 0 0,.slice none 0 0] 33)) (w4.alloc (Obj.cells #[.string mnm,.slice fa fl fc,.slice ra rl rc] 50)) := hb4.trans (al5.mono hb4.size)
 obtain ⟨b0,hb0⟩ : ∃ z,w.heap.size = z := ⟨_,rfl⟩
 obtain ⟨bm,hbm⟩ : ∃ z,w4.heap.size = z := ⟨_,rfl⟩
 have HBZ : Hid (w.heap.size = b0) := hb0
 have hKW : Kp (fun q => q = ba) w (w4.alloc (Obj.cells #[.string mnm,.slice fa fl fc,.slice ra rl rc] 50)) := (Kp.ofBelow hbw).trans (Kp.ofBelow hb5)
 have hbm3 : b0 + 3 ≤ bm := by have h1 := hb4.size; rw [HSZ.out] at h1; omega
 have hFT : FtS (m + 1) b0 (b0 + 2) bm ba #[.string sn,.slice ma mn mc,.slice ea en ec,.slice ta tn tc] #[.string mnm,.slice fa fl fc,.slice ra rl rc] a0 (.slice none 0 0) [] [] [] (w4.alloc (Obj.cells #[.string mnm,.slice fa fl fc,.slice ra rl rc] 50)) := ⟨RowO.nil _ _ _ _ _,by rw [← hb0]; exact BT.below hb5,by rw [← hb0]; exact BS.below hb5,by rw [← hb0]; exact BR.below hb5,by rw [← hbm]; exact Blk.new w4 _ _,(HB.out.below hbw).below hb5,by rw [← hb0]; exact HB.out.lt⟩
 have hAP : Apt b0 (w4.alloc (Obj.cells #[.string mnm,.slice fa fl fc,.slice ra rl rc] 50)) (fpO b0 (b0 + 2) bm (.slice none 0 0) []) := by
  have h1 : fpO b0 (b0 + 2) bm (.slice none 0 0) [] = [b0,b0 + 1,bm,b0 + 2] := rfl
  have h2 : (w4.alloc (Obj.cells #[.string mnm,.slice fa fl fc,.slice ra rl rc] 50)).heap.size = bm + 1 := by simp [hbm]
  rw [h1]
  refine ⟨by simp; omega,fun q hq => ?_⟩
  rw [h2]
  simp at hq
  omega
 have HST : Hid (FtS (m + 1) b0 (b0 + 2) bm ba #[.string sn,.slice ma mn mc,.slice ea en ec,.slice ta tn tc] #[.string mnm,.slice fa fl fc,.slice ra rl rc] a0 (.slice none 0 0) [] [] [] (w4.alloc (Obj.cells #[.string mnm,.slice fa fl fc,.slice ra rl rc] 50)) ∧ Apt b0 (w4.alloc (Obj.cells #[.string mnm,.slice fa fl fc,.slice ra rl rc] 50)) (fpO b0 (b0 + 2) bm (.slice none 0 0) [])) := ⟨hFT,hAP⟩
 have HKW : Hid (Kp (fun q => q = ba) w (w4.alloc (Obj.cells #[.string mnm,.slice fa fl fc,.slice ra rl rc] 50))) := hKW
 have HLO : Hid (∀ W : World,Kp (fun q => q = ba) w W → Below w0.heap.size w0 W) := fun W hW => HCX.out.2.2.2.2.trans (hW.toBelow HCX.out.2.2.2.2.size (fun q e => by rw [e]; exact HCX.out.2.2.2.1))
 clear hrf hrr hb4 al5 hb5 hbw hKW hFT hAP BS BR BT HMC HSZ HB
 go_wp2_with fail
 generalize (w4.alloc (Obj.cells #[.string mnm,.slice fa fl fc,.slice ra rl rc] 50)) = W5 at *
 try simp only [hb0,hbm]
 clear hb0 hbm
 go_loopw [14] (fun iv wr => ∃ (tg a k : Nat) (va : Option Addr) (vc : Nat) (es : List (Int × List Tr)) (rows : List (List Value)) (bss : List (List Nat)),iv = .int .i64 (tg : Int) ∧ 1 ≤ tg ∧ tg ≤ 501 ∧ k ≤ 40 ∧ a0 ≤ a ∧ a ≤ max a0 (158 + 2 * m) ∧ Hid (es.length = k ∧ EsT (m + 1) s fs es (tg : Int) ∧ cntEs (m + 1) es + a0 ≤ a) ∧ Hid (FtS (m + 1) b0 (b0 + 2) bm ba #[.string sn,.slice ma mn mc,.slice ea en ec,.slice ta tn tc] #[.string mnm,.slice fa fl fc,.slice ra rl rc] a (.slice va k vc) es rows bss wr ∧ Apt b0 wr (fpO b0 (b0 + 2) bm (.slice va k vc) bss)) ∧ Hid (Kp (fun q => q = ba) w wr)) (fun iv _ => 501 - (intOf iv).toNat)
 case atStart => exact ⟨1,a0,0,none,0,[],[],[],rfl,by omega,by omega,by omega,by omega,by omega,(⟨rfl,EsT.nil _ _ _ _,by simp [cntEs,subs]⟩ : ([] : List (Int × List Tr)).length = 0 ∧ EsT (m + 1) s fs [] (1 : Int) ∧ cntEs (m + 1) [] + a0 ≤ a0),HST,HKW⟩
 case round =>
  clear HST HKW
  obtain ⟨tg,a,k,va,vc,es,rows,bss,rfl,ht1,ht5,hk40,haa,hab,HE,HS,HK⟩ := hrel
  have q0 := (HS.out.1.ab.cell 0).trans rfl
  by_cases htg : tg ≤ 500
  rotate_left
  ·have d1 : decide ((tg : Int) ≤ 500) = false := by simp; omega
   have p0 := (HS.out.1.tb.cell 0).trans rfl
   have p1 := (HS.out.1.tb.cell 1).trans rfl
   have p2 := (HS.out.1.tb.cell 2).trans rfl
   have p3 := (HS.out.1.tb.cell 3).trans rfl
   have p4 := (HS.out.1.tb.cell 4).trans rfl
   have r0 := (HS.out.1.rb.cell 0).trans rfl
   have r1 := (HS.out.1.rb.cell 1).trans rfl
   have r2 := (HS.out.1.rb.cell 2).trans rfl
   have r3 := (HS.out.1.rb.cell 3).trans rfl
   have r4 := (HS.out.1.rb.cell 4).trans rfl
   have z0 := HS.out.1.rb.froz 0
   have z1 := HS.out.1.rb.froz 1
   have z2 := HS.out.1.rb.froz 2
   have z3 := HS.out.1.rb.froz 3
   have z4 := HS.out.1.rb.froz 4
   have hlt9 := HS.out.1.rb.lt
   have HFIN : Hid (∀ (W : World),Kp (fun q => q = b0 + 1) wr W → FitP (m + 2) s nm ba a0 w (.returned (.agg #[.int .i64 3,.int .i64 0,.string ⟨#[]⟩,(.slice va k vc),.slice none 0 0])) W) := fun W hW => by
    obtain ⟨e1,e2,e3⟩ := HE.out
    obtain ⟨g1,g2⟩ := HS.out
    have hsm : ∀ q ∈ allB (.slice va k vc) bss,W.heap[q]? = wr.heap[q]? := fun q hq => hW.block q (g2.2 q (by simp [fpO,hq])).2 (fun e => by
     subst e
     exact (g2.of_count (cs := [b0 + 1] ++ allB (.slice va k vc) bss) fun y => by simp only [fpO,List.count_append,List.count_cons,List.count_nil]; omega).apart _ (by simp) hq)
    refine ⟨_,⟨3,0,⟨#[]⟩,es,[]⟩,allB (.slice va k vc) bss,a,rfl,?_,?_,?_,?_,?_,g1.ab.kp hW (fun e => by have := g1.lt; omega),HK.out.trans2 hW (fun i hi e => by have := HBZ.out; omega)⟩
    ·rw [HBZ.out]
     exact ⟨(.slice va k vc),.slice none 0 0,rows,bss,rfl,⟨by show (-9223372036854775808 : Int) ≤ 3; decide,by show (3 : Int) ≤ 9223372036854775807; decide⟩,⟨by show (-9223372036854775808 : Int) ≤ 0; decide,by show (0 : Int) ≤ 9223372036854775807; decide⟩,Nat.zero_le _,(fun f hf => by simp at hf),World.ownsRow_nil _ _ _ _,g1.row.sm hsm fun _ _ _ hp hb => hp.sm hb,rfl⟩
    ·rw [HBZ.out]
     exact (g2.mono hW.size).of_count fun y => by simp only [fpO,List.count_append]; omega
    ·have h9 : ((msgOf s nm).getD zMs).fields.length ≤ 40 := by rw [HFS.out]; have := HFL.out.1; omega
     exact EsT.fit (tg := (tg : Int)) (by rw [HFS.out]; exact e2) h9
    ·rw [cnt_fit]; omega
    ·omega
   go_wp2_with fail
   refine bodyPost_ret (results_cell rfl _ _ _ ⟨b0 + 1,0,none⟩ (.agg #[.int .i64 3,.int .i64 0,.string ⟨#[]⟩,(.slice va k vc),.slice none 0 0]) (by go_simp) (by go_simp)) rfl ?_
   refine HFIN.out _ ?_
   refine Kp.setCell ?_ (fun _ => by simp) _
   refine Kp.setCell ?_ (fun _ => by simp) _
   refine Kp.setCell ?_ (fun _ => by simp) _
   refine Kp.setCell ?_ (fun _ => by simp) _
   refine Kp.setCell ?_ (fun _ => by simp) _
   exact Kp.refl _ _
  ·have d1 : decide ((tg : Int) ≤ 500) = true := by simp; omega
   by_cases ha150 : a < 150
   rotate_left
   ·have d2 : decide ((a : Int) < 150) = false := by simp; omega
    have p0 := (HS.out.1.tb.cell 0).trans rfl
    have p1 := (HS.out.1.tb.cell 1).trans rfl
    have p2 := (HS.out.1.tb.cell 2).trans rfl
    have p3 := (HS.out.1.tb.cell 3).trans rfl
    have p4 := (HS.out.1.tb.cell 4).trans rfl
    have r0 := (HS.out.1.rb.cell 0).trans rfl
    have r1 := (HS.out.1.rb.cell 1).trans rfl
    have r2 := (HS.out.1.rb.cell 2).trans rfl
    have r3 := (HS.out.1.rb.cell 3).trans rfl
    have r4 := (HS.out.1.rb.cell 4).trans rfl
    have z0 := HS.out.1.rb.froz 0
    have z1 := HS.out.1.rb.froz 1
    have z2 := HS.out.1.rb.froz 2
    have z3 := HS.out.1.rb.froz 3
    have z4 := HS.out.1.rb.froz 4
    have hlt9 := HS.out.1.rb.lt
    have HFIN : Hid (∀ (W : World),Kp (fun q => q = b0 + 1) wr W → FitP (m + 2) s nm ba a0 w (.returned (.agg #[.int .i64 3,.int .i64 0,.string ⟨#[]⟩,(.slice va k vc),.slice none 0 0])) W) := fun W hW => by
     obtain ⟨e1,e2,e3⟩ := HE.out
     obtain ⟨g1,g2⟩ := HS.out
     have hsm : ∀ q ∈ allB (.slice va k vc) bss,W.heap[q]? = wr.heap[q]? := fun q hq => hW.block q (g2.2 q (by simp [fpO,hq])).2 (fun e => by
      subst e
      exact (g2.of_count (cs := [b0 + 1] ++ allB (.slice va k vc) bss) fun y => by simp only [fpO,List.count_append,List.count_cons,List.count_nil]; omega).apart _ (by simp) hq)
     refine ⟨_,⟨3,0,⟨#[]⟩,es,[]⟩,allB (.slice va k vc) bss,a,rfl,?_,?_,?_,?_,?_,g1.ab.kp hW (fun e => by have := g1.lt; omega),HK.out.trans2 hW (fun i hi e => by have := HBZ.out; omega)⟩
     ·rw [HBZ.out]
      exact ⟨(.slice va k vc),.slice none 0 0,rows,bss,rfl,⟨by show (-9223372036854775808 : Int) ≤ 3; decide,by show (3 : Int) ≤ 9223372036854775807; decide⟩,⟨by show (-9223372036854775808 : Int) ≤ 0; decide,by show (0 : Int) ≤ 9223372036854775807; decide⟩,Nat.zero_le _,(fun f hf => by simp at hf),World.ownsRow_nil _ _ _ _,g1.row.sm hsm fun _ _ _ hp hb => hp.sm hb,rfl⟩
     ·rw [HBZ.out]
      exact (g2.mono hW.size).of_count fun y => by simp only [fpO,List.count_append]; omega
     ·have h9 : ((msgOf s nm).getD zMs).fields.length ≤ 40 := by rw [HFS.out]; have := HFL.out.1; omega
      exact EsT.fit (tg := (tg : Int)) (by rw [HFS.out]; exact e2) h9
     ·rw [cnt_fit]; omega
     ·omega
    go_wp2_with fail
    refine bodyPost_ret (results_cell rfl _ _ _ ⟨b0 + 1,0,none⟩ (.agg #[.int .i64 3,.int .i64 0,.string ⟨#[]⟩,(.slice va k vc),.slice none 0 0]) (by go_simp) (by go_simp)) rfl ?_
    refine HFIN.out _ ?_
    refine Kp.setCell ?_ (fun _ => by simp) _
    refine Kp.setCell ?_ (fun _ => by simp) _
    refine Kp.setCell ?_ (fun _ => by simp) _
    refine Kp.setCell ?_ (fun _ => by simp) _
    refine Kp.setCell ?_ (fun _ => by simp) _
    exact Kp.refl _ _
   ·have d2 : decide ((a : Int) < 150) = true := by simp; omega
    have l0 := (HS.out.1.mb.cell 0).trans rfl
    have l1 := (HS.out.1.mb.cell 1).trans rfl
    have l2 := (HS.out.1.mb.cell 2).trans rfl
    have HFC : Hid (Calls Tryz.prog 63 #[.agg #[.string mnm,.slice fa fl fc,.slice ra rl rc],.int .i64 (tg : Int)] wr fun e' w' => e' = .returned (.tuple #[flV ((fldOf fs (tg : Int)).getD zeroF),.bool (fldOf fs (tg : Int)).isSome]) ∧ Below wr.heap.size wr w') := r7field_any (HRF0.out.below (HLO.out wr HK.out))
    cases hfo : fldOf fs (tg : Int) with
    | none =>
     rw [hfo] at HFC
     simp only [flV,zeroF,Option.getD_none,Option.isSome_none] at HFC
     clear hfo
     go_wp2_with fail
     refine HFC.out.mono ?_
     rintro ee w6 ⟨rfl,hb6⟩
     have hb7 : Below wr.heap.size wr (w6.alloc (Obj.cells #[.string ⟨#[]⟩,.int .i64 0,.int .i64 0,.int .i64 0,.string ⟨#[]⟩] 58)) := hb6.alloc hb6.size _
     have HS7 : Hid (FtS (m + 1) b0 (b0 + 2) bm ba #[.string sn,.slice ma mn mc,.slice ea en ec,.slice ta tn tc] #[.string mnm,.slice fa fl fc,.slice ra rl rc] a (.slice va k vc) es rows bss (w6.alloc (Obj.cells #[.string ⟨#[]⟩,.int .i64 0,.int .i64 0,.int .i64 0,.string ⟨#[]⟩] 58)) ∧ Apt b0 (w6.alloc (Obj.cells #[.string ⟨#[]⟩,.int .i64 0,.int .i64 0,.int .i64 0,.string ⟨#[]⟩] 58)) (fpO b0 (b0 + 2) bm (.slice va k vc) bss)) := ⟨HS.out.1.below HS.out.2 hb7,HS.out.2.mono hb7.size⟩
     have HK7 : Hid (Kp (fun q => q = ba) w (w6.alloc (Obj.cells #[.string ⟨#[]⟩,.int .i64 0,.int .i64 0,.int .i64 0,.string ⟨#[]⟩] 58))) := HK.out.trans (Kp.ofBelow hb7)
     clear HFC hb6 hb7 q0 l0 l1 l2 HS HK
     go_wp2_with fail
     clear d1 d2
     go_roundw
     case rel => exact ⟨tg + 1,a,k,va,vc,es,rows,bss,by go_num,by omega,by omega,hk40,by omega,by omega,(⟨HE.out.1,HE.out.2.1.skip,by have := HE.out.2.2; omega⟩ : es.length = k ∧ EsT (m + 1) s fs es ((tg : Int) + 1) ∧ cntEs (m + 1) es + a0 ≤ a),HS7,HK7⟩
     case measure => simp [intOf]; omega
    | some f =>
     have HFO : Hid (fldOf fs (tg : Int) = some f) := hfo
     have HKD : Hid (1 ≤ f.kind ∧ f.kind ≤ 7) := HFL.out.2 f (List.mem_of_find?_eq_some hfo)
     rw [hfo] at HFC
     simp only [flV,Option.getD_some,Option.isSome_some] at HFC
     clear hfo
     obtain ⟨f1,f2,f3,f4,f5⟩ := f
     simp only at HFC HKD
     go_wp2_with fail
     refine HFC.out.mono ?_
     rintro ee w6 ⟨rfl,hb6⟩
     have al7 : Below w6.heap.size w6 (w6.alloc (Obj.cells #[.string f1,.int .i64 f2,.int .i64 f3,.int .i64 f4,.string f5] 58)) := (Below.refl _ _).alloc (Nat.le_refl _) _
     have hb7 : Below wr.heap.size wr (w6.alloc (Obj.cells #[.string f1,.int .i64 f2,.int .i64 f3,.int .i64 f4,.string f5] 58)) := hb6.trans (al7.mono hb6.size)
     have HS7 : Hid (FtS (m + 1) b0 (b0 + 2) bm ba #[.string sn,.slice ma mn mc,.slice ea en ec,.slice ta tn tc] #[.string mnm,.slice fa fl fc,.slice ra rl rc] a (.slice va k vc) es rows bss (w6.alloc (Obj.cells #[.string f1,.int .i64 f2,.int .i64 f3,.int .i64 f4,.string f5] 58)) ∧ Apt b0 (w6.alloc (Obj.cells #[.string f1,.int .i64 f2,.int .i64 f3,.int .i64 f4,.string f5] 58)) (fpO b0 (b0 + 2) bm (.slice va k vc) bss ++ [w6.heap.size]) ∧ Blk (w6.alloc (Obj.cells #[.string f1,.int .i64 f2,.int .i64 f3,.int .i64 f4,.string f5] 58)) w6.heap.size #[.string f1,.int .i64 f2,.int .i64 f3,.int .i64 f4,.string f5] 58) := ⟨HS.out.1.below HS.out.2 hb7,(HS.out.2.mono hb6.size).new (by have := (HS.out.2.2 b0 (by simp [fpO])); have := hb6.size; omega) (by simp),Blk.new w6 _ _⟩
     have HK7 : Hid (Kp (fun q => q = ba) w (w6.alloc (Obj.cells #[.string f1,.int .i64 f2,.int .i64 f3,.int .i64 f4,.string f5] 58))) := HK.out.trans (Kp.ofBelow hb7)
     have HNX : Hid (Calls Tryz.prog 75 #[.slice la L lc,.pointer (some ⟨ba,0,none⟩)] (w6.alloc (Obj.cells #[.string f1,.int .i64 f2,.int .i64 f3,.int .i64 f4,.string f5] 58)) (NxP L ba a (w6.alloc (Obj.cells #[.string f1,.int .i64 f2,.int .i64 f3,.int .i64 f4,.string f5] 58)))) := lnext_any ls la lc L ba a w0 _ (HLO.out _ HK7.out) HCX.out.2.1 HCX.out.2.2.1 hL2 HS7.out.1.ab (by omega) HCX.out.2.2.2.1
     clear HFC hb6 hb7 al7 q0 l0 l1 l2 HS HK
     go_wp2_with fail
     refine Calls.mono HNX.out ?_
     rintro ee w8 ⟨v1,a1,rfl,hv1,ha1,ha1',hL0,hLn,hB8,hK8⟩
     obtain ⟨bf,hbf⟩ : ∃ z,w6.heap.size = z := ⟨_,rfl⟩
     have HS8 : Hid (FtS (m + 1) b0 (b0 + 2) bm ba #[.string sn,.slice ma mn mc,.slice ea en ec,.slice ta tn tc] #[.string mnm,.slice fa fl fc,.slice ra rl rc] a1 (.slice va k vc) es rows bss w8 ∧ Apt b0 w8 (fpO b0 (b0 + 2) bm (.slice va k vc) bss ++ [bf]) ∧ Blk w8 bf #[.string f1,.int .i64 f2,.int .i64 f3,.int .i64 f4,.string f5] 58) := by
      obtain ⟨g1,g2,g3⟩ := HS7.out
      rw [hbf] at g2 g3
      refine ⟨g1.at' (g2.of_count fun y => by simp only [List.count_append]; omega) hK8 hB8,g2.mono hK8.size,g3.kp hK8 (fun e => by have := (g2.2 bf (by simp)).1; have := g1.lt; omega)⟩
     have HK8 : Hid (Kp (fun q => q = ba) w w8) := HK7.out.trans hK8
     have HLL : Hid ((L = 0 → v1 = 0) ∧ (L ≠ 0 → a1 = a + 1)) := ⟨hL0,hLn⟩
     have HS8s : Hid (FtS (m + 1) b0 (b0 + 2) bm ba #[.string sn,.slice ma mn mc,.slice ea en ec,.slice ta tn tc] #[.string mnm,.slice fa fl fc,.slice ra rl rc] a1 (.slice va k vc) es rows bss w8 ∧ Apt b0 w8 (fpO b0 (b0 + 2) bm (.slice va k vc) bss)) := ⟨HS8.out.1,HS8.out.2.1.of_count fun y => by simp only [List.count_append]; omega⟩
     have y3 := (HS8.out.2.2.cell 3).trans rfl
     have y2 := (HS8.out.2.2.cell 2).trans rfl
     simp only [hbf]
     clear HNX HS7 HK7 hB8 hK8 hbf hL0 hLn
     by_cases hv3 : (v1 : Int) % 3 = 0
     ·have d3 : ((v1 : Int) % 3 == 0) = true := by simpa using hv3
      clear hv3
      go_wp2_with fail
      clear d1 d2 d3 y2 y3
      go_roundw
      case rel => exact ⟨tg + 1,a1,k,va,vc,es,rows,bss,by go_num,by omega,by omega,hk40,by omega,by omega,(⟨HE.out.1,HE.out.2.1.skip,by have := HE.out.2.2; omega⟩ : es.length = k ∧ EsT (m + 1) s fs es ((tg : Int) + 1) ∧ cntEs (m + 1) es + a0 ≤ a1),HS8s,HK8⟩
      case measure => simp [intOf]; omega
     ·have d3 : ((v1 : Int) % 3 == 0) = false := by simpa using hv3
      have hLz : L ≠ 0 := fun h => hv3 (by rw [HLL.out.1 h]; rfl)
      have hA1 : a1 = a + 1 := HLL.out.2 hLz
      have HA1 : Hid (a1 = a + 1) := hA1
      clear hv3 hA1
      by_cases h7 : f4 = 7
      ·have d4 : (f4 == 7) = true := by simpa using h7
       by_cases h5 : 5 ≤ deep
       ·have d5 : decide (5 ≤ deep) = true := by simpa using h5
        go_wp2_with fail
        clear d1 d2 d3 d4 d5 y2 y3
        go_roundw
        case rel => exact ⟨tg + 1,a1,k,va,vc,es,rows,bss,by go_num,by omega,by omega,hk40,by omega,by omega,(⟨HE.out.1,HE.out.2.1.skip,by have := HE.out.2.2; omega⟩ : es.length = k ∧ EsT (m + 1) s fs es ((tg : Int) + 1) ∧ cntEs (m + 1) es + a0 ≤ a1),HS8s,HK8⟩
        case measure => simp [intOf]; omega
       ·have d5 : decide (5 ≤ deep) = false := by simpa using h5
        have HI7 : Hid (f4 = 7 → ∀ (nm : ByteArray) (a : Nat) (w : World),Below w0.heap.size w0 w → Blk w ba #[.int .i64 (a : Int)] 3 → ba < w.heap.size → a ≤ 900 → Calls Tryz.prog 41 #[.agg #[.string sn,.slice ma mn mc,.slice ea en ec,.slice ta tn tc],.string nm,.slice la L lc,.pointer (some ⟨ba,0,none⟩),.int .i64 (deep + 1)] w (FitP (m + 1) s nm ba a w)) := fun _ => HIH.out (by have := HDP.out; omega)
        clear h7 h5
        by_cases hf3 : f3 = 3
        ·have d6 : (f3 == 3) = true := by simpa using hf3
         have HNX2 : Hid (Calls Tryz.prog 75 #[.slice la L lc,.pointer (some ⟨ba,0,none⟩)] w8 (NxP L ba a1 w8)) := lnext_any ls la lc L ba a1 w0 _ (HLO.out _ HK8.out) HCX.out.2.1 HCX.out.2.2.1 hL2 HS8.out.1.ab (by have := HA1.out; omega) HCX.out.2.2.2.1
         go_wp2_with fail
         refine Calls.mono HNX2.out ?_
         rintro ee w9 ⟨v2,a2,rfl,hv2,ha2,ha2', -, -,hB9,hK9⟩
         have HS9 : Hid (FtS (m + 1) b0 (b0 + 2) bm ba #[.string sn,.slice ma mn mc,.slice ea en ec,.slice ta tn tc] #[.string mnm,.slice fa fl fc,.slice ra rl rc] a2 (.slice va k vc) es rows bss w9 ∧ Apt b0 w9 (fpO b0 (b0 + 2) bm (.slice va k vc) bss ++ [bf]) ∧ Blk w9 bf #[.string f1,.int .i64 f2,.int .i64 f3,.int .i64 f4,.string f5] 58) := by
          obtain ⟨g1,g2,g3⟩ := HS8.out
          exact ⟨g1.at' (g2.of_count fun y => by simp only [List.count_append]; omega) hK9 hB9,g2.mono hK9.size,g3.kp hK9 (fun e => by have := (g2.2 bf (by simp)).1; have := g1.lt; omega)⟩
         have HK9 : Hid (Kp (fun q => q = ba) w w9) := HK8.out.trans hK9
         obtain ⟨Nn,hNn⟩ : ∃ z : Nat,(1 : Int) + (v2 : Int) % 3 = (z : Int) := ⟨1 + v2 % 3,by omega⟩
         have hN1 : 1 ≤ Nn := by omega
         have hN3 : Nn ≤ 3 := by omega
         have HNL : Hid (f3 ≠ 3 → Nn ≤ 1) := fun h => absurd hf3 h
         clear HNX2 hB9 hK9 HS8 HS8s HK8 hf3 hv2
         have al10 : Below w9.heap.size w9 (w9.alloc (Obj.cells #[.int .i64 (tg : Int),.slice none 0 0] 80)) := (Below.refl _ _).alloc (Nat.le_refl _) _
         obtain ⟨be,hbe⟩ : ∃ z,w9.heap.size = z := ⟨_,rfl⟩
         have HI0 : Hid (InS (m + 1) b0 (b0 + 2) bm ba be bf #[.string sn,.slice ma mn mc,.slice ea en ec,.slice ta tn tc] #[.string mnm,.slice fa fl fc,.slice ra rl rc] #[.string f1,.int .i64 f2,.int .i64 f3,.int .i64 f4,.string f5] (tg : Int) a2 (.slice va k vc) es rows bss (.slice none 0 0) [] [] [] (w9.alloc (Obj.cells #[.int .i64 (tg : Int),.slice none 0 0] 80))) := by
          obtain ⟨g1,g2,g3⟩ := HS9.out
          have h1 := g2.new (by have := (g2.2 b0 (by simp [fpO])); omega : b0 ≤ w9.heap.size) (w' := (w9.alloc (Obj.cells #[.int .i64 (tg : Int),.slice none 0 0] 80))) (by simp)
          rw [hbe] at h1
          exact InS.new (g1.below (g2.of_count fun y => by simp only [List.count_append]; omega) al10) (by rw [List.append_assoc] at h1; exact h1) (by rw [← hbe]; exact Blk.new w9 _ _) (g3.below al10)
         have HKI : Hid (Kp (fun q => q = ba) w (w9.alloc (Obj.cells #[.int .i64 (tg : Int),.slice none 0 0] 80))) := HK9.out.trans (Kp.ofBelow al10)
         clear al10
         go_wp2_with fail
         generalize (w9.alloc (Obj.cells #[.int .i64 (tg : Int),.slice none 0 0] 80)) = W10 at *
         try simp only [hbe]
         clear hbe y2 y3 d1 d2 d3
         go_loopw [19] (fun iv wz => ∃ (i a tl : Nat) (qa : Option Addr) (qc : Nat) (ts : List Tr) (rows' : List (List Value)) (bss' : List (List Nat)),iv = .int .i64 (i : Int) ∧ i ≤ Nn ∧ tl ≤ i ∧ a0 ≤ a ∧ a ≤ 155 + 2 * m + i ∧ Hid (ts.length = tl ∧ (∀ x ∈ ts,OneT (m + 1) s ⟨f1,f2,f3,f4,f5⟩ x ∧ (f3 = 1 → zroB x = false)) ∧ cntEs (m + 1) es + cntT (m + 1) ts + a0 ≤ a) ∧ Hid (InS (m + 1) b0 (b0 + 2) bm ba be bf #[.string sn,.slice ma mn mc,.slice ea en ec,.slice ta tn tc] #[.string mnm,.slice fa fl fc,.slice ra rl rc] #[.string f1,.int .i64 f2,.int .i64 f3,.int .i64 f4,.string f5] (tg : Int) a (.slice va k vc) es rows bss (.slice qa tl qc) ts rows' bss' wz) ∧ Hid (Kp (fun q => q = ba) w wz)) (fun iv _ => Nn - (intOf iv).toNat)
         case atStart => exact ⟨0,a2,0,none,0,[],[],[],rfl,by omega,by omega,by have := HA1.out; omega,by have := HA1.out; omega,(⟨rfl,by simp,by have := HE.out.2.2; have := HA1.out; simp [cntT]; omega⟩ : ([] : List Tr).length = 0 ∧ (∀ x ∈ ([] : List Tr),OneT (m + 1) s ⟨f1,f2,f3,f4,f5⟩ x ∧ (f3 = 1 → zroB x = false)) ∧ cntEs (m + 1) es + cntT (m + 1) [] + a0 ≤ a2),HI0,HKI⟩
         case round =>
          clear HI0 HKI
          obtain ⟨i,aj,tl,qa,qc,ts,rows',bss',rfl,hi,htl,haj,hajb,HTS,HI,HKJ⟩ := hrel
          by_cases hlt : i < Nn
          ·have HON : Hid (Calls Tryz.prog 76 #[.agg #[.string sn,.slice ma mn mc,.slice ea en ec,.slice ta tn tc],.agg #[.string f1,.int .i64 f2,.int .i64 f3,.int .i64 f4,.string f5],.slice la L lc,.pointer (some ⟨ba,0,none⟩),.int .i64 deep] wr (OneP (m + 1) s ⟨f1,f2,f3,f4,f5⟩ ba aj wr)) := one_step s sn ma ea ta mn mc en ec tn tc m ls la lc L ba w0 HCX.out.1 HCX.out.2.1 HCX.out.2.2.1 hL2 hLz HCX.out.2.2.2.1 deep ⟨f1,f2,f3,f4,f5⟩ HKD.out.1 HKD.out.2 HI7.out aj wr (HLO.out wr HKJ.out) HI.out.ft.ab (by omega) ⟨hd1,by omega⟩
           have s0 := (HI.out.ft.sb.cell 0).trans rfl
           have s1 := (HI.out.ft.sb.cell 1).trans rfl
           have s2 := (HI.out.ft.sb.cell 2).trans rfl
           have s3 := (HI.out.ft.sb.cell 3).trans rfl
           have l0 := (HI.out.fb.cell 0).trans rfl
           have l1 := (HI.out.fb.cell 1).trans rfl
           have l2 := (HI.out.fb.cell 2).trans rfl
           have l3 := (HI.out.fb.cell 3).trans rfl
           have l4 := (HI.out.fb.cell 4).trans rfl
           go_wp2_with fail
           refine Calls.mono HON.out ?_
           rintro ee w11 ⟨r,x,bs,a',rfl,hO,hA,hT,hc,hmx,hB',hK'⟩
           obtain ⟨x1,x2,x3,x4,x5,x6,hr⟩ := TrO.open hO
           subst hr
           obtain ⟨xk,hxk⟩ : ∃ z,x.kind = z := ⟨_,rfl⟩
           obtain ⟨xn,hxn⟩ : ∃ z,x.n = z := ⟨_,rfl⟩
           obtain ⟨xs,hxs⟩ : ∃ z,x.s = z := ⟨_,rfl⟩
           rw [hxk,hxn,hxs] at hO
           rw [hxk,hxn,hxs]
           have HXP : Hid (x.kind = xk ∧ x.n = xn ∧ x.s = xs) := ⟨hxk,hxn,hxs⟩
           have HXC : Hid (cntN (m + 1) x + aj ≤ a') := hc
           have hBz : b0 ≤ wr.heap.size := by have := (HI.out.ap.2 b0 (by simp [fpO])); omega
           have hI11 := HI.out.at' hK' hB'
           have hA11 : Apt b0 w11 ((fpO b0 (b0 + 2) bm (.slice va k vc) bss ++ ([bf,be] ++ allB (.slice qa tl qc) bss')) ++ bs) := HI.out.ap.append hA hBz (Nat.le_refl _) hK'.size
           have al12 : Below w11.heap.size w11 (w11.alloc (Obj.cells #[.int .i64 xk,.int .i64 xn,.string xs,.slice x1 x2 x3,.slice x4 x5 x6] 33)) := (Below.refl _ _).alloc (Nat.le_refl _) _
           have HST : Hid (InS (m + 1) b0 (b0 + 2) bm ba be bf #[.string sn,.slice ma mn mc,.slice ea en ec,.slice ta tn tc] #[.string mnm,.slice fa fl fc,.slice ra rl rc] #[.string f1,.int .i64 f2,.int .i64 f3,.int .i64 f4,.string f5] (tg : Int) a' (.slice va k vc) es rows bss (.slice qa tl qc) ts rows' bss' (w11.alloc (Obj.cells #[.int .i64 xk,.int .i64 xn,.string xs,.slice x1 x2 x3,.slice x4 x5 x6] 33)) ∧ TrO (m + 1) b0 (w11.alloc (Obj.cells #[.int .i64 xk,.int .i64 xn,.string xs,.slice x1 x2 x3,.slice x4 x5 x6] 33)) [.int .i64 xk,.int .i64 xn,.string xs,.slice x1 x2 x3,.slice x4 x5 x6] x bs ∧ Apt b0 (w11.alloc (Obj.cells #[.int .i64 xk,.int .i64 xn,.string xs,.slice x1 x2 x3,.slice x4 x5 x6] 33)) ((fpO b0 (b0 + 2) bm (.slice va k vc) bss ++ ([bf,be] ++ allB (.slice qa tl qc) bss')) ++ bs)) := ⟨hI11.below al12,(hO.base hBz).sm (Sm.below al12 fun q hq => (hA.2 q hq).2),hA11.mono al12.size⟩
           have HKX : Hid (Kp (fun q => q = ba) w (w11.alloc (Obj.cells #[.int .i64 xk,.int .i64 xn,.string xs,.slice x1 x2 x3,.slice x4 x5 x6] 33))) := (HKJ.out.trans hK').trans (Kp.ofBelow al12)
           have BX : Blk (w11.alloc (Obj.cells #[.int .i64 xk,.int .i64 xn,.string xs,.slice x1 x2 x3,.slice x4 x5 x6] 33)) w11.heap.size #[.int .i64 xk,.int .i64 xn,.string xs,.slice x1 x2 x3,.slice x4 x5 x6] 33 := Blk.new w11 _ _
           have HLEN : Hid (x.es.length = x2 ∧ x.rest.length = x5) := by
            have h1 : TrW (m + 1) w11 (.agg #[.int .i64 xk,.int .i64 xn,.string xs,.slice x1 x2 x3,.slice x4 x5 x6]) x := ⟨_,rfl,(hO).trR⟩
            exact ⟨h1.parts.2.2.2.1,h1.parts.2.2.2.2⟩
           have HTT : Hid (OneT (m + 1) s ⟨f1,f2,f3,f4,f5⟩ x) := hT
           have ha'1 : a0 ≤ a' := by omega
           have ha'2 : a' ≤ 155 + 2 * m + (i + 1) := by omega
           have m2 := ((HST.out.1.fb).cell 2).trans rfl
           clear HON hO hA hT hc hmx hB' hK' hxk hxn hxs hI11 hA11 al12 s0 s1 s2 s3 l0 l1 l2 l3 l4 HI HKJ hBz
           by_cases hf1 : f3 = 1
           ·have d7 : (f3 != 1) = false := by simpa using hf1
            have j0 := (BX.cell 0).trans rfl
            have j1 := (BX.cell 1).trans rfl
            have j2 := (BX.cell 2).trans rfl
            have j3 := (BX.cell 3).trans rfl
            have j4 := (BX.cell 4).trans rfl
            cases hZ : zroB x with
            | true =>
             have HZC : Hid (Calls Tryz.prog 77 #[.agg #[.int .i64 xk,.int .i64 xn,.string xs,.slice x1 x2 x3,.slice x4 x5 x6]] (w11.alloc (Obj.cells #[.int .i64 xk,.int .i64 xn,.string xs,.slice x1 x2 x3,.slice x4 x5 x6] 33)) fun e w' => e = .returned (.bool true) ∧ Below (w11.alloc (Obj.cells #[.int .i64 xk,.int .i64 xn,.string xs,.slice x1 x2 x3,.slice x4 x5 x6] 33)).heap.size (w11.alloc (Obj.cells #[.int .i64 xk,.int .i64 xn,.string xs,.slice x1 x2 x3,.slice x4 x5 x6] 33)) w') := (by
              have h1 := rzero_any x x1 x4 x2 x3 x5 x6 (w11.alloc (Obj.cells #[.int .i64 xk,.int .i64 xn,.string xs,.slice x1 x2 x3,.slice x4 x5 x6] 33)) HLEN.out.1.symm HLEN.out.2.symm
              rw [HXP.out.1,HXP.out.2.1,HXP.out.2.2,hZ] at h1
              exact h1 : Calls Tryz.prog _ _ _ _)
             clear hZ hf1
             go_wp2_with fail
             refine HZC.out.mono ?_
             rintro ee w13 ⟨rfl,hb13⟩
             have HI13 : Hid (InS (m + 1) b0 (b0 + 2) bm ba be bf #[.string sn,.slice ma mn mc,.slice ea en ec,.slice ta tn tc] #[.string mnm,.slice fa fl fc,.slice ra rl rc] #[.string f1,.int .i64 f2,.int .i64 f3,.int .i64 f4,.string f5] (tg : Int) a' (.slice va k vc) es rows bss (.slice qa tl qc) ts rows' bss' w13) := HST.out.1.below hb13
             have HK13 : Hid (Kp (fun q => q = ba) w w13) := HKX.out.trans (Kp.ofBelow hb13)
             have HTS2 : Hid (ts.length = tl ∧ (∀ x ∈ ts,OneT (m + 1) s ⟨f1,f2,f3,f4,f5⟩ x ∧ (f3 = 1 → zroB x = false)) ∧ cntEs (m + 1) es + cntT (m + 1) ts + a0 ≤ a') := ⟨HTS.out.1,HTS.out.2.1,by have := HTS.out.2.2; have := HXC.out; omega⟩
             clear HZC hb13 j0 j1 j2 j3 j4 HST HKX BX m2 HTS
             go_wp2_with fail
             clear d7
             go_roundw
             case rel => exact ⟨i + 1,a',tl,qa,qc,ts,rows',bss',by go_num,by omega,by omega,by omega,by omega,HTS2,HI13,HK13⟩
             case measure => simp [intOf]; omega
            | false =>
             have HXO : Hid (OneT (m + 1) s ⟨f1,f2,f3,f4,f5⟩ x ∧ (f3 = 1 → zroB x = false)) := ⟨HTT.out,fun _ => hZ⟩
             have HZC : Hid (Calls Tryz.prog 77 #[.agg #[.int .i64 xk,.int .i64 xn,.string xs,.slice x1 x2 x3,.slice x4 x5 x6]] (w11.alloc (Obj.cells #[.int .i64 xk,.int .i64 xn,.string xs,.slice x1 x2 x3,.slice x4 x5 x6] 33)) fun e w' => e = .returned (.bool false) ∧ Below (w11.alloc (Obj.cells #[.int .i64 xk,.int .i64 xn,.string xs,.slice x1 x2 x3,.slice x4 x5 x6] 33)).heap.size (w11.alloc (Obj.cells #[.int .i64 xk,.int .i64 xn,.string xs,.slice x1 x2 x3,.slice x4 x5 x6] 33)) w') := (by
              have h1 := rzero_any x x1 x4 x2 x3 x5 x6 (w11.alloc (Obj.cells #[.int .i64 xk,.int .i64 xn,.string xs,.slice x1 x2 x3,.slice x4 x5 x6] 33)) HLEN.out.1.symm HLEN.out.2.symm
              rw [HXP.out.1,HXP.out.2.1,HXP.out.2.2,hZ] at h1
              exact h1 : Calls Tryz.prog _ _ _ _)
             clear hZ hf1
             go_wp2_with fail
             refine HZC.out.mono ?_
             rintro ee w13 ⟨rfl,hb13⟩
             have HST0 := HST
             have HST : Hid (InS (m + 1) b0 (b0 + 2) bm ba be bf #[.string sn,.slice ma mn mc,.slice ea en ec,.slice ta tn tc] #[.string mnm,.slice fa fl fc,.slice ra rl rc] #[.string f1,.int .i64 f2,.int .i64 f3,.int .i64 f4,.string f5] (tg : Int) a' (.slice va k vc) es rows bss (.slice qa tl qc) ts rows' bss' w13 ∧ TrO (m + 1) b0 w13 [.int .i64 xk,.int .i64 xn,.string xs,.slice x1 x2 x3,.slice x4 x5 x6] x bs ∧ Apt b0 w13 ((fpO b0 (b0 + 2) bm (.slice va k vc) bss ++ ([bf,be] ++ allB (.slice qa tl qc) bss')) ++ bs)) := ⟨HST0.out.1.below hb13,HST0.out.2.1.sm (Sm.below hb13 fun q hq => (HST0.out.2.2.2 q (List.mem_append.2 (.inr hq))).2),HST0.out.2.2.mono hb13.size⟩
             have HKX0 := HKX
             have HKX : Hid (Kp (fun q => q = ba) w w13) := HKX0.out.trans (Kp.ofBelow hb13)
             have BX13 := BX.below hb13
             have i0 := (BX13.cell 0).trans rfl
             have i1 := (BX13.cell 1).trans rfl
             have i2 := (BX13.cell 2).trans rfl
             have i3 := (BX13.cell 3).trans rfl
             have i4 := (BX13.cell 4).trans rfl
             clear HZC hb13 j0 j1 j2 j3 j4 HST0 HKX0 BX BX13 m2
             have hal14 : Below w13.heap.size w13 (w13.alloc (Obj.cells #[.int .i64 xk,.int .i64 xn,.string xs,.slice x1 x2 x3,.slice x4 x5 x6] 33)) := (Below.refl _ _).alloc (Nat.le_refl _) _
             obtain ⟨hI14,hO14,hA14⟩ := HST.out
             have hI14' := hI14.below hal14
             obtain ⟨v',W15,r1,⟨na,nc,hv'⟩,BE15,KP,hI16⟩ := hI14'.pushT (r := [.int .i64 xk,.int .i64 xn,.string xs,.slice x1 x2 x3,.slice x4 x5 x6]) (x := x) (bs := bs) (bz := w13.heap.size) (hO14.sm (Sm.below hal14 fun q hq => (hA14.2 q (List.mem_append.2 (.inr hq))).2)) rfl (fun u hu => by
              simp only [List.mem_cons,List.not_mem_nil,or_false] at hu
              rcases hu with rfl | rfl | rfl | rfl | rfl <;> rfl) (hA14.mono hal14.size) (Blk.new w13 _ _) (by have := HTS.out.1; omega)
             rw [HTS.out.1] at hv'
             subst hv'
             have HRUN : Hid ((Builtin.append_ #[78,78] 78 #[.slice qa tl qc,.slice (some ⟨w13.heap.size,0,none⟩) 1 1]).run Tryz.prog (w13.alloc (Obj.cells #[.int .i64 xk,.int .i64 xn,.string xs,.slice x1 x2 x3,.slice x4 x5 x6] 33)) = .ok (.slice na (tl + 1) nc) W15) := r1
             have HI16 : Hid (InS (m + 1) b0 (b0 + 2) bm ba be bf #[.string sn,.slice ma mn mc,.slice ea en ec,.slice ta tn tc] #[.string mnm,.slice fa fl fc,.slice ra rl rc] #[.string f1,.int .i64 f2,.int .i64 f3,.int .i64 f4,.string f5] (tg : Int) a' (.slice va k vc) es rows bss (.slice na (tl + 1) nc) (ts ++ [x]) (rows' ++ [[.int .i64 xk,.int .i64 xn,.string xs,.slice x1 x2 x3,.slice x4 x5 x6]]) (bss' ++ [bs]) (W15.setCell ⟨be,1,none⟩ (.slice na (tl + 1) nc))) := hI16
             have HK16 : Hid (Kp (fun q => q = ba) w (W15.setCell ⟨be,1,none⟩ (.slice na (tl + 1) nc))) := (HKX.out.trans (Kp.ofBelow hal14)).trans2 KP (fun i hi e => by have := HBZ.out; omega)
             have e1 := (hI14.eb.cell 1).trans rfl
             have s1 := (BE15.cell 1).trans rfl
             have s2 := BE15.froz 1
             have HTS2 : Hid ((ts ++ [x]).length = tl + 1 ∧ (∀ y ∈ ts ++ [x],OneT (m + 1) s ⟨f1,f2,f3,f4,f5⟩ y ∧ (f3 = 1 → zroB y = false)) ∧ cntEs (m + 1) es + cntT (m + 1) (ts ++ [x]) + a0 ≤ a') := ⟨by simp [HTS.out.1],fun y hy => by
              rcases List.mem_append.1 hy with hy | hy
              ·exact HTS.out.2.1 y hy
              ·obtain rfl : y = x := by simpa using hy
               exact HXO.out,by rw [cntT_snoc]; have := HTS.out.2.2; have := HXC.out; omega⟩
             clear hal14 hI14 hO14 hA14 hI14' r1 BE15 KP hI16
             go_wp2_with (first | (at_builtin; refine wpList_ran rfl (append_run rfl rfl rfl HRUN.out) ?_) | fail)
             clear HRUN e1 s1 s2
             go_wp2_with fail
             go_roundw
             case rel => exact ⟨i + 1,a',tl + 1,na,nc,ts ++ [x],_,_,by go_num,by omega,by omega,by omega,by omega,HTS2,HI16,HK16⟩
             case measure => simp [intOf]; omega
           ·have d7 : (f3 != 1) = true := by simpa using hf1
            have HXO : Hid (OneT (m + 1) s ⟨f1,f2,f3,f4,f5⟩ x ∧ (f3 = 1 → zroB x = false)) := ⟨HTT.out,fun h => absurd h hf1⟩
            have i0 := (BX.cell 0).trans rfl
            have i1 := (BX.cell 1).trans rfl
            have i2 := (BX.cell 2).trans rfl
            have i3 := (BX.cell 3).trans rfl
            have i4 := (BX.cell 4).trans rfl
            clear hf1 BX
            have hal14 : Below (w11.alloc (Obj.cells #[.int .i64 xk,.int .i64 xn,.string xs,.slice x1 x2 x3,.slice x4 x5 x6] 33)).heap.size (w11.alloc (Obj.cells #[.int .i64 xk,.int .i64 xn,.string xs,.slice x1 x2 x3,.slice x4 x5 x6] 33)) ((w11.alloc (Obj.cells #[.int .i64 xk,.int .i64 xn,.string xs,.slice x1 x2 x3,.slice x4 x5 x6] 33)).alloc (Obj.cells #[.int .i64 xk,.int .i64 xn,.string xs,.slice x1 x2 x3,.slice x4 x5 x6] 33)) := (Below.refl _ _).alloc (Nat.le_refl _) _
            obtain ⟨hI14,hO14,hA14⟩ := HST.out
            have hI14' := hI14.below hal14
            obtain ⟨v',W15,r1,⟨na,nc,hv'⟩,BE15,KP,hI16⟩ := hI14'.pushT (r := [.int .i64 xk,.int .i64 xn,.string xs,.slice x1 x2 x3,.slice x4 x5 x6]) (x := x) (bs := bs) (bz := w11.heap.size + 1) (hO14.sm (Sm.below hal14 fun q hq => (hA14.2 q (List.mem_append.2 (.inr hq))).2)) rfl (fun u hu => by
             simp only [List.mem_cons,List.not_mem_nil,or_false] at hu
             rcases hu with rfl | rfl | rfl | rfl | rfl <;> rfl) (hA14.mono hal14.size) (by have := Blk.new (w11.alloc (Obj.cells #[.int .i64 xk,.int .i64 xn,.string xs,.slice x1 x2 x3,.slice x4 x5 x6] 33)) #[.int .i64 xk,.int .i64 xn,.string xs,.slice x1 x2 x3,.slice x4 x5 x6] 33; rwa [show (w11.alloc (Obj.cells #[.int .i64 xk,.int .i64 xn,.string xs,.slice x1 x2 x3,.slice x4 x5 x6] 33)).heap.size = w11.heap.size + 1 from by simp] at this) (by have := HTS.out.1; omega)
            rw [HTS.out.1] at hv'
            subst hv'
            have HRUN : Hid ((Builtin.append_ #[78,78] 78 #[.slice qa tl qc,.slice (some ⟨w11.heap.size + 1,0,none⟩) 1 1]).run Tryz.prog ((w11.alloc (Obj.cells #[.int .i64 xk,.int .i64 xn,.string xs,.slice x1 x2 x3,.slice x4 x5 x6] 33)).alloc (Obj.cells #[.int .i64 xk,.int .i64 xn,.string xs,.slice x1 x2 x3,.slice x4 x5 x6] 33)) = .ok (.slice na (tl + 1) nc) W15) := r1
            have HI16 : Hid (InS (m + 1) b0 (b0 + 2) bm ba be bf #[.string sn,.slice ma mn mc,.slice ea en ec,.slice ta tn tc] #[.string mnm,.slice fa fl fc,.slice ra rl rc] #[.string f1,.int .i64 f2,.int .i64 f3,.int .i64 f4,.string f5] (tg : Int) a' (.slice va k vc) es rows bss (.slice na (tl + 1) nc) (ts ++ [x]) (rows' ++ [[.int .i64 xk,.int .i64 xn,.string xs,.slice x1 x2 x3,.slice x4 x5 x6]]) (bss' ++ [bs]) (W15.setCell ⟨be,1,none⟩ (.slice na (tl + 1) nc))) := hI16
            have HK16 : Hid (Kp (fun q => q = ba) w (W15.setCell ⟨be,1,none⟩ (.slice na (tl + 1) nc))) := (HKX.out.trans (Kp.ofBelow hal14)).trans2 KP (fun i hi e => by have := HBZ.out; omega)
            have e1 := (hI14.eb.cell 1).trans rfl
            have s1 := (BE15.cell 1).trans rfl
            have s2 := BE15.froz 1
            have HTS2 : Hid ((ts ++ [x]).length = tl + 1 ∧ (∀ y ∈ ts ++ [x],OneT (m + 1) s ⟨f1,f2,f3,f4,f5⟩ y ∧ (f3 = 1 → zroB y = false)) ∧ cntEs (m + 1) es + cntT (m + 1) (ts ++ [x]) + a0 ≤ a') := ⟨by simp [HTS.out.1],fun y hy => by
             rcases List.mem_append.1 hy with hy | hy
             ·exact HTS.out.2.1 y hy
             ·obtain rfl : y = x := by simpa using hy
              exact HXO.out,by rw [cntT_snoc]; have := HTS.out.2.2; have := HXC.out; omega⟩
            clear hal14 hI14 hO14 hA14 hI14' r1 BE15 KP hI16
            go_wp2_with (first | (at_builtin; refine wpList_ran rfl (append_run rfl rfl rfl HRUN.out) ?_) | fail)
            clear HRUN e1 s1 s2
            go_wp2_with fail
            go_roundw
            case rel => exact ⟨i + 1,a',tl + 1,na,nc,ts ++ [x],_,_,by go_num,by omega,by omega,by omega,by omega,HTS2,HI16,HK16⟩
            case measure => simp [intOf]; omega
          ·have e0 := (HI.out.eb.cell 0).trans rfl
           have e1 := (HI.out.eb.cell 1).trans rfl
           by_cases htl0 : tl = 0
           ·have d8 : decide (0 < tl) = false := by simp; omega
            have HSE : Hid (FtS (m + 1) b0 (b0 + 2) bm ba #[.string sn,.slice ma mn mc,.slice ea en ec,.slice ta tn tc] #[.string mnm,.slice fa fl fc,.slice ra rl rc] aj (.slice va k vc) es rows bss wr ∧ Apt b0 wr (fpO b0 (b0 + 2) bm (.slice va k vc) bss)) := ⟨HI.out.ft,HI.out.ap.of_count fun y => by simp only [List.count_append]; omega⟩
            have hcj : cntEs (m + 1) es + a0 ≤ aj := by have := HTS.out.2.2; omega
            have HCJ : Hid (cntEs (m + 1) es + a0 ≤ aj) := hcj
            clear hcj htl0
            go_wp2_with fail
            clear e0 e1 d8
            go_roundw
            case rel => exact ⟨tg + 1,aj,k,va,vc,es,rows,bss,by go_num,by omega,by omega,hk40,by omega,by omega,(⟨HE.out.1,HE.out.2.1.skip,HCJ.out⟩ : es.length = k ∧ EsT (m + 1) s fs es ((tg : Int) + 1) ∧ cntEs (m + 1) es + a0 ≤ aj),HSE,HKJ⟩
            case measure => simp [intOf]; omega
           ·have d8 : decide (0 < tl) = true := by simp; omega
            have hal17 : Below wr.heap.size wr (wr.alloc (Obj.cells #[.int .i64 (tg : Int),.slice qa tl qc] 80)) := (Below.refl _ _).alloc (Nat.le_refl _) _
            obtain ⟨v',W18,r1,⟨na,nc,hv'⟩,BT18,KP,hF19,hA19⟩ := (HI.out.below hal17).pushE (bz := wr.heap.size) ⟨by omega,by omega⟩ (Blk.new wr _ _) (by have := HE.out.1; omega) rfl
            rw [HE.out.1] at hv'
            subst hv'
            have HRUN : Hid ((Builtin.append_ #[30,30] 30 #[(.slice va k vc),.slice (some ⟨wr.heap.size,0,none⟩) 1 1]).run Tryz.prog (wr.alloc (Obj.cells #[.int .i64 (tg : Int),.slice qa tl qc] 80)) = .ok (.slice na (k + 1) nc) W18) := r1
            have HS19 : Hid (FtS (m + 1) b0 (b0 + 2) bm ba #[.string sn,.slice ma mn mc,.slice ea en ec,.slice ta tn tc] #[.string mnm,.slice fa fl fc,.slice ra rl rc] aj (.slice na (k + 1) nc) (es ++ [((tg : Int),ts)]) (rows ++ [[.int .i64 (tg : Int),.slice qa tl qc]]) (bss ++ [allB (.slice qa tl qc) bss']) (W18.setCell ⟨b0 + 2,3,none⟩ (.slice na (k + 1) nc)) ∧ Apt b0 (W18.setCell ⟨b0 + 2,3,none⟩ (.slice na (k + 1) nc)) (fpO b0 (b0 + 2) bm (.slice na (k + 1) nc) (bss ++ [allB (.slice qa tl qc) bss']))) := ⟨hF19,hA19⟩
            have HK19 : Hid (Kp (fun q => q = ba) w (W18.setCell ⟨b0 + 2,3,none⟩ (.slice na (k + 1) nc))) := (HKJ.out.trans (Kp.ofBelow hal17)).trans2 KP (fun i hi e => by have := HBZ.out; omega)
            have HE2 : Hid ((es ++ [((tg : Int),ts)]).length = k + 1 ∧ EsT (m + 1) s fs (es ++ [((tg : Int),ts)]) ((tg : Int) + 1) ∧ cntEs (m + 1) (es ++ [((tg : Int),ts)]) + a0 ≤ aj) := ⟨by simp [HE.out.1],HE.out.2.1.push (by omega) (by omega) HFO.out rfl (by have := HTS.out.1; omega) (by have := HTS.out.1; omega) (fun h => by have := HNL.out h; have := HTS.out.1; omega) HTS.out.2.1,by rw [cntEs_snoc]; exact HTS.out.2.2⟩
            have hk1 : k + 1 ≤ 40 := by
             have h1 := HE2.out.2.1.len
             have h2 := List.length_filter_le (fun f : FlS => decide (f.tag < (tg : Int) + 1)) fs
             have h3 := HFL.out.1
             have h4 := HE2.out.1
             omega
            have t3 := (HI.out.ft.tb.cell 3).trans rfl
            have s1 := (BT18.cell 3).trans rfl
            have s2 := BT18.froz 3
            clear hal17 r1 BT18 KP hF19 hA19 htl0
            go_wp2_with (first | (at_builtin; refine wpList_ran rfl (append_run rfl rfl rfl HRUN.out) ?_) | fail)
            clear HRUN e0 e1 t3 s1 s2
            go_wp2_with fail
            clear d8
            go_roundw
            case rel => exact ⟨tg + 1,aj,k + 1,na,nc,_,_,_,by go_num,by omega,by omega,hk1,by omega,by omega,HE2,HS19,HK19⟩
            case measure => simp [intOf]; omega
        ·have d6 : (f3 == 3) = false := by simpa using hf3
         have HNL : Hid (f3 ≠ 3 → 1 ≤ 1) := fun _ => by omega
         clear hf3 HS8s
         have al10 : Below w8.heap.size w8 (w8.alloc (Obj.cells #[.int .i64 (tg : Int),.slice none 0 0] 80)) := (Below.refl _ _).alloc (Nat.le_refl _) _
         obtain ⟨be,hbe⟩ : ∃ z,w8.heap.size = z := ⟨_,rfl⟩
         have HI0 : Hid (InS (m + 1) b0 (b0 + 2) bm ba be bf #[.string sn,.slice ma mn mc,.slice ea en ec,.slice ta tn tc] #[.string mnm,.slice fa fl fc,.slice ra rl rc] #[.string f1,.int .i64 f2,.int .i64 f3,.int .i64 f4,.string f5] (tg : Int) a1 (.slice va k vc) es rows bss (.slice none 0 0) [] [] [] (w8.alloc (Obj.cells #[.int .i64 (tg : Int),.slice none 0 0] 80))) := by
          obtain ⟨g1,g2,g3⟩ := HS8.out
          have h1 := g2.new (by have := (g2.2 b0 (by simp [fpO])); omega : b0 ≤ w8.heap.size) (w' := (w8.alloc (Obj.cells #[.int .i64 (tg : Int),.slice none 0 0] 80))) (by simp)
          rw [hbe] at h1
          exact InS.new (g1.below (g2.of_count fun y => by simp only [List.count_append]; omega) al10) (by rw [List.append_assoc] at h1; exact h1) (by rw [← hbe]; exact Blk.new w8 _ _) (g3.below al10)
         have HKI : Hid (Kp (fun q => q = ba) w (w8.alloc (Obj.cells #[.int .i64 (tg : Int),.slice none 0 0] 80))) := HK8.out.trans (Kp.ofBelow al10)
         clear al10
         go_wp2_with fail
         generalize (w8.alloc (Obj.cells #[.int .i64 (tg : Int),.slice none 0 0] 80)) = W10 at *
         try simp only [hbe]
         clear hbe y2 y3 d1 d2 d3
         go_loopw [19] (fun iv wz => ∃ (i a tl : Nat) (qa : Option Addr) (qc : Nat) (ts : List Tr) (rows' : List (List Value)) (bss' : List (List Nat)),iv = .int .i64 (i : Int) ∧ i ≤ 1 ∧ tl ≤ i ∧ a0 ≤ a ∧ a ≤ 155 + 2 * m + i ∧ Hid (ts.length = tl ∧ (∀ x ∈ ts,OneT (m + 1) s ⟨f1,f2,f3,f4,f5⟩ x ∧ (f3 = 1 → zroB x = false)) ∧ cntEs (m + 1) es + cntT (m + 1) ts + a0 ≤ a) ∧ Hid (InS (m + 1) b0 (b0 + 2) bm ba be bf #[.string sn,.slice ma mn mc,.slice ea en ec,.slice ta tn tc] #[.string mnm,.slice fa fl fc,.slice ra rl rc] #[.string f1,.int .i64 f2,.int .i64 f3,.int .i64 f4,.string f5] (tg : Int) a (.slice va k vc) es rows bss (.slice qa tl qc) ts rows' bss' wz) ∧ Hid (Kp (fun q => q = ba) w wz)) (fun iv _ => 1 - (intOf iv).toNat)
         case atStart => exact ⟨0,a1,0,none,0,[],[],[],rfl,by omega,by omega,by have := HA1.out; omega,by have := HA1.out; omega,(⟨rfl,by simp,by have := HE.out.2.2; have := HA1.out; simp [cntT]; omega⟩ : ([] : List Tr).length = 0 ∧ (∀ x ∈ ([] : List Tr),OneT (m + 1) s ⟨f1,f2,f3,f4,f5⟩ x ∧ (f3 = 1 → zroB x = false)) ∧ cntEs (m + 1) es + cntT (m + 1) [] + a0 ≤ a1),HI0,HKI⟩
         case round =>
          clear HI0 HKI
          obtain ⟨i,aj,tl,qa,qc,ts,rows',bss',rfl,hi,htl,haj,hajb,HTS,HI,HKJ⟩ := hrel
          by_cases hlt : i < 1
          ·have HON : Hid (Calls Tryz.prog 76 #[.agg #[.string sn,.slice ma mn mc,.slice ea en ec,.slice ta tn tc],.agg #[.string f1,.int .i64 f2,.int .i64 f3,.int .i64 f4,.string f5],.slice la L lc,.pointer (some ⟨ba,0,none⟩),.int .i64 deep] wr (OneP (m + 1) s ⟨f1,f2,f3,f4,f5⟩ ba aj wr)) := one_step s sn ma ea ta mn mc en ec tn tc m ls la lc L ba w0 HCX.out.1 HCX.out.2.1 HCX.out.2.2.1 hL2 hLz HCX.out.2.2.2.1 deep ⟨f1,f2,f3,f4,f5⟩ HKD.out.1 HKD.out.2 HI7.out aj wr (HLO.out wr HKJ.out) HI.out.ft.ab (by omega) ⟨hd1,by omega⟩
           have s0 := (HI.out.ft.sb.cell 0).trans rfl
           have s1 := (HI.out.ft.sb.cell 1).trans rfl
           have s2 := (HI.out.ft.sb.cell 2).trans rfl
           have s3 := (HI.out.ft.sb.cell 3).trans rfl
           have l0 := (HI.out.fb.cell 0).trans rfl
           have l1 := (HI.out.fb.cell 1).trans rfl
           have l2 := (HI.out.fb.cell 2).trans rfl
           have l3 := (HI.out.fb.cell 3).trans rfl
           have l4 := (HI.out.fb.cell 4).trans rfl
           go_wp2_with fail
           refine Calls.mono HON.out ?_
           rintro ee w11 ⟨r,x,bs,a',rfl,hO,hA,hT,hc,hmx,hB',hK'⟩
           obtain ⟨x1,x2,x3,x4,x5,x6,hr⟩ := TrO.open hO
           subst hr
           obtain ⟨xk,hxk⟩ : ∃ z,x.kind = z := ⟨_,rfl⟩
           obtain ⟨xn,hxn⟩ : ∃ z,x.n = z := ⟨_,rfl⟩
           obtain ⟨xs,hxs⟩ : ∃ z,x.s = z := ⟨_,rfl⟩
           rw [hxk,hxn,hxs] at hO
           rw [hxk,hxn,hxs]
           have HXP : Hid (x.kind = xk ∧ x.n = xn ∧ x.s = xs) := ⟨hxk,hxn,hxs⟩
           have HXC : Hid (cntN (m + 1) x + aj ≤ a') := hc
           have hBz : b0 ≤ wr.heap.size := by have := (HI.out.ap.2 b0 (by simp [fpO])); omega
           have hI11 := HI.out.at' hK' hB'
           have hA11 : Apt b0 w11 ((fpO b0 (b0 + 2) bm (.slice va k vc) bss ++ ([bf,be] ++ allB (.slice qa tl qc) bss')) ++ bs) := HI.out.ap.append hA hBz (Nat.le_refl _) hK'.size
           have al12 : Below w11.heap.size w11 (w11.alloc (Obj.cells #[.int .i64 xk,.int .i64 xn,.string xs,.slice x1 x2 x3,.slice x4 x5 x6] 33)) := (Below.refl _ _).alloc (Nat.le_refl _) _
           have HST : Hid (InS (m + 1) b0 (b0 + 2) bm ba be bf #[.string sn,.slice ma mn mc,.slice ea en ec,.slice ta tn tc] #[.string mnm,.slice fa fl fc,.slice ra rl rc] #[.string f1,.int .i64 f2,.int .i64 f3,.int .i64 f4,.string f5] (tg : Int) a' (.slice va k vc) es rows bss (.slice qa tl qc) ts rows' bss' (w11.alloc (Obj.cells #[.int .i64 xk,.int .i64 xn,.string xs,.slice x1 x2 x3,.slice x4 x5 x6] 33)) ∧ TrO (m + 1) b0 (w11.alloc (Obj.cells #[.int .i64 xk,.int .i64 xn,.string xs,.slice x1 x2 x3,.slice x4 x5 x6] 33)) [.int .i64 xk,.int .i64 xn,.string xs,.slice x1 x2 x3,.slice x4 x5 x6] x bs ∧ Apt b0 (w11.alloc (Obj.cells #[.int .i64 xk,.int .i64 xn,.string xs,.slice x1 x2 x3,.slice x4 x5 x6] 33)) ((fpO b0 (b0 + 2) bm (.slice va k vc) bss ++ ([bf,be] ++ allB (.slice qa tl qc) bss')) ++ bs)) := ⟨hI11.below al12,(hO.base hBz).sm (Sm.below al12 fun q hq => (hA.2 q hq).2),hA11.mono al12.size⟩
           have HKX : Hid (Kp (fun q => q = ba) w (w11.alloc (Obj.cells #[.int .i64 xk,.int .i64 xn,.string xs,.slice x1 x2 x3,.slice x4 x5 x6] 33))) := (HKJ.out.trans hK').trans (Kp.ofBelow al12)
           have BX : Blk (w11.alloc (Obj.cells #[.int .i64 xk,.int .i64 xn,.string xs,.slice x1 x2 x3,.slice x4 x5 x6] 33)) w11.heap.size #[.int .i64 xk,.int .i64 xn,.string xs,.slice x1 x2 x3,.slice x4 x5 x6] 33 := Blk.new w11 _ _
           have HLEN : Hid (x.es.length = x2 ∧ x.rest.length = x5) := by
            have h1 : TrW (m + 1) w11 (.agg #[.int .i64 xk,.int .i64 xn,.string xs,.slice x1 x2 x3,.slice x4 x5 x6]) x := ⟨_,rfl,(hO).trR⟩
            exact ⟨h1.parts.2.2.2.1,h1.parts.2.2.2.2⟩
           have HTT : Hid (OneT (m + 1) s ⟨f1,f2,f3,f4,f5⟩ x) := hT
           have ha'1 : a0 ≤ a' := by omega
           have ha'2 : a' ≤ 155 + 2 * m + (i + 1) := by omega
           have m2 := ((HST.out.1.fb).cell 2).trans rfl
           clear HON hO hA hT hc hmx hB' hK' hxk hxn hxs hI11 hA11 al12 s0 s1 s2 s3 l0 l1 l2 l3 l4 HI HKJ hBz
           by_cases hf1 : f3 = 1
           ·have d7 : (f3 != 1) = false := by simpa using hf1
            have j0 := (BX.cell 0).trans rfl
            have j1 := (BX.cell 1).trans rfl
            have j2 := (BX.cell 2).trans rfl
            have j3 := (BX.cell 3).trans rfl
            have j4 := (BX.cell 4).trans rfl
            cases hZ : zroB x with
            | true =>
             have HZC : Hid (Calls Tryz.prog 77 #[.agg #[.int .i64 xk,.int .i64 xn,.string xs,.slice x1 x2 x3,.slice x4 x5 x6]] (w11.alloc (Obj.cells #[.int .i64 xk,.int .i64 xn,.string xs,.slice x1 x2 x3,.slice x4 x5 x6] 33)) fun e w' => e = .returned (.bool true) ∧ Below (w11.alloc (Obj.cells #[.int .i64 xk,.int .i64 xn,.string xs,.slice x1 x2 x3,.slice x4 x5 x6] 33)).heap.size (w11.alloc (Obj.cells #[.int .i64 xk,.int .i64 xn,.string xs,.slice x1 x2 x3,.slice x4 x5 x6] 33)) w') := (by
              have h1 := rzero_any x x1 x4 x2 x3 x5 x6 (w11.alloc (Obj.cells #[.int .i64 xk,.int .i64 xn,.string xs,.slice x1 x2 x3,.slice x4 x5 x6] 33)) HLEN.out.1.symm HLEN.out.2.symm
              rw [HXP.out.1,HXP.out.2.1,HXP.out.2.2,hZ] at h1
              exact h1 : Calls Tryz.prog _ _ _ _)
             clear hZ hf1
             go_wp2_with fail
             refine HZC.out.mono ?_
             rintro ee w13 ⟨rfl,hb13⟩
             have HI13 : Hid (InS (m + 1) b0 (b0 + 2) bm ba be bf #[.string sn,.slice ma mn mc,.slice ea en ec,.slice ta tn tc] #[.string mnm,.slice fa fl fc,.slice ra rl rc] #[.string f1,.int .i64 f2,.int .i64 f3,.int .i64 f4,.string f5] (tg : Int) a' (.slice va k vc) es rows bss (.slice qa tl qc) ts rows' bss' w13) := HST.out.1.below hb13
             have HK13 : Hid (Kp (fun q => q = ba) w w13) := HKX.out.trans (Kp.ofBelow hb13)
             have HTS2 : Hid (ts.length = tl ∧ (∀ x ∈ ts,OneT (m + 1) s ⟨f1,f2,f3,f4,f5⟩ x ∧ (f3 = 1 → zroB x = false)) ∧ cntEs (m + 1) es + cntT (m + 1) ts + a0 ≤ a') := ⟨HTS.out.1,HTS.out.2.1,by have := HTS.out.2.2; have := HXC.out; omega⟩
             clear HZC hb13 j0 j1 j2 j3 j4 HST HKX BX m2 HTS
             go_wp2_with fail
             clear d7
             go_roundw
             case rel => exact ⟨i + 1,a',tl,qa,qc,ts,rows',bss',by go_num,by omega,by omega,by omega,by omega,HTS2,HI13,HK13⟩
             case measure => simp [intOf]; omega
            | false =>
             have HXO : Hid (OneT (m + 1) s ⟨f1,f2,f3,f4,f5⟩ x ∧ (f3 = 1 → zroB x = false)) := ⟨HTT.out,fun _ => hZ⟩
             have HZC : Hid (Calls Tryz.prog 77 #[.agg #[.int .i64 xk,.int .i64 xn,.string xs,.slice x1 x2 x3,.slice x4 x5 x6]] (w11.alloc (Obj.cells #[.int .i64 xk,.int .i64 xn,.string xs,.slice x1 x2 x3,.slice x4 x5 x6] 33)) fun e w' => e = .returned (.bool false) ∧ Below (w11.alloc (Obj.cells #[.int .i64 xk,.int .i64 xn,.string xs,.slice x1 x2 x3,.slice x4 x5 x6] 33)).heap.size (w11.alloc (Obj.cells #[.int .i64 xk,.int .i64 xn,.string xs,.slice x1 x2 x3,.slice x4 x5 x6] 33)) w') := (by
              have h1 := rzero_any x x1 x4 x2 x3 x5 x6 (w11.alloc (Obj.cells #[.int .i64 xk,.int .i64 xn,.string xs,.slice x1 x2 x3,.slice x4 x5 x6] 33)) HLEN.out.1.symm HLEN.out.2.symm
              rw [HXP.out.1,HXP.out.2.1,HXP.out.2.2,hZ] at h1
              exact h1 : Calls Tryz.prog _ _ _ _)
             clear hZ hf1
             go_wp2_with fail
             refine HZC.out.mono ?_
             rintro ee w13 ⟨rfl,hb13⟩
             have HST0 := HST
             have HST : Hid (InS (m + 1) b0 (b0 + 2) bm ba be bf #[.string sn,.slice ma mn mc,.slice ea en ec,.slice ta tn tc] #[.string mnm,.slice fa fl fc,.slice ra rl rc] #[.string f1,.int .i64 f2,.int .i64 f3,.int .i64 f4,.string f5] (tg : Int) a' (.slice va k vc) es rows bss (.slice qa tl qc) ts rows' bss' w13 ∧ TrO (m + 1) b0 w13 [.int .i64 xk,.int .i64 xn,.string xs,.slice x1 x2 x3,.slice x4 x5 x6] x bs ∧ Apt b0 w13 ((fpO b0 (b0 + 2) bm (.slice va k vc) bss ++ ([bf,be] ++ allB (.slice qa tl qc) bss')) ++ bs)) := ⟨HST0.out.1.below hb13,HST0.out.2.1.sm (Sm.below hb13 fun q hq => (HST0.out.2.2.2 q (List.mem_append.2 (.inr hq))).2),HST0.out.2.2.mono hb13.size⟩
             have HKX0 := HKX
             have HKX : Hid (Kp (fun q => q = ba) w w13) := HKX0.out.trans (Kp.ofBelow hb13)
             have BX13 := BX.below hb13
             have i0 := (BX13.cell 0).trans rfl
             have i1 := (BX13.cell 1).trans rfl
             have i2 := (BX13.cell 2).trans rfl
             have i3 := (BX13.cell 3).trans rfl
             have i4 := (BX13.cell 4).trans rfl
             clear HZC hb13 j0 j1 j2 j3 j4 HST0 HKX0 BX BX13 m2
             have hal14 : Below w13.heap.size w13 (w13.alloc (Obj.cells #[.int .i64 xk,.int .i64 xn,.string xs,.slice x1 x2 x3,.slice x4 x5 x6] 33)) := (Below.refl _ _).alloc (Nat.le_refl _) _
             obtain ⟨hI14,hO14,hA14⟩ := HST.out
             have hI14' := hI14.below hal14
             obtain ⟨v',W15,r1,⟨na,nc,hv'⟩,BE15,KP,hI16⟩ := hI14'.pushT (r := [.int .i64 xk,.int .i64 xn,.string xs,.slice x1 x2 x3,.slice x4 x5 x6]) (x := x) (bs := bs) (bz := w13.heap.size) (hO14.sm (Sm.below hal14 fun q hq => (hA14.2 q (List.mem_append.2 (.inr hq))).2)) rfl (fun u hu => by
              simp only [List.mem_cons,List.not_mem_nil,or_false] at hu
              rcases hu with rfl | rfl | rfl | rfl | rfl <;> rfl) (hA14.mono hal14.size) (Blk.new w13 _ _) (by have := HTS.out.1; omega)
             rw [HTS.out.1] at hv'
             subst hv'
             have HRUN : Hid ((Builtin.append_ #[78,78] 78 #[.slice qa tl qc,.slice (some ⟨w13.heap.size,0,none⟩) 1 1]).run Tryz.prog (w13.alloc (Obj.cells #[.int .i64 xk,.int .i64 xn,.string xs,.slice x1 x2 x3,.slice x4 x5 x6] 33)) = .ok (.slice na (tl + 1) nc) W15) := r1
             have HI16 : Hid (InS (m + 1) b0 (b0 + 2) bm ba be bf #[.string sn,.slice ma mn mc,.slice ea en ec,.slice ta tn tc] #[.string mnm,.slice fa fl fc,.slice ra rl rc] #[.string f1,.int .i64 f2,.int .i64 f3,.int .i64 f4,.string f5] (tg : Int) a' (.slice va k vc) es rows bss (.slice na (tl + 1) nc) (ts ++ [x]) (rows' ++ [[.int .i64 xk,.int .i64 xn,.string xs,.slice x1 x2 x3,.slice x4 x5 x6]]) (bss' ++ [bs]) (W15.setCell ⟨be,1,none⟩ (.slice na (tl + 1) nc))) := hI16
             have HK16 : Hid (Kp (fun q => q = ba) w (W15.setCell ⟨be,1,none⟩ (.slice na (tl + 1) nc))) := (HKX.out.trans (Kp.ofBelow hal14)).trans2 KP (fun i hi e => by have := HBZ.out; omega)
             have e1 := (hI14.eb.cell 1).trans rfl
             have s1 := (BE15.cell 1).trans rfl
             have s2 := BE15.froz 1
             have HTS2 : Hid ((ts ++ [x]).length = tl + 1 ∧ (∀ y ∈ ts ++ [x],OneT (m + 1) s ⟨f1,f2,f3,f4,f5⟩ y ∧ (f3 = 1 → zroB y = false)) ∧ cntEs (m + 1) es + cntT (m + 1) (ts ++ [x]) + a0 ≤ a') := ⟨by simp [HTS.out.1],fun y hy => by
              rcases List.mem_append.1 hy with hy | hy
              ·exact HTS.out.2.1 y hy
              ·obtain rfl : y = x := by simpa using hy
               exact HXO.out,by rw [cntT_snoc]; have := HTS.out.2.2; have := HXC.out; omega⟩
             clear hal14 hI14 hO14 hA14 hI14' r1 BE15 KP hI16
             go_wp2_with (first | (at_builtin; refine wpList_ran rfl (append_run rfl rfl rfl HRUN.out) ?_) | fail)
             clear HRUN e1 s1 s2
             go_wp2_with fail
             go_roundw
             case rel => exact ⟨i + 1,a',tl + 1,na,nc,ts ++ [x],_,_,by go_num,by omega,by omega,by omega,by omega,HTS2,HI16,HK16⟩
             case measure => simp [intOf]; omega
           ·have d7 : (f3 != 1) = true := by simpa using hf1
            have HXO : Hid (OneT (m + 1) s ⟨f1,f2,f3,f4,f5⟩ x ∧ (f3 = 1 → zroB x = false)) := ⟨HTT.out,fun h => absurd h hf1⟩
            have i0 := (BX.cell 0).trans rfl
            have i1 := (BX.cell 1).trans rfl
            have i2 := (BX.cell 2).trans rfl
            have i3 := (BX.cell 3).trans rfl
            have i4 := (BX.cell 4).trans rfl
            clear hf1 BX
            have hal14 : Below (w11.alloc (Obj.cells #[.int .i64 xk,.int .i64 xn,.string xs,.slice x1 x2 x3,.slice x4 x5 x6] 33)).heap.size (w11.alloc (Obj.cells #[.int .i64 xk,.int .i64 xn,.string xs,.slice x1 x2 x3,.slice x4 x5 x6] 33)) ((w11.alloc (Obj.cells #[.int .i64 xk,.int .i64 xn,.string xs,.slice x1 x2 x3,.slice x4 x5 x6] 33)).alloc (Obj.cells #[.int .i64 xk,.int .i64 xn,.string xs,.slice x1 x2 x3,.slice x4 x5 x6] 33)) := (Below.refl _ _).alloc (Nat.le_refl _) _
            obtain ⟨hI14,hO14,hA14⟩ := HST.out
            have hI14' := hI14.below hal14
            obtain ⟨v',W15,r1,⟨na,nc,hv'⟩,BE15,KP,hI16⟩ := hI14'.pushT (r := [.int .i64 xk,.int .i64 xn,.string xs,.slice x1 x2 x3,.slice x4 x5 x6]) (x := x) (bs := bs) (bz := w11.heap.size + 1) (hO14.sm (Sm.below hal14 fun q hq => (hA14.2 q (List.mem_append.2 (.inr hq))).2)) rfl (fun u hu => by
             simp only [List.mem_cons,List.not_mem_nil,or_false] at hu
             rcases hu with rfl | rfl | rfl | rfl | rfl <;> rfl) (hA14.mono hal14.size) (by have := Blk.new (w11.alloc (Obj.cells #[.int .i64 xk,.int .i64 xn,.string xs,.slice x1 x2 x3,.slice x4 x5 x6] 33)) #[.int .i64 xk,.int .i64 xn,.string xs,.slice x1 x2 x3,.slice x4 x5 x6] 33; rwa [show (w11.alloc (Obj.cells #[.int .i64 xk,.int .i64 xn,.string xs,.slice x1 x2 x3,.slice x4 x5 x6] 33)).heap.size = w11.heap.size + 1 from by simp] at this) (by have := HTS.out.1; omega)
            rw [HTS.out.1] at hv'
            subst hv'
            have HRUN : Hid ((Builtin.append_ #[78,78] 78 #[.slice qa tl qc,.slice (some ⟨w11.heap.size + 1,0,none⟩) 1 1]).run Tryz.prog ((w11.alloc (Obj.cells #[.int .i64 xk,.int .i64 xn,.string xs,.slice x1 x2 x3,.slice x4 x5 x6] 33)).alloc (Obj.cells #[.int .i64 xk,.int .i64 xn,.string xs,.slice x1 x2 x3,.slice x4 x5 x6] 33)) = .ok (.slice na (tl + 1) nc) W15) := r1
            have HI16 : Hid (InS (m + 1) b0 (b0 + 2) bm ba be bf #[.string sn,.slice ma mn mc,.slice ea en ec,.slice ta tn tc] #[.string mnm,.slice fa fl fc,.slice ra rl rc] #[.string f1,.int .i64 f2,.int .i64 f3,.int .i64 f4,.string f5] (tg : Int) a' (.slice va k vc) es rows bss (.slice na (tl + 1) nc) (ts ++ [x]) (rows' ++ [[.int .i64 xk,.int .i64 xn,.string xs,.slice x1 x2 x3,.slice x4 x5 x6]]) (bss' ++ [bs]) (W15.setCell ⟨be,1,none⟩ (.slice na (tl + 1) nc))) := hI16
            have HK16 : Hid (Kp (fun q => q = ba) w (W15.setCell ⟨be,1,none⟩ (.slice na (tl + 1) nc))) := (HKX.out.trans (Kp.ofBelow hal14)).trans2 KP (fun i hi e => by have := HBZ.out; omega)
            have e1 := (hI14.eb.cell 1).trans rfl
            have s1 := (BE15.cell 1).trans rfl
            have s2 := BE15.froz 1
            have HTS2 : Hid ((ts ++ [x]).length = tl + 1 ∧ (∀ y ∈ ts ++ [x],OneT (m + 1) s ⟨f1,f2,f3,f4,f5⟩ y ∧ (f3 = 1 → zroB y = false)) ∧ cntEs (m + 1) es + cntT (m + 1) (ts ++ [x]) + a0 ≤ a') := ⟨by simp [HTS.out.1],fun y hy => by
             rcases List.mem_append.1 hy with hy | hy
             ·exact HTS.out.2.1 y hy
             ·obtain rfl : y = x := by simpa using hy
              exact HXO.out,by rw [cntT_snoc]; have := HTS.out.2.2; have := HXC.out; omega⟩
            clear hal14 hI14 hO14 hA14 hI14' r1 BE15 KP hI16
            go_wp2_with (first | (at_builtin; refine wpList_ran rfl (append_run rfl rfl rfl HRUN.out) ?_) | fail)
            clear HRUN e1 s1 s2
            go_wp2_with fail
            go_roundw
            case rel => exact ⟨i + 1,a',tl + 1,na,nc,ts ++ [x],_,_,by go_num,by omega,by omega,by omega,by omega,HTS2,HI16,HK16⟩
            case measure => simp [intOf]; omega
          ·have e0 := (HI.out.eb.cell 0).trans rfl
           have e1 := (HI.out.eb.cell 1).trans rfl
           by_cases htl0 : tl = 0
           ·have d8 : decide (0 < tl) = false := by simp; omega
            have HSE : Hid (FtS (m + 1) b0 (b0 + 2) bm ba #[.string sn,.slice ma mn mc,.slice ea en ec,.slice ta tn tc] #[.string mnm,.slice fa fl fc,.slice ra rl rc] aj (.slice va k vc) es rows bss wr ∧ Apt b0 wr (fpO b0 (b0 + 2) bm (.slice va k vc) bss)) := ⟨HI.out.ft,HI.out.ap.of_count fun y => by simp only [List.count_append]; omega⟩
            have hcj : cntEs (m + 1) es + a0 ≤ aj := by have := HTS.out.2.2; omega
            have HCJ : Hid (cntEs (m + 1) es + a0 ≤ aj) := hcj
            clear hcj htl0
            go_wp2_with fail
            clear e0 e1 d8
            go_roundw
            case rel => exact ⟨tg + 1,aj,k,va,vc,es,rows,bss,by go_num,by omega,by omega,hk40,by omega,by omega,(⟨HE.out.1,HE.out.2.1.skip,HCJ.out⟩ : es.length = k ∧ EsT (m + 1) s fs es ((tg : Int) + 1) ∧ cntEs (m + 1) es + a0 ≤ aj),HSE,HKJ⟩
            case measure => simp [intOf]; omega
           ·have d8 : decide (0 < tl) = true := by simp; omega
            have hal17 : Below wr.heap.size wr (wr.alloc (Obj.cells #[.int .i64 (tg : Int),.slice qa tl qc] 80)) := (Below.refl _ _).alloc (Nat.le_refl _) _
            obtain ⟨v',W18,r1,⟨na,nc,hv'⟩,BT18,KP,hF19,hA19⟩ := (HI.out.below hal17).pushE (bz := wr.heap.size) ⟨by omega,by omega⟩ (Blk.new wr _ _) (by have := HE.out.1; omega) rfl
            rw [HE.out.1] at hv'
            subst hv'
            have HRUN : Hid ((Builtin.append_ #[30,30] 30 #[(.slice va k vc),.slice (some ⟨wr.heap.size,0,none⟩) 1 1]).run Tryz.prog (wr.alloc (Obj.cells #[.int .i64 (tg : Int),.slice qa tl qc] 80)) = .ok (.slice na (k + 1) nc) W18) := r1
            have HS19 : Hid (FtS (m + 1) b0 (b0 + 2) bm ba #[.string sn,.slice ma mn mc,.slice ea en ec,.slice ta tn tc] #[.string mnm,.slice fa fl fc,.slice ra rl rc] aj (.slice na (k + 1) nc) (es ++ [((tg : Int),ts)]) (rows ++ [[.int .i64 (tg : Int),.slice qa tl qc]]) (bss ++ [allB (.slice qa tl qc) bss']) (W18.setCell ⟨b0 + 2,3,none⟩ (.slice na (k + 1) nc)) ∧ Apt b0 (W18.setCell ⟨b0 + 2,3,none⟩ (.slice na (k + 1) nc)) (fpO b0 (b0 + 2) bm (.slice na (k + 1) nc) (bss ++ [allB (.slice qa tl qc) bss']))) := ⟨hF19,hA19⟩
            have HK19 : Hid (Kp (fun q => q = ba) w (W18.setCell ⟨b0 + 2,3,none⟩ (.slice na (k + 1) nc))) := (HKJ.out.trans (Kp.ofBelow hal17)).trans2 KP (fun i hi e => by have := HBZ.out; omega)
            have HE2 : Hid ((es ++ [((tg : Int),ts)]).length = k + 1 ∧ EsT (m + 1) s fs (es ++ [((tg : Int),ts)]) ((tg : Int) + 1) ∧ cntEs (m + 1) (es ++ [((tg : Int),ts)]) + a0 ≤ aj) := ⟨by simp [HE.out.1],HE.out.2.1.push (by omega) (by omega) HFO.out rfl (by have := HTS.out.1; omega) (by have := HTS.out.1; omega) (fun h => by have := HNL.out h; have := HTS.out.1; omega) HTS.out.2.1,by rw [cntEs_snoc]; exact HTS.out.2.2⟩
            have hk1 : k + 1 ≤ 40 := by
             have h1 := HE2.out.2.1.len
             have h2 := List.length_filter_le (fun f : FlS => decide (f.tag < (tg : Int) + 1)) fs
             have h3 := HFL.out.1
             have h4 := HE2.out.1
             omega
            have t3 := (HI.out.ft.tb.cell 3).trans rfl
            have s1 := (BT18.cell 3).trans rfl
            have s2 := BT18.froz 3
            clear hal17 r1 BT18 KP hF19 hA19 htl0
            go_wp2_with (first | (at_builtin; refine wpList_ran rfl (append_run rfl rfl rfl HRUN.out) ?_) | fail)
            clear HRUN e0 e1 t3 s1 s2
            go_wp2_with fail
            clear d8
            go_roundw
            case rel => exact ⟨tg + 1,aj,k + 1,na,nc,_,_,_,by go_num,by omega,by omega,hk1,by omega,by omega,HE2,HS19,HK19⟩
            case measure => simp [intOf]; omega
      ·have d4 : (f4 == 7) = false := by simpa using h7
       have HI7 : Hid (f4 = 7 → ∀ (nm : ByteArray) (a : Nat) (w : World),Below w0.heap.size w0 w → Blk w ba #[.int .i64 (a : Int)] 3 → ba < w.heap.size → a ≤ 900 → Calls Tryz.prog 41 #[.agg #[.string sn,.slice ma mn mc,.slice ea en ec,.slice ta tn tc],.string nm,.slice la L lc,.pointer (some ⟨ba,0,none⟩),.int .i64 (deep + 1)] w (FitP (m + 1) s nm ba a w)) := fun h => absurd h h7
       clear h7
       by_cases hf3 : f3 = 3
       ·have d6 : (f3 == 3) = true := by simpa using hf3
        have HNX2 : Hid (Calls Tryz.prog 75 #[.slice la L lc,.pointer (some ⟨ba,0,none⟩)] w8 (NxP L ba a1 w8)) := lnext_any ls la lc L ba a1 w0 _ (HLO.out _ HK8.out) HCX.out.2.1 HCX.out.2.2.1 hL2 HS8.out.1.ab (by have := HA1.out; omega) HCX.out.2.2.2.1
        go_wp2_with fail
        refine Calls.mono HNX2.out ?_
        rintro ee w9 ⟨v2,a2,rfl,hv2,ha2,ha2', -, -,hB9,hK9⟩
        have HS9 : Hid (FtS (m + 1) b0 (b0 + 2) bm ba #[.string sn,.slice ma mn mc,.slice ea en ec,.slice ta tn tc] #[.string mnm,.slice fa fl fc,.slice ra rl rc] a2 (.slice va k vc) es rows bss w9 ∧ Apt b0 w9 (fpO b0 (b0 + 2) bm (.slice va k vc) bss ++ [bf]) ∧ Blk w9 bf #[.string f1,.int .i64 f2,.int .i64 f3,.int .i64 f4,.string f5] 58) := by
         obtain ⟨g1,g2,g3⟩ := HS8.out
         exact ⟨g1.at' (g2.of_count fun y => by simp only [List.count_append]; omega) hK9 hB9,g2.mono hK9.size,g3.kp hK9 (fun e => by have := (g2.2 bf (by simp)).1; have := g1.lt; omega)⟩
        have HK9 : Hid (Kp (fun q => q = ba) w w9) := HK8.out.trans hK9
        obtain ⟨Nn,hNn⟩ : ∃ z : Nat,(1 : Int) + (v2 : Int) % 3 = (z : Int) := ⟨1 + v2 % 3,by omega⟩
        have hN1 : 1 ≤ Nn := by omega
        have hN3 : Nn ≤ 3 := by omega
        have HNL : Hid (f3 ≠ 3 → Nn ≤ 1) := fun h => absurd hf3 h
        clear HNX2 hB9 hK9 HS8 HS8s HK8 hf3 hv2
        have al10 : Below w9.heap.size w9 (w9.alloc (Obj.cells #[.int .i64 (tg : Int),.slice none 0 0] 80)) := (Below.refl _ _).alloc (Nat.le_refl _) _
        obtain ⟨be,hbe⟩ : ∃ z,w9.heap.size = z := ⟨_,rfl⟩
        have HI0 : Hid (InS (m + 1) b0 (b0 + 2) bm ba be bf #[.string sn,.slice ma mn mc,.slice ea en ec,.slice ta tn tc] #[.string mnm,.slice fa fl fc,.slice ra rl rc] #[.string f1,.int .i64 f2,.int .i64 f3,.int .i64 f4,.string f5] (tg : Int) a2 (.slice va k vc) es rows bss (.slice none 0 0) [] [] [] (w9.alloc (Obj.cells #[.int .i64 (tg : Int),.slice none 0 0] 80))) := by
         obtain ⟨g1,g2,g3⟩ := HS9.out
         have h1 := g2.new (by have := (g2.2 b0 (by simp [fpO])); omega : b0 ≤ w9.heap.size) (w' := (w9.alloc (Obj.cells #[.int .i64 (tg : Int),.slice none 0 0] 80))) (by simp)
         rw [hbe] at h1
         exact InS.new (g1.below (g2.of_count fun y => by simp only [List.count_append]; omega) al10) (by rw [List.append_assoc] at h1; exact h1) (by rw [← hbe]; exact Blk.new w9 _ _) (g3.below al10)
        have HKI : Hid (Kp (fun q => q = ba) w (w9.alloc (Obj.cells #[.int .i64 (tg : Int),.slice none 0 0] 80))) := HK9.out.trans (Kp.ofBelow al10)
        clear al10
        go_wp2_with fail
        generalize (w9.alloc (Obj.cells #[.int .i64 (tg : Int),.slice none 0 0] 80)) = W10 at *
        try simp only [hbe]
        clear hbe y2 y3 d1 d2 d3
        go_loopw [19] (fun iv wz => ∃ (i a tl : Nat) (qa : Option Addr) (qc : Nat) (ts : List Tr) (rows' : List (List Value)) (bss' : List (List Nat)),iv = .int .i64 (i : Int) ∧ i ≤ Nn ∧ tl ≤ i ∧ a0 ≤ a ∧ a ≤ 155 + 2 * m + i ∧ Hid (ts.length = tl ∧ (∀ x ∈ ts,OneT (m + 1) s ⟨f1,f2,f3,f4,f5⟩ x ∧ (f3 = 1 → zroB x = false)) ∧ cntEs (m + 1) es + cntT (m + 1) ts + a0 ≤ a) ∧ Hid (InS (m + 1) b0 (b0 + 2) bm ba be bf #[.string sn,.slice ma mn mc,.slice ea en ec,.slice ta tn tc] #[.string mnm,.slice fa fl fc,.slice ra rl rc] #[.string f1,.int .i64 f2,.int .i64 f3,.int .i64 f4,.string f5] (tg : Int) a (.slice va k vc) es rows bss (.slice qa tl qc) ts rows' bss' wz) ∧ Hid (Kp (fun q => q = ba) w wz)) (fun iv _ => Nn - (intOf iv).toNat)
        case atStart => exact ⟨0,a2,0,none,0,[],[],[],rfl,by omega,by omega,by have := HA1.out; omega,by have := HA1.out; omega,(⟨rfl,by simp,by have := HE.out.2.2; have := HA1.out; simp [cntT]; omega⟩ : ([] : List Tr).length = 0 ∧ (∀ x ∈ ([] : List Tr),OneT (m + 1) s ⟨f1,f2,f3,f4,f5⟩ x ∧ (f3 = 1 → zroB x = false)) ∧ cntEs (m + 1) es + cntT (m + 1) [] + a0 ≤ a2),HI0,HKI⟩
        case round =>
         clear HI0 HKI
         obtain ⟨i,aj,tl,qa,qc,ts,rows',bss',rfl,hi,htl,haj,hajb,HTS,HI,HKJ⟩ := hrel
         by_cases hlt : i < Nn
         ·have HON : Hid (Calls Tryz.prog 76 #[.agg #[.string sn,.slice ma mn mc,.slice ea en ec,.slice ta tn tc],.agg #[.string f1,.int .i64 f2,.int .i64 f3,.int .i64 f4,.string f5],.slice la L lc,.pointer (some ⟨ba,0,none⟩),.int .i64 deep] wr (OneP (m + 1) s ⟨f1,f2,f3,f4,f5⟩ ba aj wr)) := one_step s sn ma ea ta mn mc en ec tn tc m ls la lc L ba w0 HCX.out.1 HCX.out.2.1 HCX.out.2.2.1 hL2 hLz HCX.out.2.2.2.1 deep ⟨f1,f2,f3,f4,f5⟩ HKD.out.1 HKD.out.2 HI7.out aj wr (HLO.out wr HKJ.out) HI.out.ft.ab (by omega) ⟨hd1,by omega⟩
          have s0 := (HI.out.ft.sb.cell 0).trans rfl
          have s1 := (HI.out.ft.sb.cell 1).trans rfl
          have s2 := (HI.out.ft.sb.cell 2).trans rfl
          have s3 := (HI.out.ft.sb.cell 3).trans rfl
          have l0 := (HI.out.fb.cell 0).trans rfl
          have l1 := (HI.out.fb.cell 1).trans rfl
          have l2 := (HI.out.fb.cell 2).trans rfl
          have l3 := (HI.out.fb.cell 3).trans rfl
          have l4 := (HI.out.fb.cell 4).trans rfl
          go_wp2_with fail
          refine Calls.mono HON.out ?_
          rintro ee w11 ⟨r,x,bs,a',rfl,hO,hA,hT,hc,hmx,hB',hK'⟩
          obtain ⟨x1,x2,x3,x4,x5,x6,hr⟩ := TrO.open hO
          subst hr
          obtain ⟨xk,hxk⟩ : ∃ z,x.kind = z := ⟨_,rfl⟩
          obtain ⟨xn,hxn⟩ : ∃ z,x.n = z := ⟨_,rfl⟩
          obtain ⟨xs,hxs⟩ : ∃ z,x.s = z := ⟨_,rfl⟩
          rw [hxk,hxn,hxs] at hO
          rw [hxk,hxn,hxs]
          have HXP : Hid (x.kind = xk ∧ x.n = xn ∧ x.s = xs) := ⟨hxk,hxn,hxs⟩
          have HXC : Hid (cntN (m + 1) x + aj ≤ a') := hc
          have hBz : b0 ≤ wr.heap.size := by have := (HI.out.ap.2 b0 (by simp [fpO])); omega
          have hI11 := HI.out.at' hK' hB'
          have hA11 : Apt b0 w11 ((fpO b0 (b0 + 2) bm (.slice va k vc) bss ++ ([bf,be] ++ allB (.slice qa tl qc) bss')) ++ bs) := HI.out.ap.append hA hBz (Nat.le_refl _) hK'.size
          have al12 : Below w11.heap.size w11 (w11.alloc (Obj.cells #[.int .i64 xk,.int .i64 xn,.string xs,.slice x1 x2 x3,.slice x4 x5 x6] 33)) := (Below.refl _ _).alloc (Nat.le_refl _) _
          have HST : Hid (InS (m + 1) b0 (b0 + 2) bm ba be bf #[.string sn,.slice ma mn mc,.slice ea en ec,.slice ta tn tc] #[.string mnm,.slice fa fl fc,.slice ra rl rc] #[.string f1,.int .i64 f2,.int .i64 f3,.int .i64 f4,.string f5] (tg : Int) a' (.slice va k vc) es rows bss (.slice qa tl qc) ts rows' bss' (w11.alloc (Obj.cells #[.int .i64 xk,.int .i64 xn,.string xs,.slice x1 x2 x3,.slice x4 x5 x6] 33)) ∧ TrO (m + 1) b0 (w11.alloc (Obj.cells #[.int .i64 xk,.int .i64 xn,.string xs,.slice x1 x2 x3,.slice x4 x5 x6] 33)) [.int .i64 xk,.int .i64 xn,.string xs,.slice x1 x2 x3,.slice x4 x5 x6] x bs ∧ Apt b0 (w11.alloc (Obj.cells #[.int .i64 xk,.int .i64 xn,.string xs,.slice x1 x2 x3,.slice x4 x5 x6] 33)) ((fpO b0 (b0 + 2) bm (.slice va k vc) bss ++ ([bf,be] ++ allB (.slice qa tl qc) bss')) ++ bs)) := ⟨hI11.below al12,(hO.base hBz).sm (Sm.below al12 fun q hq => (hA.2 q hq).2),hA11.mono al12.size⟩
          have HKX : Hid (Kp (fun q => q = ba) w (w11.alloc (Obj.cells #[.int .i64 xk,.int .i64 xn,.string xs,.slice x1 x2 x3,.slice x4 x5 x6] 33))) := (HKJ.out.trans hK').trans (Kp.ofBelow al12)
          have BX : Blk (w11.alloc (Obj.cells #[.int .i64 xk,.int .i64 xn,.string xs,.slice x1 x2 x3,.slice x4 x5 x6] 33)) w11.heap.size #[.int .i64 xk,.int .i64 xn,.string xs,.slice x1 x2 x3,.slice x4 x5 x6] 33 := Blk.new w11 _ _
          have HLEN : Hid (x.es.length = x2 ∧ x.rest.length = x5) := by
           have h1 : TrW (m + 1) w11 (.agg #[.int .i64 xk,.int .i64 xn,.string xs,.slice x1 x2 x3,.slice x4 x5 x6]) x := ⟨_,rfl,(hO).trR⟩
           exact ⟨h1.parts.2.2.2.1,h1.parts.2.2.2.2⟩
          have HTT : Hid (OneT (m + 1) s ⟨f1,f2,f3,f4,f5⟩ x) := hT
          have ha'1 : a0 ≤ a' := by omega
          have ha'2 : a' ≤ 155 + 2 * m + (i + 1) := by omega
          have m2 := ((HST.out.1.fb).cell 2).trans rfl
          clear HON hO hA hT hc hmx hB' hK' hxk hxn hxs hI11 hA11 al12 s0 s1 s2 s3 l0 l1 l2 l3 l4 HI HKJ hBz
          by_cases hf1 : f3 = 1
          ·have d7 : (f3 != 1) = false := by simpa using hf1
           have j0 := (BX.cell 0).trans rfl
           have j1 := (BX.cell 1).trans rfl
           have j2 := (BX.cell 2).trans rfl
           have j3 := (BX.cell 3).trans rfl
           have j4 := (BX.cell 4).trans rfl
           cases hZ : zroB x with
           | true =>
            have HZC : Hid (Calls Tryz.prog 77 #[.agg #[.int .i64 xk,.int .i64 xn,.string xs,.slice x1 x2 x3,.slice x4 x5 x6]] (w11.alloc (Obj.cells #[.int .i64 xk,.int .i64 xn,.string xs,.slice x1 x2 x3,.slice x4 x5 x6] 33)) fun e w' => e = .returned (.bool true) ∧ Below (w11.alloc (Obj.cells #[.int .i64 xk,.int .i64 xn,.string xs,.slice x1 x2 x3,.slice x4 x5 x6] 33)).heap.size (w11.alloc (Obj.cells #[.int .i64 xk,.int .i64 xn,.string xs,.slice x1 x2 x3,.slice x4 x5 x6] 33)) w') := (by
             have h1 := rzero_any x x1 x4 x2 x3 x5 x6 (w11.alloc (Obj.cells #[.int .i64 xk,.int .i64 xn,.string xs,.slice x1 x2 x3,.slice x4 x5 x6] 33)) HLEN.out.1.symm HLEN.out.2.symm
             rw [HXP.out.1,HXP.out.2.1,HXP.out.2.2,hZ] at h1
             exact h1 : Calls Tryz.prog _ _ _ _)
            clear hZ hf1
            go_wp2_with fail
            refine HZC.out.mono ?_
            rintro ee w13 ⟨rfl,hb13⟩
            have HI13 : Hid (InS (m + 1) b0 (b0 + 2) bm ba be bf #[.string sn,.slice ma mn mc,.slice ea en ec,.slice ta tn tc] #[.string mnm,.slice fa fl fc,.slice ra rl rc] #[.string f1,.int .i64 f2,.int .i64 f3,.int .i64 f4,.string f5] (tg : Int) a' (.slice va k vc) es rows bss (.slice qa tl qc) ts rows' bss' w13) := HST.out.1.below hb13
            have HK13 : Hid (Kp (fun q => q = ba) w w13) := HKX.out.trans (Kp.ofBelow hb13)
            have HTS2 : Hid (ts.length = tl ∧ (∀ x ∈ ts,OneT (m + 1) s ⟨f1,f2,f3,f4,f5⟩ x ∧ (f3 = 1 → zroB x = false)) ∧ cntEs (m + 1) es + cntT (m + 1) ts + a0 ≤ a') := ⟨HTS.out.1,HTS.out.2.1,by have := HTS.out.2.2; have := HXC.out; omega⟩
            clear HZC hb13 j0 j1 j2 j3 j4 HST HKX BX m2 HTS
            go_wp2_with fail
            clear d7
            go_roundw
            case rel => exact ⟨i + 1,a',tl,qa,qc,ts,rows',bss',by go_num,by omega,by omega,by omega,by omega,HTS2,HI13,HK13⟩
            case measure => simp [intOf]; omega
           | false =>
            have HXO : Hid (OneT (m + 1) s ⟨f1,f2,f3,f4,f5⟩ x ∧ (f3 = 1 → zroB x = false)) := ⟨HTT.out,fun _ => hZ⟩
            have HZC : Hid (Calls Tryz.prog 77 #[.agg #[.int .i64 xk,.int .i64 xn,.string xs,.slice x1 x2 x3,.slice x4 x5 x6]] (w11.alloc (Obj.cells #[.int .i64 xk,.int .i64 xn,.string xs,.slice x1 x2 x3,.slice x4 x5 x6] 33)) fun e w' => e = .returned (.bool false) ∧ Below (w11.alloc (Obj.cells #[.int .i64 xk,.int .i64 xn,.string xs,.slice x1 x2 x3,.slice x4 x5 x6] 33)).heap.size (w11.alloc (Obj.cells #[.int .i64 xk,.int .i64 xn,.string xs,.slice x1 x2 x3,.slice x4 x5 x6] 33)) w') := (by
             have h1 := rzero_any x x1 x4 x2 x3 x5 x6 (w11.alloc (Obj.cells #[.int .i64 xk,.int .i64 xn,.string xs,.slice x1 x2 x3,.slice x4 x5 x6] 33)) HLEN.out.1.symm HLEN.out.2.symm
             rw [HXP.out.1,HXP.out.2.1,HXP.out.2.2,hZ] at h1
             exact h1 : Calls Tryz.prog _ _ _ _)
            clear hZ hf1
            go_wp2_with fail
            refine HZC.out.mono ?_
            rintro ee w13 ⟨rfl,hb13⟩
            have HST0 := HST
            have HST : Hid (InS (m + 1) b0 (b0 + 2) bm ba be bf #[.string sn,.slice ma mn mc,.slice ea en ec,.slice ta tn tc] #[.string mnm,.slice fa fl fc,.slice ra rl rc] #[.string f1,.int .i64 f2,.int .i64 f3,.int .i64 f4,.string f5] (tg : Int) a' (.slice va k vc) es rows bss (.slice qa tl qc) ts rows' bss' w13 ∧ TrO (m + 1) b0 w13 [.int .i64 xk,.int .i64 xn,.string xs,.slice x1 x2 x3,.slice x4 x5 x6] x bs ∧ Apt b0 w13 ((fpO b0 (b0 + 2) bm (.slice va k vc) bss ++ ([bf,be] ++ allB (.slice qa tl qc) bss')) ++ bs)) := ⟨HST0.out.1.below hb13,HST0.out.2.1.sm (Sm.below hb13 fun q hq => (HST0.out.2.2.2 q (List.mem_append.2 (.inr hq))).2),HST0.out.2.2.mono hb13.size⟩
            have HKX0 := HKX
            have HKX : Hid (Kp (fun q => q = ba) w w13) := HKX0.out.trans (Kp.ofBelow hb13)
            have BX13 := BX.below hb13
            have i0 := (BX13.cell 0).trans rfl
            have i1 := (BX13.cell 1).trans rfl
            have i2 := (BX13.cell 2).trans rfl
            have i3 := (BX13.cell 3).trans rfl
            have i4 := (BX13.cell 4).trans rfl
            clear HZC hb13 j0 j1 j2 j3 j4 HST0 HKX0 BX BX13 m2
            have hal14 : Below w13.heap.size w13 (w13.alloc (Obj.cells #[.int .i64 xk,.int .i64 xn,.string xs,.slice x1 x2 x3,.slice x4 x5 x6] 33)) := (Below.refl _ _).alloc (Nat.le_refl _) _
            obtain ⟨hI14,hO14,hA14⟩ := HST.out
            have hI14' := hI14.below hal14
            obtain ⟨v',W15,r1,⟨na,nc,hv'⟩,BE15,KP,hI16⟩ := hI14'.pushT (r := [.int .i64 xk,.int .i64 xn,.string xs,.slice x1 x2 x3,.slice x4 x5 x6]) (x := x) (bs := bs) (bz := w13.heap.size) (hO14.sm (Sm.below hal14 fun q hq => (hA14.2 q (List.mem_append.2 (.inr hq))).2)) rfl (fun u hu => by
             simp only [List.mem_cons,List.not_mem_nil,or_false] at hu
             rcases hu with rfl | rfl | rfl | rfl | rfl <;> rfl) (hA14.mono hal14.size) (Blk.new w13 _ _) (by have := HTS.out.1; omega)
            rw [HTS.out.1] at hv'
            subst hv'
            have HRUN : Hid ((Builtin.append_ #[78,78] 78 #[.slice qa tl qc,.slice (some ⟨w13.heap.size,0,none⟩) 1 1]).run Tryz.prog (w13.alloc (Obj.cells #[.int .i64 xk,.int .i64 xn,.string xs,.slice x1 x2 x3,.slice x4 x5 x6] 33)) = .ok (.slice na (tl + 1) nc) W15) := r1
            have HI16 : Hid (InS (m + 1) b0 (b0 + 2) bm ba be bf #[.string sn,.slice ma mn mc,.slice ea en ec,.slice ta tn tc] #[.string mnm,.slice fa fl fc,.slice ra rl rc] #[.string f1,.int .i64 f2,.int .i64 f3,.int .i64 f4,.string f5] (tg : Int) a' (.slice va k vc) es rows bss (.slice na (tl + 1) nc) (ts ++ [x]) (rows' ++ [[.int .i64 xk,.int .i64 xn,.string xs,.slice x1 x2 x3,.slice x4 x5 x6]]) (bss' ++ [bs]) (W15.setCell ⟨be,1,none⟩ (.slice na (tl + 1) nc))) := hI16
            have HK16 : Hid (Kp (fun q => q = ba) w (W15.setCell ⟨be,1,none⟩ (.slice na (tl + 1) nc))) := (HKX.out.trans (Kp.ofBelow hal14)).trans2 KP (fun i hi e => by have := HBZ.out; omega)
            have e1 := (hI14.eb.cell 1).trans rfl
            have s1 := (BE15.cell 1).trans rfl
            have s2 := BE15.froz 1
            have HTS2 : Hid ((ts ++ [x]).length = tl + 1 ∧ (∀ y ∈ ts ++ [x],OneT (m + 1) s ⟨f1,f2,f3,f4,f5⟩ y ∧ (f3 = 1 → zroB y = false)) ∧ cntEs (m + 1) es + cntT (m + 1) (ts ++ [x]) + a0 ≤ a') := ⟨by simp [HTS.out.1],fun y hy => by
             rcases List.mem_append.1 hy with hy | hy
             ·exact HTS.out.2.1 y hy
             ·obtain rfl : y = x := by simpa using hy
              exact HXO.out,by rw [cntT_snoc]; have := HTS.out.2.2; have := HXC.out; omega⟩
            clear hal14 hI14 hO14 hA14 hI14' r1 BE15 KP hI16
            go_wp2_with (first | (at_builtin; refine wpList_ran rfl (append_run rfl rfl rfl HRUN.out) ?_) | fail)
            clear HRUN e1 s1 s2
            go_wp2_with fail
            go_roundw
            case rel => exact ⟨i + 1,a',tl + 1,na,nc,ts ++ [x],_,_,by go_num,by omega,by omega,by omega,by omega,HTS2,HI16,HK16⟩
            case measure => simp [intOf]; omega
          ·have d7 : (f3 != 1) = true := by simpa using hf1
           have HXO : Hid (OneT (m + 1) s ⟨f1,f2,f3,f4,f5⟩ x ∧ (f3 = 1 → zroB x = false)) := ⟨HTT.out,fun h => absurd h hf1⟩
           have i0 := (BX.cell 0).trans rfl
           have i1 := (BX.cell 1).trans rfl
           have i2 := (BX.cell 2).trans rfl
           have i3 := (BX.cell 3).trans rfl
           have i4 := (BX.cell 4).trans rfl
           clear hf1 BX
           have hal14 : Below (w11.alloc (Obj.cells #[.int .i64 xk,.int .i64 xn,.string xs,.slice x1 x2 x3,.slice x4 x5 x6] 33)).heap.size (w11.alloc (Obj.cells #[.int .i64 xk,.int .i64 xn,.string xs,.slice x1 x2 x3,.slice x4 x5 x6] 33)) ((w11.alloc (Obj.cells #[.int .i64 xk,.int .i64 xn,.string xs,.slice x1 x2 x3,.slice x4 x5 x6] 33)).alloc (Obj.cells #[.int .i64 xk,.int .i64 xn,.string xs,.slice x1 x2 x3,.slice x4 x5 x6] 33)) := (Below.refl _ _).alloc (Nat.le_refl _) _
           obtain ⟨hI14,hO14,hA14⟩ := HST.out
           have hI14' := hI14.below hal14
           obtain ⟨v',W15,r1,⟨na,nc,hv'⟩,BE15,KP,hI16⟩ := hI14'.pushT (r := [.int .i64 xk,.int .i64 xn,.string xs,.slice x1 x2 x3,.slice x4 x5 x6]) (x := x) (bs := bs) (bz := w11.heap.size + 1) (hO14.sm (Sm.below hal14 fun q hq => (hA14.2 q (List.mem_append.2 (.inr hq))).2)) rfl (fun u hu => by
            simp only [List.mem_cons,List.not_mem_nil,or_false] at hu
            rcases hu with rfl | rfl | rfl | rfl | rfl <;> rfl) (hA14.mono hal14.size) (by have := Blk.new (w11.alloc (Obj.cells #[.int .i64 xk,.int .i64 xn,.string xs,.slice x1 x2 x3,.slice x4 x5 x6] 33)) #[.int .i64 xk,.int .i64 xn,.string xs,.slice x1 x2 x3,.slice x4 x5 x6] 33; rwa [show (w11.alloc (Obj.cells #[.int .i64 xk,.int .i64 xn,.string xs,.slice x1 x2 x3,.slice x4 x5 x6] 33)).heap.size = w11.heap.size + 1 from by simp] at this) (by have := HTS.out.1; omega)
           rw [HTS.out.1] at hv'
           subst hv'
           have HRUN : Hid ((Builtin.append_ #[78,78] 78 #[.slice qa tl qc,.slice (some ⟨w11.heap.size + 1,0,none⟩) 1 1]).run Tryz.prog ((w11.alloc (Obj.cells #[.int .i64 xk,.int .i64 xn,.string xs,.slice x1 x2 x3,.slice x4 x5 x6] 33)).alloc (Obj.cells #[.int .i64 xk,.int .i64 xn,.string xs,.slice x1 x2 x3,.slice x4 x5 x6] 33)) = .ok (.slice na (tl + 1) nc) W15) := r1
           have HI16 : Hid (InS (m + 1) b0 (b0 + 2) bm ba be bf #[.string sn,.slice ma mn mc,.slice ea en ec,.slice ta tn tc] #[.string mnm,.slice fa fl fc,.slice ra rl rc] #[.string f1,.int .i64 f2,.int .i64 f3,.int .i64 f4,.string f5] (tg : Int) a' (.slice va k vc) es rows bss (.slice na (tl + 1) nc) (ts ++ [x]) (rows' ++ [[.int .i64 xk,.int .i64 xn,.string xs,.slice x1 x2 x3,.slice x4 x5 x6]]) (bss' ++ [bs]) (W15.setCell ⟨be,1,none⟩ (.slice na (tl + 1) nc))) := hI16
           have HK16 : Hid (Kp (fun q => q = ba) w (W15.setCell ⟨be,1,none⟩ (.slice na (tl + 1) nc))) := (HKX.out.trans (Kp.ofBelow hal14)).trans2 KP (fun i hi e => by have := HBZ.out; omega)
           have e1 := (hI14.eb.cell 1).trans rfl
           have s1 := (BE15.cell 1).trans rfl
           have s2 := BE15.froz 1
           have HTS2 : Hid ((ts ++ [x]).length = tl + 1 ∧ (∀ y ∈ ts ++ [x],OneT (m + 1) s ⟨f1,f2,f3,f4,f5⟩ y ∧ (f3 = 1 → zroB y = false)) ∧ cntEs (m + 1) es + cntT (m + 1) (ts ++ [x]) + a0 ≤ a') := ⟨by simp [HTS.out.1],fun y hy => by
            rcases List.mem_append.1 hy with hy | hy
            ·exact HTS.out.2.1 y hy
            ·obtain rfl : y = x := by simpa using hy
             exact HXO.out,by rw [cntT_snoc]; have := HTS.out.2.2; have := HXC.out; omega⟩
           clear hal14 hI14 hO14 hA14 hI14' r1 BE15 KP hI16
           go_wp2_with (first | (at_builtin; refine wpList_ran rfl (append_run rfl rfl rfl HRUN.out) ?_) | fail)
           clear HRUN e1 s1 s2
           go_wp2_with fail
           go_roundw
           case rel => exact ⟨i + 1,a',tl + 1,na,nc,ts ++ [x],_,_,by go_num,by omega,by omega,by omega,by omega,HTS2,HI16,HK16⟩
           case measure => simp [intOf]; omega
         ·have e0 := (HI.out.eb.cell 0).trans rfl
          have e1 := (HI.out.eb.cell 1).trans rfl
          by_cases htl0 : tl = 0
          ·have d8 : decide (0 < tl) = false := by simp; omega
           have HSE : Hid (FtS (m + 1) b0 (b0 + 2) bm ba #[.string sn,.slice ma mn mc,.slice ea en ec,.slice ta tn tc] #[.string mnm,.slice fa fl fc,.slice ra rl rc] aj (.slice va k vc) es rows bss wr ∧ Apt b0 wr (fpO b0 (b0 + 2) bm (.slice va k vc) bss)) := ⟨HI.out.ft,HI.out.ap.of_count fun y => by simp only [List.count_append]; omega⟩
           have hcj : cntEs (m + 1) es + a0 ≤ aj := by have := HTS.out.2.2; omega
           have HCJ : Hid (cntEs (m + 1) es + a0 ≤ aj) := hcj
           clear hcj htl0
           go_wp2_with fail
           clear e0 e1 d8
           go_roundw
           case rel => exact ⟨tg + 1,aj,k,va,vc,es,rows,bss,by go_num,by omega,by omega,hk40,by omega,by omega,(⟨HE.out.1,HE.out.2.1.skip,HCJ.out⟩ : es.length = k ∧ EsT (m + 1) s fs es ((tg : Int) + 1) ∧ cntEs (m + 1) es + a0 ≤ aj),HSE,HKJ⟩
           case measure => simp [intOf]; omega
          ·have d8 : decide (0 < tl) = true := by simp; omega
           have hal17 : Below wr.heap.size wr (wr.alloc (Obj.cells #[.int .i64 (tg : Int),.slice qa tl qc] 80)) := (Below.refl _ _).alloc (Nat.le_refl _) _
           obtain ⟨v',W18,r1,⟨na,nc,hv'⟩,BT18,KP,hF19,hA19⟩ := (HI.out.below hal17).pushE (bz := wr.heap.size) ⟨by omega,by omega⟩ (Blk.new wr _ _) (by have := HE.out.1; omega) rfl
           rw [HE.out.1] at hv'
           subst hv'
           have HRUN : Hid ((Builtin.append_ #[30,30] 30 #[(.slice va k vc),.slice (some ⟨wr.heap.size,0,none⟩) 1 1]).run Tryz.prog (wr.alloc (Obj.cells #[.int .i64 (tg : Int),.slice qa tl qc] 80)) = .ok (.slice na (k + 1) nc) W18) := r1
           have HS19 : Hid (FtS (m + 1) b0 (b0 + 2) bm ba #[.string sn,.slice ma mn mc,.slice ea en ec,.slice ta tn tc] #[.string mnm,.slice fa fl fc,.slice ra rl rc] aj (.slice na (k + 1) nc) (es ++ [((tg : Int),ts)]) (rows ++ [[.int .i64 (tg : Int),.slice qa tl qc]]) (bss ++ [allB (.slice qa tl qc) bss']) (W18.setCell ⟨b0 + 2,3,none⟩ (.slice na (k + 1) nc)) ∧ Apt b0 (W18.setCell ⟨b0 + 2,3,none⟩ (.slice na (k + 1) nc)) (fpO b0 (b0 + 2) bm (.slice na (k + 1) nc) (bss ++ [allB (.slice qa tl qc) bss']))) := ⟨hF19,hA19⟩
           have HK19 : Hid (Kp (fun q => q = ba) w (W18.setCell ⟨b0 + 2,3,none⟩ (.slice na (k + 1) nc))) := (HKJ.out.trans (Kp.ofBelow hal17)).trans2 KP (fun i hi e => by have := HBZ.out; omega)
           have HE2 : Hid ((es ++ [((tg : Int),ts)]).length = k + 1 ∧ EsT (m + 1) s fs (es ++ [((tg : Int),ts)]) ((tg : Int) + 1) ∧ cntEs (m + 1) (es ++ [((tg : Int),ts)]) + a0 ≤ aj) := ⟨by simp [HE.out.1],HE.out.2.1.push (by omega) (by omega) HFO.out rfl (by have := HTS.out.1; omega) (by have := HTS.out.1; omega) (fun h => by have := HNL.out h; have := HTS.out.1; omega) HTS.out.2.1,by rw [cntEs_snoc]; exact HTS.out.2.2⟩
           have hk1 : k + 1 ≤ 40 := by
            have h1 := HE2.out.2.1.len
            have h2 := List.length_filter_le (fun f : FlS => decide (f.tag < (tg : Int) + 1)) fs
            have h3 := HFL.out.1
            have h4 := HE2.out.1
            omega
           have t3 := (HI.out.ft.tb.cell 3).trans rfl
           have s1 := (BT18.cell 3).trans rfl
           have s2 := BT18.froz 3
           clear hal17 r1 BT18 KP hF19 hA19 htl0
           go_wp2_with (first | (at_builtin; refine wpList_ran rfl (append_run rfl rfl rfl HRUN.out) ?_) | fail)
           clear HRUN e0 e1 t3 s1 s2
           go_wp2_with fail
           clear d8
           go_roundw
           case rel => exact ⟨tg + 1,aj,k + 1,na,nc,_,_,_,by go_num,by omega,by omega,hk1,by omega,by omega,HE2,HS19,HK19⟩
           case measure => simp [intOf]; omega
       ·have d6 : (f3 == 3) = false := by simpa using hf3
        have HNL : Hid (f3 ≠ 3 → 1 ≤ 1) := fun _ => by omega
        clear hf3 HS8s
        have al10 : Below w8.heap.size w8 (w8.alloc (Obj.cells #[.int .i64 (tg : Int),.slice none 0 0] 80)) := (Below.refl _ _).alloc (Nat.le_refl _) _
        obtain ⟨be,hbe⟩ : ∃ z,w8.heap.size = z := ⟨_,rfl⟩
        have HI0 : Hid (InS (m + 1) b0 (b0 + 2) bm ba be bf #[.string sn,.slice ma mn mc,.slice ea en ec,.slice ta tn tc] #[.string mnm,.slice fa fl fc,.slice ra rl rc] #[.string f1,.int .i64 f2,.int .i64 f3,.int .i64 f4,.string f5] (tg : Int) a1 (.slice va k vc) es rows bss (.slice none 0 0) [] [] [] (w8.alloc (Obj.cells #[.int .i64 (tg : Int),.slice none 0 0] 80))) := by
         obtain ⟨g1,g2,g3⟩ := HS8.out
         have h1 := g2.new (by have := (g2.2 b0 (by simp [fpO])); omega : b0 ≤ w8.heap.size) (w' := (w8.alloc (Obj.cells #[.int .i64 (tg : Int),.slice none 0 0] 80))) (by simp)
         rw [hbe] at h1
         exact InS.new (g1.below (g2.of_count fun y => by simp only [List.count_append]; omega) al10) (by rw [List.append_assoc] at h1; exact h1) (by rw [← hbe]; exact Blk.new w8 _ _) (g3.below al10)
        have HKI : Hid (Kp (fun q => q = ba) w (w8.alloc (Obj.cells #[.int .i64 (tg : Int),.slice none 0 0] 80))) := HK8.out.trans (Kp.ofBelow al10)
        clear al10
        go_wp2_with fail
        generalize (w8.alloc (Obj.cells #[.int .i64 (tg : Int),.slice none 0 0] 80)) = W10 at *
        try simp only [hbe]
        clear hbe y2 y3 d1 d2 d3
        go_loopw [19] (fun iv wz => ∃ (i a tl : Nat) (qa : Option Addr) (qc : Nat) (ts : List Tr) (rows' : List (List Value)) (bss' : List (List Nat)),iv = .int .i64 (i : Int) ∧ i ≤ 1 ∧ tl ≤ i ∧ a0 ≤ a ∧ a ≤ 155 + 2 * m + i ∧ Hid (ts.length = tl ∧ (∀ x ∈ ts,OneT (m + 1) s ⟨f1,f2,f3,f4,f5⟩ x ∧ (f3 = 1 → zroB x = false)) ∧ cntEs (m + 1) es + cntT (m + 1) ts + a0 ≤ a) ∧ Hid (InS (m + 1) b0 (b0 + 2) bm ba be bf #[.string sn,.slice ma mn mc,.slice ea en ec,.slice ta tn tc] #[.string mnm,.slice fa fl fc,.slice ra rl rc] #[.string f1,.int .i64 f2,.int .i64 f3,.int .i64 f4,.string f5] (tg : Int) a (.slice va k vc) es rows bss (.slice qa tl qc) ts rows' bss' wz) ∧ Hid (Kp (fun q => q = ba) w wz)) (fun iv _ => 1 - (intOf iv).toNat)
        case atStart => exact ⟨0,a1,0,none,0,[],[],[],rfl,by omega,by omega,by have := HA1.out; omega,by have := HA1.out; omega,(⟨rfl,by simp,by have := HE.out.2.2; have := HA1.out; simp [cntT]; omega⟩ : ([] : List Tr).length = 0 ∧ (∀ x ∈ ([] : List Tr),OneT (m + 1) s ⟨f1,f2,f3,f4,f5⟩ x ∧ (f3 = 1 → zroB x = false)) ∧ cntEs (m + 1) es + cntT (m + 1) [] + a0 ≤ a1),HI0,HKI⟩
        case round =>
         clear HI0 HKI
         obtain ⟨i,aj,tl,qa,qc,ts,rows',bss',rfl,hi,htl,haj,hajb,HTS,HI,HKJ⟩ := hrel
         by_cases hlt : i < 1
         ·have HON : Hid (Calls Tryz.prog 76 #[.agg #[.string sn,.slice ma mn mc,.slice ea en ec,.slice ta tn tc],.agg #[.string f1,.int .i64 f2,.int .i64 f3,.int .i64 f4,.string f5],.slice la L lc,.pointer (some ⟨ba,0,none⟩),.int .i64 deep] wr (OneP (m + 1) s ⟨f1,f2,f3,f4,f5⟩ ba aj wr)) := one_step s sn ma ea ta mn mc en ec tn tc m ls la lc L ba w0 HCX.out.1 HCX.out.2.1 HCX.out.2.2.1 hL2 hLz HCX.out.2.2.2.1 deep ⟨f1,f2,f3,f4,f5⟩ HKD.out.1 HKD.out.2 HI7.out aj wr (HLO.out wr HKJ.out) HI.out.ft.ab (by omega) ⟨hd1,by omega⟩
          have s0 := (HI.out.ft.sb.cell 0).trans rfl
          have s1 := (HI.out.ft.sb.cell 1).trans rfl
          have s2 := (HI.out.ft.sb.cell 2).trans rfl
          have s3 := (HI.out.ft.sb.cell 3).trans rfl
          have l0 := (HI.out.fb.cell 0).trans rfl
          have l1 := (HI.out.fb.cell 1).trans rfl
          have l2 := (HI.out.fb.cell 2).trans rfl
          have l3 := (HI.out.fb.cell 3).trans rfl
          have l4 := (HI.out.fb.cell 4).trans rfl
          go_wp2_with fail
          refine Calls.mono HON.out ?_
          rintro ee w11 ⟨r,x,bs,a',rfl,hO,hA,hT,hc,hmx,hB',hK'⟩
          obtain ⟨x1,x2,x3,x4,x5,x6,hr⟩ := TrO.open hO
          subst hr
          obtain ⟨xk,hxk⟩ : ∃ z,x.kind = z := ⟨_,rfl⟩
          obtain ⟨xn,hxn⟩ : ∃ z,x.n = z := ⟨_,rfl⟩
          obtain ⟨xs,hxs⟩ : ∃ z,x.s = z := ⟨_,rfl⟩
          rw [hxk,hxn,hxs] at hO
          rw [hxk,hxn,hxs]
          have HXP : Hid (x.kind = xk ∧ x.n = xn ∧ x.s = xs) := ⟨hxk,hxn,hxs⟩
          have HXC : Hid (cntN (m + 1) x + aj ≤ a') := hc
          have hBz : b0 ≤ wr.heap.size := by have := (HI.out.ap.2 b0 (by simp [fpO])); omega
          have hI11 := HI.out.at' hK' hB'
          have hA11 : Apt b0 w11 ((fpO b0 (b0 + 2) bm (.slice va k vc) bss ++ ([bf,be] ++ allB (.slice qa tl qc) bss')) ++ bs) := HI.out.ap.append hA hBz (Nat.le_refl _) hK'.size
          have al12 : Below w11.heap.size w11 (w11.alloc (Obj.cells #[.int .i64 xk,.int .i64 xn,.string xs,.slice x1 x2 x3,.slice x4 x5 x6] 33)) := (Below.refl _ _).alloc (Nat.le_refl _) _
          have HST : Hid (InS (m + 1) b0 (b0 + 2) bm ba be bf #[.string sn,.slice ma mn mc,.slice ea en ec,.slice ta tn tc] #[.string mnm,.slice fa fl fc,.slice ra rl rc] #[.string f1,.int .i64 f2,.int .i64 f3,.int .i64 f4,.string f5] (tg : Int) a' (.slice va k vc) es rows bss (.slice qa tl qc) ts rows' bss' (w11.alloc (Obj.cells #[.int .i64 xk,.int .i64 xn,.string xs,.slice x1 x2 x3,.slice x4 x5 x6] 33)) ∧ TrO (m + 1) b0 (w11.alloc (Obj.cells #[.int .i64 xk,.int .i64 xn,.string xs,.slice x1 x2 x3,.slice x4 x5 x6] 33)) [.int .i64 xk,.int .i64 xn,.string xs,.slice x1 x2 x3,.slice x4 x5 x6] x bs ∧ Apt b0 (w11.alloc (Obj.cells #[.int .i64 xk,.int .i64 xn,.string xs,.slice x1 x2 x3,.slice x4 x5 x6] 33)) ((fpO b0 (b0 + 2) bm (.slice va k vc) bss ++ ([bf,be] ++ allB (.slice qa tl qc) bss')) ++ bs)) := ⟨hI11.below al12,(hO.base hBz).sm (Sm.below al12 fun q hq => (hA.2 q hq).2),hA11.mono al12.size⟩
          have HKX : Hid (Kp (fun q => q = ba) w (w11.alloc (Obj.cells #[.int .i64 xk,.int .i64 xn,.string xs,.slice x1 x2 x3,.slice x4 x5 x6] 33))) := (HKJ.out.trans hK').trans (Kp.ofBelow al12)
          have BX : Blk (w11.alloc (Obj.cells #[.int .i64 xk,.int .i64 xn,.string xs,.slice x1 x2 x3,.slice x4 x5 x6] 33)) w11.heap.size #[.int .i64 xk,.int .i64 xn,.string xs,.slice x1 x2 x3,.slice x4 x5 x6] 33 := Blk.new w11 _ _
          have HLEN : Hid (x.es.length = x2 ∧ x.rest.length = x5) := by
           have h1 : TrW (m + 1) w11 (.agg #[.int .i64 xk,.int .i64 xn,.string xs,.slice x1 x2 x3,.slice x4 x5 x6]) x := ⟨_,rfl,(hO).trR⟩
           exact ⟨h1.parts.2.2.2.1,h1.parts.2.2.2.2⟩
          have HTT : Hid (OneT (m + 1) s ⟨f1,f2,f3,f4,f5⟩ x) := hT
          have ha'1 : a0 ≤ a' := by omega
          have ha'2 : a' ≤ 155 + 2 * m + (i + 1) := by omega
          have m2 := ((HST.out.1.fb).cell 2).trans rfl
          clear HON hO hA hT hc hmx hB' hK' hxk hxn hxs hI11 hA11 al12 s0 s1 s2 s3 l0 l1 l2 l3 l4 HI HKJ hBz
          by_cases hf1 : f3 = 1
          ·have d7 : (f3 != 1) = false := by simpa using hf1
           have j0 := (BX.cell 0).trans rfl
           have j1 := (BX.cell 1).trans rfl
           have j2 := (BX.cell 2).trans rfl
           have j3 := (BX.cell 3).trans rfl
           have j4 := (BX.cell 4).trans rfl
           cases hZ : zroB x with
           | true =>
            have HZC : Hid (Calls Tryz.prog 77 #[.agg #[.int .i64 xk,.int .i64 xn,.string xs,.slice x1 x2 x3,.slice x4 x5 x6]] (w11.alloc (Obj.cells #[.int .i64 xk,.int .i64 xn,.string xs,.slice x1 x2 x3,.slice x4 x5 x6] 33)) fun e w' => e = .returned (.bool true) ∧ Below (w11.alloc (Obj.cells #[.int .i64 xk,.int .i64 xn,.string xs,.slice x1 x2 x3,.slice x4 x5 x6] 33)).heap.size (w11.alloc (Obj.cells #[.int .i64 xk,.int .i64 xn,.string xs,.slice x1 x2 x3,.slice x4 x5 x6] 33)) w') := (by
             have h1 := rzero_any x x1 x4 x2 x3 x5 x6 (w11.alloc (Obj.cells #[.int .i64 xk,.int .i64 xn,.string xs,.slice x1 x2 x3,.slice x4 x5 x6] 33)) HLEN.out.1.symm HLEN.out.2.symm
             rw [HXP.out.1,HXP.out.2.1,HXP.out.2.2,hZ] at h1
             exact h1 : Calls Tryz.prog _ _ _ _)
            clear hZ hf1
            go_wp2_with fail
            refine HZC.out.mono ?_
            rintro ee w13 ⟨rfl,hb13⟩
            have HI13 : Hid (InS (m + 1) b0 (b0 + 2) bm ba be bf #[.string sn,.slice ma mn mc,.slice ea en ec,.slice ta tn tc] #[.string mnm,.slice fa fl fc,.slice ra rl rc] #[.string f1,.int .i64 f2,.int .i64 f3,.int .i64 f4,.string f5] (tg : Int) a' (.slice va k vc) es rows bss (.slice qa tl qc) ts rows' bss' w13) := HST.out.1.below hb13
            have HK13 : Hid (Kp (fun q => q = ba) w w13) := HKX.out.trans (Kp.ofBelow hb13)
            have HTS2 : Hid (ts.length = tl ∧ (∀ x ∈ ts,OneT (m + 1) s ⟨f1,f2,f3,f4,f5⟩ x ∧ (f3 = 1 → zroB x = false)) ∧ cntEs (m + 1) es + cntT (m + 1) ts + a0 ≤ a') := ⟨HTS.out.1,HTS.out.2.1,by have := HTS.out.2.2; have := HXC.out; omega⟩
            clear HZC hb13 j0 j1 j2 j3 j4 HST HKX BX m2 HTS
            go_wp2_with fail
            clear d7
            go_roundw
            case rel => exact ⟨i + 1,a',tl,qa,qc,ts,rows',bss',by go_num,by omega,by omega,by omega,by omega,HTS2,HI13,HK13⟩
            case measure => simp [intOf]; omega
           | false =>
            have HXO : Hid (OneT (m + 1) s ⟨f1,f2,f3,f4,f5⟩ x ∧ (f3 = 1 → zroB x = false)) := ⟨HTT.out,fun _ => hZ⟩
            have HZC : Hid (Calls Tryz.prog 77 #[.agg #[.int .i64 xk,.int .i64 xn,.string xs,.slice x1 x2 x3,.slice x4 x5 x6]] (w11.alloc (Obj.cells #[.int .i64 xk,.int .i64 xn,.string xs,.slice x1 x2 x3,.slice x4 x5 x6] 33)) fun e w' => e = .returned (.bool false) ∧ Below (w11.alloc (Obj.cells #[.int .i64 xk,.int .i64 xn,.string xs,.slice x1 x2 x3,.slice x4 x5 x6] 33)).heap.size (w11.alloc (Obj.cells #[.int .i64 xk,.int .i64 xn,.string xs,.slice x1 x2 x3,.slice x4 x5 x6] 33)) w') := (by
             have h1 := rzero_any x x1 x4 x2 x3 x5 x6 (w11.alloc (Obj.cells #[.int .i64 xk,.int .i64 xn,.string xs,.slice x1 x2 x3,.slice x4 x5 x6] 33)) HLEN.out.1.symm HLEN.out.2.symm
             rw [HXP.out.1,HXP.out.2.1,HXP.out.2.2,hZ] at h1
             exact h1 : Calls Tryz.prog _ _ _ _)
            clear hZ hf1
            go_wp2_with fail
            refine HZC.out.mono ?_
            rintro ee w13 ⟨rfl,hb13⟩
            have HST0 := HST
            have HST : Hid (InS (m + 1) b0 (b0 + 2) bm ba be bf #[.string sn,.slice ma mn mc,.slice ea en ec,.slice ta tn tc] #[.string mnm,.slice fa fl fc,.slice ra rl rc] #[.string f1,.int .i64 f2,.int .i64 f3,.int .i64 f4,.string f5] (tg : Int) a' (.slice va k vc) es rows bss (.slice qa tl qc) ts rows' bss' w13 ∧ TrO (m + 1) b0 w13 [.int .i64 xk,.int .i64 xn,.string xs,.slice x1 x2 x3,.slice x4 x5 x6] x bs ∧ Apt b0 w13 ((fpO b0 (b0 + 2) bm (.slice va k vc) bss ++ ([bf,be] ++ allB (.slice qa tl qc) bss')) ++ bs)) := ⟨HST0.out.1.below hb13,HST0.out.2.1.sm (Sm.below hb13 fun q hq => (HST0.out.2.2.2 q (List.mem_append.2 (.inr hq))).2),HST0.out.2.2.mono hb13.size⟩
            have HKX0 := HKX
            have HKX : Hid (Kp (fun q => q = ba) w w13) := HKX0.out.trans (Kp.ofBelow hb13)
            have BX13 := BX.below hb13
            have i0 := (BX13.cell 0).trans rfl
            have i1 := (BX13.cell 1).trans rfl
            have i2 := (BX13.cell 2).trans rfl
            have i3 := (BX13.cell 3).trans rfl
            have i4 := (BX13.cell 4).trans rfl
            clear HZC hb13 j0 j1 j2 j3 j4 HST0 HKX0 BX BX13 m2
            have hal14 : Below w13.heap.size w13 (w13.alloc (Obj.cells #[.int .i64 xk,.int .i64 xn,.string xs,.slice x1 x2 x3,.slice x4 x5 x6] 33)) := (Below.refl _ _).alloc (Nat.le_refl _) _
            obtain ⟨hI14,hO14,hA14⟩ := HST.out
            have hI14' := hI14.below hal14
            obtain ⟨v',W15,r1,⟨na,nc,hv'⟩,BE15,KP,hI16⟩ := hI14'.pushT (r := [.int .i64 xk,.int .i64 xn,.string xs,.slice x1 x2 x3,.slice x4 x5 x6]) (x := x) (bs := bs) (bz := w13.heap.size) (hO14.sm (Sm.below hal14 fun q hq => (hA14.2 q (List.mem_append.2 (.inr hq))).2)) rfl (fun u hu => by
             simp only [List.mem_cons,List.not_mem_nil,or_false] at hu
             rcases hu with rfl | rfl | rfl | rfl | rfl <;> rfl) (hA14.mono hal14.size) (Blk.new w13 _ _) (by have := HTS.out.1; omega)
            rw [HTS.out.1] at hv'
            subst hv'
            have HRUN : Hid ((Builtin.append_ #[78,78] 78 #[.slice qa tl qc,.slice (some ⟨w13.heap.size,0,none⟩) 1 1]).run Tryz.prog (w13.alloc (Obj.cells #[.int .i64 xk,.int .i64 xn,.string xs,.slice x1 x2 x3,.slice x4 x5 x6] 33)) = .ok (.slice na (tl + 1) nc) W15) := r1
            have HI16 : Hid (InS (m + 1) b0 (b0 + 2) bm ba be bf #[.string sn,.slice ma mn mc,.slice ea en ec,.slice ta tn tc] #[.string mnm,.slice fa fl fc,.slice ra rl rc] #[.string f1,.int .i64 f2,.int .i64 f3,.int .i64 f4,.string f5] (tg : Int) a' (.slice va k vc) es rows bss (.slice na (tl + 1) nc) (ts ++ [x]) (rows' ++ [[.int .i64 xk,.int .i64 xn,.string xs,.slice x1 x2 x3,.slice x4 x5 x6]]) (bss' ++ [bs]) (W15.setCell ⟨be,1,none⟩ (.slice na (tl + 1) nc))) := hI16
            have HK16 : Hid (Kp (fun q => q = ba) w (W15.setCell ⟨be,1,none⟩ (.slice na (tl + 1) nc))) := (HKX.out.trans (Kp.ofBelow hal14)).trans2 KP (fun i hi e => by have := HBZ.out; omega)
            have e1 := (hI14.eb.cell 1).trans rfl
            have s1 := (BE15.cell 1).trans rfl
            have s2 := BE15.froz 1
            have HTS2 : Hid ((ts ++ [x]).length = tl + 1 ∧ (∀ y ∈ ts ++ [x],OneT (m + 1) s ⟨f1,f2,f3,f4,f5⟩ y ∧ (f3 = 1 → zroB y = false)) ∧ cntEs (m + 1) es + cntT (m + 1) (ts ++ [x]) + a0 ≤ a') := ⟨by simp [HTS.out.1],fun y hy => by
             rcases List.mem_append.1 hy with hy | hy
             ·exact HTS.out.2.1 y hy
             ·obtain rfl : y = x := by simpa using hy
              exact HXO.out,by rw [cntT_snoc]; have := HTS.out.2.2; have := HXC.out; omega⟩
            clear hal14 hI14 hO14 hA14 hI14' r1 BE15 KP hI16
            go_wp2_with (first | (at_builtin; refine wpList_ran rfl (append_run rfl rfl rfl HRUN.out) ?_) | fail)
            clear HRUN e1 s1 s2
            go_wp2_with fail
            go_roundw
            case rel => exact ⟨i + 1,a',tl + 1,na,nc,ts ++ [x],_,_,by go_num,by omega,by omega,by omega,by omega,HTS2,HI16,HK16⟩
            case measure => simp [intOf]; omega
          ·have d7 : (f3 != 1) = true := by simpa using hf1
           have HXO : Hid (OneT (m + 1) s ⟨f1,f2,f3,f4,f5⟩ x ∧ (f3 = 1 → zroB x = false)) := ⟨HTT.out,fun h => absurd h hf1⟩
           have i0 := (BX.cell 0).trans rfl
           have i1 := (BX.cell 1).trans rfl
           have i2 := (BX.cell 2).trans rfl
           have i3 := (BX.cell 3).trans rfl
           have i4 := (BX.cell 4).trans rfl
           clear hf1 BX
           have hal14 : Below (w11.alloc (Obj.cells #[.int .i64 xk,.int .i64 xn,.string xs,.slice x1 x2 x3,.slice x4 x5 x6] 33)).heap.size (w11.alloc (Obj.cells #[.int .i64 xk,.int .i64 xn,.string xs,.slice x1 x2 x3,.slice x4 x5 x6] 33)) ((w11.alloc (Obj.cells #[.int .i64 xk,.int .i64 xn,.string xs,.slice x1 x2 x3,.slice x4 x5 x6] 33)).alloc (Obj.cells #[.int .i64 xk,.int .i64 xn,.string xs,.slice x1 x2 x3,.slice x4 x5 x6] 33)) := (Below.refl _ _).alloc (Nat.le_refl _) _
           obtain ⟨hI14,hO14,hA14⟩ := HST.out
           have hI14' := hI14.below hal14
           obtain ⟨v',W15,r1,⟨na,nc,hv'⟩,BE15,KP,hI16⟩ := hI14'.pushT (r := [.int .i64 xk,.int .i64 xn,.string xs,.slice x1 x2 x3,.slice x4 x5 x6]) (x := x) (bs := bs) (bz := w11.heap.size + 1) (hO14.sm (Sm.below hal14 fun q hq => (hA14.2 q (List.mem_append.2 (.inr hq))).2)) rfl (fun u hu => by
            simp only [List.mem_cons,List.not_mem_nil,or_false] at hu
            rcases hu with rfl | rfl | rfl | rfl | rfl <;> rfl) (hA14.mono hal14.size) (by have := Blk.new (w11.alloc (Obj.cells #[.int .i64 xk,.int .i64 xn,.string xs,.slice x1 x2 x3,.slice x4 x5 x6] 33)) #[.int .i64 xk,.int .i64 xn,.string xs,.slice x1 x2 x3,.slice x4 x5 x6] 33; rwa [show (w11.alloc (Obj.cells #[.int .i64 xk,.int .i64 xn,.string xs,.slice x1 x2 x3,.slice x4 x5 x6] 33)).heap.size = w11.heap.size + 1 from by simp] at this) (by have := HTS.out.1; omega)
           rw [HTS.out.1] at hv'
           subst hv'
           have HRUN : Hid ((Builtin.append_ #[78,78] 78 #[.slice qa tl qc,.slice (some ⟨w11.heap.size + 1,0,none⟩) 1 1]).run Tryz.prog ((w11.alloc (Obj.cells #[.int .i64 xk,.int .i64 xn,.string xs,.slice x1 x2 x3,.slice x4 x5 x6] 33)).alloc (Obj.cells #[.int .i64 xk,.int .i64 xn,.string xs,.slice x1 x2 x3,.slice x4 x5 x6] 33)) = .ok (.slice na (tl + 1) nc) W15) := r1
           have HI16 : Hid (InS (m + 1) b0 (b0 + 2) bm ba be bf #[.string sn,.slice ma mn mc,.slice ea en ec,.slice ta tn tc] #[.string mnm,.slice fa fl fc,.slice ra rl rc] #[.string f1,.int .i64 f2,.int .i64 f3,.int .i64 f4,.string f5] (tg : Int) a' (.slice va k vc) es rows bss (.slice na (tl + 1) nc) (ts ++ [x]) (rows' ++ [[.int .i64 xk,.int .i64 xn,.string xs,.slice x1 x2 x3,.slice x4 x5 x6]]) (bss' ++ [bs]) (W15.setCell ⟨be,1,none⟩ (.slice na (tl + 1) nc))) := hI16
           have HK16 : Hid (Kp (fun q => q = ba) w (W15.setCell ⟨be,1,none⟩ (.slice na (tl + 1) nc))) := (HKX.out.trans (Kp.ofBelow hal14)).trans2 KP (fun i hi e => by have := HBZ.out; omega)
           have e1 := (hI14.eb.cell 1).trans rfl
           have s1 := (BE15.cell 1).trans rfl
           have s2 := BE15.froz 1
           have HTS2 : Hid ((ts ++ [x]).length = tl + 1 ∧ (∀ y ∈ ts ++ [x],OneT (m + 1) s ⟨f1,f2,f3,f4,f5⟩ y ∧ (f3 = 1 → zroB y = false)) ∧ cntEs (m + 1) es + cntT (m + 1) (ts ++ [x]) + a0 ≤ a') := ⟨by simp [HTS.out.1],fun y hy => by
            rcases List.mem_append.1 hy with hy | hy
            ·exact HTS.out.2.1 y hy
            ·obtain rfl : y = x := by simpa using hy
             exact HXO.out,by rw [cntT_snoc]; have := HTS.out.2.2; have := HXC.out; omega⟩
           clear hal14 hI14 hO14 hA14 hI14' r1 BE15 KP hI16
           go_wp2_with (first | (at_builtin; refine wpList_ran rfl (append_run rfl rfl rfl HRUN.out) ?_) | fail)
           clear HRUN e1 s1 s2
           go_wp2_with fail
           go_roundw
           case rel => exact ⟨i + 1,a',tl + 1,na,nc,ts ++ [x],_,_,by go_num,by omega,by omega,by omega,by omega,HTS2,HI16,HK16⟩
           case measure => simp [intOf]; omega
         ·have e0 := (HI.out.eb.cell 0).trans rfl
          have e1 := (HI.out.eb.cell 1).trans rfl
          by_cases htl0 : tl = 0
          ·have d8 : decide (0 < tl) = false := by simp; omega
           have HSE : Hid (FtS (m + 1) b0 (b0 + 2) bm ba #[.string sn,.slice ma mn mc,.slice ea en ec,.slice ta tn tc] #[.string mnm,.slice fa fl fc,.slice ra rl rc] aj (.slice va k vc) es rows bss wr ∧ Apt b0 wr (fpO b0 (b0 + 2) bm (.slice va k vc) bss)) := ⟨HI.out.ft,HI.out.ap.of_count fun y => by simp only [List.count_append]; omega⟩
           have hcj : cntEs (m + 1) es + a0 ≤ aj := by have := HTS.out.2.2; omega
           have HCJ : Hid (cntEs (m + 1) es + a0 ≤ aj) := hcj
           clear hcj htl0
           go_wp2_with fail
           clear e0 e1 d8
           go_roundw
           case rel => exact ⟨tg + 1,aj,k,va,vc,es,rows,bss,by go_num,by omega,by omega,hk40,by omega,by omega,(⟨HE.out.1,HE.out.2.1.skip,HCJ.out⟩ : es.length = k ∧ EsT (m + 1) s fs es ((tg : Int) + 1) ∧ cntEs (m + 1) es + a0 ≤ aj),HSE,HKJ⟩
           case measure => simp [intOf]; omega
          ·have d8 : decide (0 < tl) = true := by simp; omega
           have hal17 : Below wr.heap.size wr (wr.alloc (Obj.cells #[.int .i64 (tg : Int),.slice qa tl qc] 80)) := (Below.refl _ _).alloc (Nat.le_refl _) _
           obtain ⟨v',W18,r1,⟨na,nc,hv'⟩,BT18,KP,hF19,hA19⟩ := (HI.out.below hal17).pushE (bz := wr.heap.size) ⟨by omega,by omega⟩ (Blk.new wr _ _) (by have := HE.out.1; omega) rfl
           rw [HE.out.1] at hv'
           subst hv'
           have HRUN : Hid ((Builtin.append_ #[30,30] 30 #[(.slice va k vc),.slice (some ⟨wr.heap.size,0,none⟩) 1 1]).run Tryz.prog (wr.alloc (Obj.cells #[.int .i64 (tg : Int),.slice qa tl qc] 80)) = .ok (.slice na (k + 1) nc) W18) := r1
           have HS19 : Hid (FtS (m + 1) b0 (b0 + 2) bm ba #[.string sn,.slice ma mn mc,.slice ea en ec,.slice ta tn tc] #[.string mnm,.slice fa fl fc,.slice ra rl rc] aj (.slice na (k + 1) nc) (es ++ [((tg : Int),ts)]) (rows ++ [[.int .i64 (tg : Int),.slice qa tl qc]]) (bss ++ [allB (.slice qa tl qc) bss']) (W18.setCell ⟨b0 + 2,3,none⟩ (.slice na (k + 1) nc)) ∧ Apt b0 (W18.setCell ⟨b0 + 2,3,none⟩ (.slice na (k + 1) nc)) (fpO b0 (b0 + 2) bm (.slice na (k + 1) nc) (bss ++ [allB (.slice qa tl qc) bss']))) := ⟨hF19,hA19⟩
           have HK19 : Hid (Kp (fun q => q = ba) w (W18.setCell ⟨b0 + 2,3,none⟩ (.slice na (k + 1) nc))) := (HKJ.out.trans (Kp.ofBelow hal17)).trans2 KP (fun i hi e => by have := HBZ.out; omega)
           have HE2 : Hid ((es ++ [((tg : Int),ts)]).length = k + 1 ∧ EsT (m + 1) s fs (es ++ [((tg : Int),ts)]) ((tg : Int) + 1) ∧ cntEs (m + 1) (es ++ [((tg : Int),ts)]) + a0 ≤ aj) := ⟨by simp [HE.out.1],HE.out.2.1.push (by omega) (by omega) HFO.out rfl (by have := HTS.out.1; omega) (by have := HTS.out.1; omega) (fun h => by have := HNL.out h; have := HTS.out.1; omega) HTS.out.2.1,by rw [cntEs_snoc]; exact HTS.out.2.2⟩
           have hk1 : k + 1 ≤ 40 := by
            have h1 := HE2.out.2.1.len
            have h2 := List.length_filter_le (fun f : FlS => decide (f.tag < (tg : Int) + 1)) fs
            have h3 := HFL.out.1
            have h4 := HE2.out.1
            omega
           have t3 := (HI.out.ft.tb.cell 3).trans rfl
           have s1 := (BT18.cell 3).trans rfl
           have s2 := BT18.froz 3
           clear hal17 r1 BT18 KP hF19 hA19 htl0
           go_wp2_with (first | (at_builtin; refine wpList_ran rfl (append_run rfl rfl rfl HRUN.out) ?_) | fail)
           clear HRUN e0 e1 t3 s1 s2
           go_wp2_with fail
           clear d8
           go_roundw
           case rel => exact ⟨tg + 1,aj,k + 1,na,nc,_,_,_,by go_num,by omega,by omega,hk1,by omega,by omega,HE2,HS19,HK19⟩
           case measure => simp [intOf]; omega
end Go.Proofs.YtiajaocckkghgaaGreat
