/- Part 9 of what the proof stands on. -/
import Derived.Test.YtmgbhicogmclgaaGreatPkAAH
namespace Go.Proofs.YtmgbhicogmclgaaGreat
set_option maxHeartbeats 8000000
set_option linter.unusedVariables false
set_option linter.unusedSimpArgs false
set_option maxRecDepth 20000
section
open Go.ChangeShapes Go.WideShapes Go.ChangeAt Go.RowKit
theorem pmsg_any {s : ScS} {W0 : World} {sn : ByteArray} {ma ea ta : Option Addr} {mn mc en ec tn tc : Nat} (hks : ∀ nm m,msgOf s nm = some m → ∀ f ∈ m.fields,1 ≤ f.kind ∧ f.kind ≤ 7) (hms : MsIn W0 (.slice ma mn mc) s.msgs) (hfl : ∀ m ∈ s.msgs,m.fields.length ≤ 20 ∧ m.reserved.length ≤ 40) : ∀ n,MsgC s W0 n sn ma ea ta mn mc en ec tn tc
 | 0 => fun b F nm t K N S a1 a2 n1 c1 n2 c2 w _ hx _ _ _ => by
  obtain ⟨r,_,h⟩ := hx;exact h.elim
 | n + 1 => pmsg_step hks hms hfl (pmsg_any hks hms hfl n)
def newB (w w' : World) : List Nat := (List.range w'.heap.size).filter fun k => decide (w.heap.size ≤ k)
theorem newB_apt (w w' : World) : Apt w.heap.size w' (newB w w') := ⟨List.nodup_range.filter _,fun k hk => by
 simp only [newB,List.mem_filter,List.mem_range,decide_eq_true_eq] at hk
 exact ⟨hk.2,hk.1⟩⟩
theorem SeeFP.no {n : Nat} {R : Tr × Bool} {w w' : World} (hR : R = (tr0,false)) (hb : Below w.heap.size w w') : SeeFP (n + 1) R w (.returned (.tuple #[.agg #[.int .i64 0,.int .i64 0,.string ⟨#[]⟩,.slice none 0 0,.slice none 0 0],.bool false])) w' := by
 subst hR;refine ⟨[.int .i64 0,.int .i64 0,.string ⟨#[]⟩,.slice none 0 0,.slice none 0 0],[],rfl,fun w'' _ => ?_,⟨List.nodup_nil,by simp⟩,hb⟩;have h1 : TrR (n + 1) w'' [.int .i64 0,.int .i64 0,.string ⟨#[]⟩,.slice none 0 0,.slice none 0 0] tr0 := leaf_see (w := w'') (F := fun _ => False) is64_lit0 is64_lit0 (by show (0 : Nat) ≤ _; omega) w'' fun _ _ => rfl
 exact ⟨h1.trQ.trC,h1⟩
theorem SeeFP.yes {s : ScS} {b n : Nat} {F : Nat → Prop} {T : Tr} {r : List Value} {R : Tr × Bool} {w w' : World} (hR : R = (T,true)) (hk : KnP s w w' b F) (hs : SeeG (n + 1) w' r T F) : SeeFP (n + 1) R w (.returned (.tuple #[.agg r.toArray,.bool true])) w' := by
 subst hR;refine ⟨r,newB w w',rfl,fun w'' h2 => ?_,newB_apt w w',hk.below⟩
 have h1 : TrR (n + 1) w'' r T := hs w'' fun k e => h2 k (by
  simp only [newB,List.mem_filter,List.mem_range,decide_eq_true_eq]
  exact ⟨(hk.new k e).2,(hk.new k e).1⟩)
 exact ⟨h1.trQ.trC,h1⟩
theorem project_any : ProjC := by
 intro n s sv nm tv t w hn hr hw hf ht hsm hc;have hr0 := hr;obtain ⟨vm,ve,vt,rfl,h1,h2,h3⟩ := hr;obtain ⟨ma,mc,rfl, -⟩ := h1.form2;obtain ⟨erows,her, -⟩ := h2;obtain ⟨ea,ec,rfl, -⟩ := her.form;obtain ⟨ta,tc,rfl, -⟩ := h3.form;generalize s.msgs.length = mn at *;generalize erows.length = en at *;generalize (mtRows s.methods).length = tn at *;obtain ⟨m,a1,c1,a2,c2, -,rfl, -⟩ := ht.open;obtain ⟨K,hK⟩ : ∃ z,t.kind = z := ⟨_,rfl⟩;obtain ⟨N,hN⟩ : ∃ z,t.n = z := ⟨_,rfl⟩;obtain ⟨S,hS⟩ : ∃ z,t.s = z := ⟨_,rfl⟩;generalize t.es.length = n1 at *;generalize t.rest.length = n2 at *;have HT3 : Hid (t.kind = K) := hK;rw [hK,hN,hS] at ht ⊢;have HCC : Hid (∀ W,Below w.heap.size w W → Calls Tryz.prog 20 #[.agg #[.string s.name,.slice ma mn mc,.slice ea en ec,.slice ta tn tc]] W fun e w' => e = .returned (.int .i64 (checkA s)) ∧ Below W.heap.size W w') := fun W hW => check_any (hr0.below hW) hw hf
 have HVC : Hid (∀ W,Below w.heap.size w W → Calls Tryz.prog 22 #[.agg #[.int .i64 K,.int .i64 N,.string S,.slice a1 n1 c1,.slice a2 n2 c2]] W fun e w' => e = .returned (.bool (chkN (n + 1) t)) ∧ Below W.heap.size W w') := fun W hW => vcheck_any (n + 1) t _ W (by obtain ⟨r,g1,g2⟩ := ht.cel (Cel.ofBelow hW); exact ⟨r,g1,g2.trQ⟩) (by omega) hc hsm
 have hfl : ∀ m ∈ s.msgs,m.fields.length ≤ 20 ∧ m.reserved.length ≤ 40 := fun m hm => hf.flds m hm
 have HMC : Hid (∀ W,Below w.heap.size w W → Calls Tryz.prog 21 #[.agg #[.string s.name,.slice ma mn mc,.slice ea en ec,.slice ta tn tc],.string nm] W fun e w' => ∃ q vf vr,e = .returned (.tuple #[.agg #[.string q,vf,vr],.bool (msgOf s nm).isSome]) ∧ (∃ a1 n1 c1,vf = .slice a1 n1 c1) ∧ (∃ a2 n2 c2,vr = .slice a2 n2 c2) ∧ Below W.heap.size W w') := (fun W hW => by
  refine (cmessage_any (w := W) (snm := s.name) (nm := nm) (ae := ea) (at' := ta) (E := en) (ce := ec) (T := tn) (ct := tc) (h1.below hW) hfl).mono ?_;rintro e w' ⟨vf,vr,rfl,g1,g2,g3⟩;obtain ⟨q1,q2,rfl⟩ := own_form g1;obtain ⟨q3,q4,rfl⟩ := own_form g2
  exact ⟨_,_,_,rfl,⟨_,_,_,rfl⟩,⟨_,_,_,rfl⟩,g3⟩ : ∀ W,_ → Calls Tryz.prog _ _ W _)
 have HPM : Hid (checkA s = 0 → t.kind = 3 → chkN (n + 1) t = true → ∀ W b F,KnP s w W b F → Calls Tryz.prog 23 #[.agg #[.string s.name,.slice ma mn mc,.slice ea en ec,.slice ta tn tc,.map (some b)],.string nm,.agg #[.int .i64 K,.int .i64 N,.string S,.slice a1 n1 c1,.slice a2 n2 c2]] W (SeenP s w b F (n + 1) (prM (n + 1) s nm t) W)) := fun g1 g2 g3 W b F hk => pmsg_any (ok_kindsJ ((checkA_ok s).1 g1)) h1 hfl (n + 1) b F nm t K N S a1 a2 n1 c1 n2 c2 W hk ht g2 (by simp only [chkN,Bool.and_eq_true] at g3; exact g3.2) hsm
 obtain ⟨R,hR⟩ : ∃ R,projA (n + 1) s nm t = R := ⟨_,rfl⟩;have HR : Hid ((if checkA s = 0 ∧ (msgOf s nm).isSome = true ∧ t.kind = 3 ∧ chkN (n + 1) t = true then (prM (n + 1) s nm t,true) else (tr0,false)) = R) := hR;rw [hR];have HKS : Hid (∀ W,Below w.heap.size w W → KnP s w (W.alloc (.map #[] 0)) W.heap.size (fun _ => False)) := fun W hW => KnP.start hW
 generalize s.name = sn at *;clear hR hK hN hS ht hsm hc hr0 hw hf h1 her h3 hfl hn;have hmm := @run_makeMap Tryz.prog;obtain ⟨BS,BT,BR,hbw⟩ := p3blk w #[.string sn,.slice ma mn mc,.slice ea en ec,.slice ta tn tc] #[.int .i64 K,.int .i64 N,.string S,.slice a1 n1 c1,.slice a2 n2 c2] #[.int .i64 0,.int .i64 0,.string ⟨#[]⟩,.slice none 0 0,.slice none 0 0] 26 30 30
 go_enter Tryz.func9,Tryz.ntmps9
 go_upto_region 1 with fail
 generalize (((w.alloc (Obj.cells #[.string sn,.slice ma mn mc,.slice ea en ec,.slice ta tn tc] 26)).alloc (Obj.cells #[.int .i64 K,.int .i64 N,.string S,.slice a1 n1 c1,.slice a2 n2 c2] 30)).alloc (Obj.cells #[.int .i64 0,.int .i64 0,.string ⟨#[]⟩,.slice none 0 0,.slice none 0 0] 30)) = U0 at *;obtain ⟨b0,hb0⟩ : ∃ z,w.heap.size = z := ⟨_,rfl⟩;have HBZ : Hid (w.heap.size = b0) := hb0;rw [hb0] at BS BT BR
 try simp only [hb0]
 clear hb0;have s0 := (BS.cell 0).trans rfl;have s1 := (BS.cell 1).trans rfl;have s2 := (BS.cell 2).trans rfl;have s3 := (BS.cell 3).trans rfl;go_wp2_with fail;refine (HCC.out _ hbw).mono ?_;rintro e w1 ⟨rfl,hb1⟩;have hbw1 := hbw.trans (hb1.mono hbw.size);have BS1 := BS.below hb1;have BT1 := BT.below hb1;have BR1 := BR.below hb1;clear s0 s1 s2 s3 BS BT BR hb1 hbw HCC;obtain ⟨CA,hCA⟩ : ∃ z,checkA s = z := ⟨_,rfl⟩;have HCA : Hid (checkA s = CA) := hCA;rw [hCA] at HR ⊢;clear hCA
 by_cases hca : CA = 0
 rotate_left
 ·have d : (CA != 0) = true := by simpa using hca
  have HRN : Hid (R = (tr0,false)) := (by rw [← HR.out,if_neg (fun h => hca h.1)] : R = _);clear hca HR HPM HMC HVC HKS BS1 BT1;have r0 := (BR1.cell 0).trans rfl;have rz0 := BR1.froz 0;have r1 := (BR1.cell 1).trans rfl;have rz1 := BR1.froz 1;have r2 := (BR1.cell 2).trans rfl;have rz2 := BR1.froz 2;have r3 := (BR1.cell 3).trans rfl;have rz3 := BR1.froz 3;have r4 := (BR1.cell 4).trans rfl;have rz4 := BR1.froz 4;go_wp2_with fail;have hbe : ∀ W,Below w.heap.size w W → Below w.heap.size w (set5 W (b0 + 2) 0 (.int .i64 0) (.int .i64 0) (.string ⟨#[]⟩) (.slice none 0 0) (.slice none 0 0)) := fun W hW => hW.trans ((set5_kp W (b0 + 2) 0 _ _ _ _ _).toBelow hW.size fun q e => by rw [e,HBZ.out]; omega)
  unfold set5 at hbe;exact bodyPost_ret (results_two rfl _ _ _ ⟨b0 + 2,0,none⟩ (.agg #[.int .i64 0,.int .i64 0,.string ⟨#[]⟩,.slice none 0 0,.slice none 0 0]) (by go_simp) (by go_simp)) rfl (SeeFP.no HRN.out (hbe _ hbw1))
 subst hca;have HPM1 := HPM.out HCA.out;have s0 := (BS1.cell 0).trans rfl;have s1 := (BS1.cell 1).trans rfl;have s2 := (BS1.cell 2).trans rfl;have s3 := (BS1.cell 3).trans rfl;go_wp2_with fail;refine (HMC.out _ hbw1).mono ?_;rintro e w2 ⟨qn,vf,vr,rfl,⟨fa,fl,fc,rfl⟩,⟨ra,rl,rc,rfl⟩,hb2⟩;have hbw2 := hbw1.trans (hb2.mono hbw1.size);have BS2 := BS1.below hb2;have BT2 := BT1.below hb2;have BR2 := BR1.below hb2;have HPM2 : Hid _ := HPM1;clear s0 s1 s2 s3 BS1 BT1 BR1 hb2 hbw1 HMC HPM1 HPM HCA;obtain ⟨QB,hQB⟩ : ∃ z,(msgOf s nm).isSome = z := ⟨_,rfl⟩;have HQB : Hid ((msgOf s nm).isSome = QB) := hQB;rw [hQB] at HR ⊢;clear hQB;have alm : ∀ o,Below w2.heap.size w2 (w2.alloc o) := fun o => (Below.refl _ _).alloc (Nat.le_refl _) _
 have hl2 : b0 + 2 < w2.heap.size := BR2.lt;have hl1 : b0 + 1 < w2.heap.size := BT2.lt;have hl0 : b0 < w2.heap.size := BS2.lt
 cases QB with
 | false =>
  have HRN : Hid (R = (tr0,false)) := (by rw [← HR.out,if_neg (fun h => by cases h.2.1)] : R = _);clear HR HPM2 HVC HKS BS2 BT2;have r0 := (BR2.cell 0).trans rfl;have rz0 := BR2.froz 0;have r1 := (BR2.cell 1).trans rfl;have rz1 := BR2.froz 1;have r2 := (BR2.cell 2).trans rfl;have rz2 := BR2.froz 2;have r3 := (BR2.cell 3).trans rfl;have rz3 := BR2.froz 3;have r4 := (BR2.cell 4).trans rfl;have rz4 := BR2.froz 4;go_wp2_with fail
  have hbe : ∀ o,Below w.heap.size w ((set5 w2 (b0 + 2) 0 (.int .i64 0) (.int .i64 0) (.string ⟨#[]⟩) (.slice none 0 0) (.slice none 0 0)).alloc o) := fun o => by
   have h1 := hbw2.trans ((set5_kp w2 (b0 + 2) 0 (.int .i64 0) (.int .i64 0) (.string ⟨#[]⟩) (.slice none 0 0) (.slice none 0 0)).toBelow hbw2.size fun q e => by rw [e,HBZ.out]; omega);exact h1.alloc h1.size _
  unfold set5 at hbe;exact bodyPost_ret (results_two rfl _ _ _ ⟨b0 + 2,0,none⟩ (.agg #[.int .i64 0,.int .i64 0,.string ⟨#[]⟩,.slice none 0 0,.slice none 0 0]) (by go_simp) (by go_simp)) rfl (SeeFP.no HRN.out (hbe _))
 | true =>
  go_upto_region 6 with fail
  have hbw3 := hbw2.trans ((alm (Obj.cells #[.string qn,.slice fa fl fc,.slice ra rl rc] 52)).mono hbw2.size);have BS3 := BS2.below (alm (Obj.cells #[.string qn,.slice fa fl fc,.slice ra rl rc] 52));have BT3 := BT2.below (alm (Obj.cells #[.string qn,.slice fa fl fc,.slice ra rl rc] 52));have BR3 := BR2.below (alm (Obj.cells #[.string qn,.slice fa fl fc,.slice ra rl rc] 52));clear BS2 BT2 BR2 hbw2 alm hl0 hl1 hl2;generalize (w2.alloc (Obj.cells #[.string qn,.slice fa fl fc,.slice ra rl rc] 52)) = W3 at *;rw [HT3.out] at HR;have t0 := (BT3.cell 0).trans rfl;have t1 := (BT3.cell 1).trans rfl;have t2 := (BT3.cell 2).trans rfl;have t3 := (BT3.cell 3).trans rfl;have t4 := (BT3.cell 4).trans rfl
  by_cases hK3 : K = 3
  rotate_left
  ·have d : (K != 3) = true := by simpa using hK3
   have HRN : Hid (R = (tr0,false)) := (by rw [← HR.out,if_neg (fun h => hK3 h.2.2.1)] : R = _);clear hK3 HR HPM2 HVC HKS BS3 BT3 HT3;have r0 := (BR3.cell 0).trans rfl;have rz0 := BR3.froz 0;have r1 := (BR3.cell 1).trans rfl;have rz1 := BR3.froz 1;have r2 := (BR3.cell 2).trans rfl;have rz2 := BR3.froz 2;have r3 := (BR3.cell 3).trans rfl;have rz3 := BR3.froz 3;have r4 := (BR3.cell 4).trans rfl;have rz4 := BR3.froz 4;go_wp2_with fail;have hbe : ∀ W,Below w.heap.size w W → Below w.heap.size w (set5 W (b0 + 2) 0 (.int .i64 0) (.int .i64 0) (.string ⟨#[]⟩) (.slice none 0 0) (.slice none 0 0)) := fun W hW => hW.trans ((set5_kp W (b0 + 2) 0 _ _ _ _ _).toBelow hW.size fun q e => by rw [e,HBZ.out]; omega)
   unfold set5 at hbe;exact bodyPost_ret (results_two rfl _ _ _ ⟨b0 + 2,0,none⟩ (.agg #[.int .i64 0,.int .i64 0,.string ⟨#[]⟩,.slice none 0 0,.slice none 0 0]) (by go_simp) (by go_simp)) rfl (SeeFP.no HRN.out (hbe _ hbw3))
  subst hK3;go_wp2_with fail;refine (HVC.out _ hbw3).mono ?_;rintro e w4 ⟨rfl,hb4⟩;have hbw4 := hbw3.trans (hb4.mono hbw3.size);have BS4 := BS3.below hb4;have BT4 := BT3.below hb4;have BR4 := BR3.below hb4;clear t0 t1 t2 t3 t4 BS3 BT3 BR3 hb4 hbw3 HVC;obtain ⟨CB,hCB⟩ : ∃ z,chkN (n + 1) t = z := ⟨_,rfl⟩;have HCB : Hid (chkN (n + 1) t = CB) := hCB;rw [hCB] at HR ⊢;clear hCB
  cases CB with
  | false =>
   have HRN : Hid (R = (tr0,false)) := (by rw [← HR.out,if_neg (fun h => by cases h.2.2.2)] : R = _);clear HR HPM2 HKS BS4 BT4 HT3 HCB;have r0 := (BR4.cell 0).trans rfl;have rz0 := BR4.froz 0;have r1 := (BR4.cell 1).trans rfl;have rz1 := BR4.froz 1;have r2 := (BR4.cell 2).trans rfl;have rz2 := BR4.froz 2;have r3 := (BR4.cell 3).trans rfl;have rz3 := BR4.froz 3;have r4 := (BR4.cell 4).trans rfl;have rz4 := BR4.froz 4;go_wp2_with fail;have hbe : ∀ W,Below w.heap.size w W → Below w.heap.size w (set5 W (b0 + 2) 0 (.int .i64 0) (.int .i64 0) (.string ⟨#[]⟩) (.slice none 0 0) (.slice none 0 0)) := fun W hW => hW.trans ((set5_kp W (b0 + 2) 0 _ _ _ _ _).toBelow hW.size fun q e => by rw [e,HBZ.out]; omega)
   unfold set5 at hbe;exact bodyPost_ret (results_two rfl _ _ _ ⟨b0 + 2,0,none⟩ (.agg #[.int .i64 0,.int .i64 0,.string ⟨#[]⟩,.slice none 0 0,.slice none 0 0]) (by go_simp) (by go_simp)) rfl (SeeFP.no HRN.out (hbe _ hbw4))
  | true =>
   have HRY : Hid (R = (prM (n + 1) s nm t,true)) := (by rw [← HR.out,if_pos (by simp)] : R = _);have HPW : Hid (∀ W b F,KnP s w W b F → _) := HPM2.out HT3.out HCB.out;have hK5 := HKS.out w4 hbw4;have hl2 : b0 + 2 < w4.heap.size := BR4.lt;have hl1 : b0 + 1 < w4.heap.size := BT4.lt;have hl0 : b0 < w4.heap.size := BS4.lt;have HPX : Hid _ := HPW.out _ _ _ hK5;have s0 := (BS4.cell 0).trans rfl;have s1 := (BS4.cell 1).trans rfl;have s2 := (BS4.cell 2).trans rfl;have s3 := (BS4.cell 3).trans rfl;have t0 := (BT4.cell 0).trans rfl;have t1 := (BT4.cell 1).trans rfl;have t2 := (BT4.cell 2).trans rfl;have t3 := (BT4.cell 3).trans rfl;have t4 := (BT4.cell 4).trans rfl;have al5 : Below w4.heap.size w4 (w4.alloc (.map #[] 0)) := (Below.refl _ _).alloc (Nat.le_refl _) _;have BR5 := BR4.below al5;clear HPM2 HPW HKS HR BS4 BT4 BR4 HCB HT3;generalize prM (n + 1) s nm t = T at *;go_wp2_with fail;refine Calls.mono HPX.out ?_;rintro e w6 ⟨r,G,rfl,hg,hse⟩;obtain ⟨q1,q2,q3,q4,q5,q6,rfl⟩ := trC_open hse.now.trQ.trC
   have hnb : b0 + 2 ≠ w4.heap.size := by omega
   have BR6 := BR5.kp hg.kp hnb;have hnG : ¬ G (b0 + 2) := hg.fresh BR5 fun e => e
   have hk7 := set5_kp w6 (b0 + 2) 0 (.int .i64 T.kind) (.int .i64 T.n) (.string T.s) (.slice q1 q2 q3) (.slice q4 q5 q6);have hFIN : Hid (SeeFP (n + 1) R w (.returned (.tuple #[.agg #[.int .i64 T.kind,.int .i64 T.n,.string T.s,.slice q1 q2 q3,.slice q4 q5 q6],.bool true])) (set5 w6 (b0 + 2) 0 (.int .i64 T.kind) (.int .i64 T.n) (.string T.s) (.slice q1 q2 q3) (.slice q4 q5 q6))) := SeeFP.yes HRY.out (hg.kn.kp hk7 (fun k e => by rw [e,HBZ.out]; omega) (fun e => hnb e.symm) fun k e e2 => hnG (e2 ▸ e)) (hse.stay (Stay.kp hk7 (fun k e => (hg.kn.new k e).2) fun k e e2 => hnG (e2 ▸ e)));unfold set5 at hFIN;have r0 := (BR6.cell 0).trans rfl;have rz0 := BR6.froz 0;have r1 := (BR6.cell 1).trans rfl;have rz1 := BR6.froz 1;have r2 := (BR6.cell 2).trans rfl;have rz2 := BR6.froz 2;have r3 := (BR6.cell 3).trans rfl;have rz3 := BR6.froz 3;have r4 := (BR6.cell 4).trans rfl;have rz4 := BR6.froz 4;clear hse hg hk7 hnG hnb BR5 BR6 HPX hK5 HRY s0 s1 s2 s3 t0 t1 t2 t3 t4 al5 hl0 hl1 hl2;generalize T.kind = TK at *;generalize T.n = TN at *;generalize T.s = TS at *;go_wp2_with fail;refine bodyPost_ret (results_two rfl _ _ _ ⟨b0 + 2,0,none⟩ (.agg #[.int .i64 TK,.int .i64 TN,.string TS,.slice q1 q2 q3,.slice q4 q5 q6]) (by go_simp) (by go_simp)) rfl ?_;exact hFIN.out
theorem TrX.len5 {n B : Nat} {w : World} {r : List Value} {t : Tr} {bs : List Nat} (h : TrX n B w r t bs) : r.length = 5 ∧ ∀ u ∈ r,u.oneCell' = true := by
 obtain ⟨a1,n1,c1,a2,n2,c2,rfl⟩ := h.open;refine ⟨rfl,fun u hu => ?_⟩;simp only [List.mem_cons,List.not_mem_nil,or_false] at hu
 rcases hu with rfl | rfl | rfl | rfl | rfl <;> rfl
def SeeY (n g : Nat) (tag : Int) (vt : Value) (xs : List Tr) (w : World) : Prop := Blk w g #[.int .i64 tag,vt] 69 ∧ ∃ rows bss,RowO (TrX n (g + 1)) (g + 1) 30 5 w vt xs rows bss ∧ Apt (g + 1) w (allB vt bss)
def SeeS (n bt : Nat) (ve : Value) (es : List (Int × List Tr)) (w : World) : Prop := Blk w bt #[.int .i64 3,.int .i64 0,.string ⟨#[]⟩,ve,.slice none 0 0] 30 ∧ ∃ rows bss,RowO (EtO (TrX n (bt + 1)) (bt + 1)) (bt + 1) 69 2 w ve es rows bss ∧ Apt (bt + 1) w (allB ve bss)
section
variable {n g bt bz : Nat} {tag : Int} {vt ve : Value} {xs : List Tr} {es : List (Int × List Tr)} {w w0 w' W : World} {r : List Value} {x : Tr} {bs : List Nat}
theorem SeeY.nil (hb : Blk w g #[.int .i64 tag,.slice none 0 0] 69) : SeeY n g tag (.slice none 0 0) [] w := ⟨hb,[],[],RowO.nil _ _ _ _ _,Apt.nil _ _⟩
theorem SeeS.nil (hb : Blk w bt #[.int .i64 3,.int .i64 0,.string ⟨#[]⟩,.slice none 0 0,.slice none 0 0] 30) : SeeS n bt (.slice none 0 0) [] w := ⟨hb,[],[],RowO.nil _ _ _ _ _,Apt.nil _ _⟩
theorem SeeY.below (h : SeeY n g tag vt xs w) (hb : Below w.heap.size w w') : SeeY n g tag vt xs w' := by
 obtain ⟨h1,rows,bss,h2,h3⟩ := h;exact ⟨h1.below hb,rows,bss,h2.sm (Sm.below hb fun k hk => (h3.2 k hk).2) fun _ _ _ hp hs => hp.sm hs,h3.mono hb.size⟩
theorem SeeS.below (h : SeeS n bt ve es w) (hb : Below w.heap.size w w') : SeeS n bt ve es w' := by
 obtain ⟨h1,rows,bss,h2,h3⟩ := h;exact ⟨h1.below hb,rows,bss,h2.sm (Sm.below hb fun k hk => (h3.2 k hk).2) fun _ _ _ hp hs => EtX.sm hp hs,h3.mono hb.size⟩
theorem SeeY.size (h : SeeY n g tag vt xs w) : g < w.heap.size := h.1.lt
theorem SeeS.size (h : SeeS n bt ve es w) : bt < w.heap.size := h.1.lt
theorem SeeY.push (h : SeeY n g tag vt xs w0) (hb : Below w0.heap.size w0 W) (hx : TrX n w0.heap.size W r x bs) (hap : Apt w0.heap.size W bs) (BZ : Blk W bz r.toArray 30) (hn : xs.length ≤ 1000) :
  ∃ a c W',(Builtin.append_ #[67,67] 67 #[vt,.slice (some ⟨bz,0,none⟩) 1 1]).run Tryz.prog W = .ok (.slice a (xs.length + 1) c) W' ∧ Blk W' g #[.int .i64 tag,vt] 69 ∧
   SeeY n g tag (.slice a (xs.length + 1) c) (xs ++ [x]) (W'.setCell ⟨g,1,none⟩ (.slice a (xs.length + 1) c)) ∧ Kp (fun q => g < q) W W' ∧ Kp (fun q => g ≤ q) w0 (W'.setCell ⟨g,1,none⟩ (.slice a (xs.length + 1) c)) := by
 have hg := h.size;obtain ⟨h1,rows,bss,h2,h3⟩ := h;have hB : g + 1 ≤ w0.heap.size := hg
 have hA : Apt (g + 1) W ([] ++ (allB vt bss ++ bs)) := by
  rw [List.nil_append];exact h3.append hap hB (Nat.le_refl _) hb.size
 have h2' := h2.sm (Sm.below hb fun k hk => (h3.2 k hk).2) fun _ _ _ hp hs => hp.sm hs
 obtain ⟨h5,h6⟩ := hx.len5;obtain ⟨v',W',r1,r2,r3,⟨a,c,rfl⟩,r5⟩ := push_row (P := TrX n (g + 1)) (t := 67) (more := []) Tryz.underlying67 infoTr rfl (by decide) h2' hA (hx.base hB) h5 h6 (fun _ _ _ _ hp hs => hp.sm hs) BZ hn (by decide) (Nat.le_trans hB hb.size);rw [List.nil_append] at r3;have hbv : ∀ q ∈ blkOf vt,g + 1 ≤ q := fun q hq => (own_lt h2.own (mem_blkOf.1 hq)).1
 have hgn : g ∉ blkOf vt := fun e => by have := hbv _ e; omega
 have k5 : Kp (fun q => q = g) W' (W'.setCell ⟨g,1,none⟩ (.slice a (xs.length + 1) c)) := by
  refine Kp.setCell ?_ (fun _ => by simp) _;exact Kp.refl _ _
 have B' := (h1.below hb).kp r5 hgn;refine ⟨a,c,W',r1,B',⟨B'.set 1 _ rfl,_,_,r2.sm (k5.sm fun q hq => ⟨(r3.2 q hq).2,fun e => by have := (r3.2 q hq).1; omega⟩) (fun _ _ _ hp hs => hp.sm hs),r3.mono k5.size⟩,r5.weak fun q _ hq => hbv q hq,?_⟩;refine ((Kp.ofBelow hb).trans2 (r5.weak (S' := fun q => g ≤ q) fun q _ hq => by have := hbv q hq; omega) fun _ _ hi => hi).trans2 (k5.weak (S' := fun q => g ≤ q) fun q _ hq => by omega) fun _ _ hi => hi
theorem SeeS.push (h : SeeS n bt ve es w0) (hb : Below w0.heap.size w0 W) (hy : SeeY n g tag vt xs W) (hg : w0.heap.size ≤ g) (h64 : Is64 tag) (BZ : Blk W bz #[.int .i64 tag,vt] 69) (hn : es.length ≤ 1000) :
  ∃ a c W',(Builtin.append_ #[27,27] 27 #[ve,.slice (some ⟨bz,0,none⟩) 1 1]).run Tryz.prog W = .ok (.slice a (es.length + 1) c) W' ∧ Blk W' bt #[.int .i64 3,.int .i64 0,.string ⟨#[]⟩,ve,.slice none 0 0] 30 ∧
   SeeS n bt (.slice a (es.length + 1) c) (es ++ [(tag,xs)]) (W'.setCell ⟨bt,3,none⟩ (.slice a (es.length + 1) c)) ∧ Kp (fun q => bt < q) W W' ∧ Kp (fun q => bt ≤ q) w0 (W'.setCell ⟨bt,3,none⟩ (.slice a (es.length + 1) c)) := by
 have hbt := h.size;obtain ⟨h1,rows,bss,h2,h3⟩ := h;obtain ⟨y1,rowsY,bssY,y2,y3⟩ := hy;have hB : bt + 1 ≤ w0.heap.size := hbt;obtain ⟨ya,yc,yv⟩ := own_form y2.own
 have hA : Apt (bt + 1) W ([] ++ (allB ve bss ++ allB vt bssY)) := by
  rw [List.nil_append];exact h3.append (y3.base (B' := g) (by omega)) (by omega) hg hb.size
 have h2' := h2.sm (Sm.below hb fun k hk => (h3.2 k hk).2) fun _ _ _ hp hs => EtX.sm hp hs
 have hE : EtO (TrX n (bt + 1)) (bt + 1) W [.int .i64 tag,vt] (tag,xs) (allB vt bssY) := ⟨vt,rowsY,bssY,rfl,h64,y2.base (by omega) fun _ _ _ hp => hp.base (by omega),rfl⟩
 obtain ⟨v',W',r1,r2,r3,⟨a,c,rfl⟩,r5⟩ := push_row (P := EtO (TrX n (bt + 1)) (bt + 1)) (t := 27) (more := []) Tryz.underlying27 infoEt rfl (by decide) h2' hA hE rfl (fun u hu => by
  simp only [List.mem_cons,List.not_mem_nil,or_false] at hu
  rcases hu with rfl | rfl
  ·rfl
  ·rw [yv]; rfl) (fun _ _ _ _ hp hs => EtX.sm hp hs) BZ hn (by decide) (Nat.le_trans hB hb.size)
 rw [List.nil_append] at r3;have hbv : ∀ q ∈ blkOf ve,bt + 1 ≤ q := fun q hq => (own_lt h2.own (mem_blkOf.1 hq)).1
 have hgn : bt ∉ blkOf ve := fun e => by have := hbv _ e; omega
 have k5 : Kp (fun q => q = bt) W' (W'.setCell ⟨bt,3,none⟩ (.slice a (es.length + 1) c)) := by
  refine Kp.setCell ?_ (fun _ => by simp) _;exact Kp.refl _ _
 have B' := (h1.below hb).kp r5 hgn;refine ⟨a,c,W',r1,B',⟨B'.set 3 _ rfl,_,_,r2.sm (k5.sm fun q hq => ⟨(r3.2 q hq).2,fun e => by have := (r3.2 q hq).1; omega⟩) (fun _ _ _ hp hs => EtX.sm hp hs),r3.mono k5.size⟩,r5.weak fun q _ hq => hbv q hq,?_⟩;refine ((Kp.ofBelow hb).trans2 (r5.weak (S' := fun q => bt ≤ q) fun q _ hq => by have := hbv q hq; omega) fun _ _ hi => hi).trans2 (k5.weak (S' := fun q => bt ≤ q) fun q _ hq => by omega) fun _ _ hi => hi
theorem SeeS.done (h : SeeS n bt ve es w) : ∃ bs,TrX (n + 1) (bt + 1) w [.int .i64 3,.int .i64 0,.string ⟨#[]⟩,ve,.slice none 0 0] ⟨3,0,⟨#[]⟩,es,[]⟩ bs ∧ Apt (bt + 1) w bs := by
 obtain ⟨h1,rows,bss,h2,h3⟩ := h;exact ⟨allB ve bss,.inr ⟨ve,rows,bss,rfl,by simp only; unfold Is64; omega,by simp only; unfold Is64; omega,by simp only; decide,rfl,h2,rfl⟩,h3⟩
theorem SeeY.first {a : Option Addr} {l c : Nat} (h : SeeY n g tag (.slice a l c) xs w) (hx : xs[0]? = some x) : ∃ q,a = some ⟨q,0,none⟩ ∧ g < q ∧ ∃ a1 n1 c1 a2 n2 c2,n1 = x.es.length ∧ n2 = x.rest.length ∧ w.cell? ⟨q,0,none⟩ = some (.int .i64 x.kind) ∧ w.cell? ⟨q,1,none⟩ = some (.int .i64 x.n) ∧ w.cell? ⟨q,2,none⟩ = some (.string x.s) ∧ w.cell? ⟨q,3,none⟩ = some (.slice a1 n1 c1) ∧ w.cell? ⟨q,4,none⟩ = some (.slice a2 n2 c2) := by
 obtain ⟨h1,rows,bss,h2,h3⟩ := h;obtain ⟨r,b,e1,e2,e3⟩ := h2.each 0 x hx;have hg := (RowG.own h2.wide (by decide) h2.own).1
 rcases h2.own.2 with ⟨e,h0⟩ | ⟨q,cap,cur,e,g2,g3, -⟩
 ·have : xs = [] := List.eq_nil_of_length_eq_zero h0;rw [this] at hx; cases hx
 ·simp only [Value.slice.injEq] at e;obtain ⟨rfl,rfl,rfl⟩ := e;obtain ⟨g',off,f1,hc⟩ := hg.get e1;simp only [Option.some.injEq,Addr.mk.injEq,and_true] at f1;obtain ⟨rfl,rfl⟩ := f1;have hC := e3.trC
  cases n with
  | zero => exact hC.elim
  | succ n =>
   obtain ⟨ve,vr,k1, -, -, -, -,k5,k6⟩ := hC;obtain ⟨ae,ce,rfl, -⟩ := k6.open;obtain ⟨ar,cr,rfl, -⟩ := (show RowG w vr 4 (fdRows x.rest) from k5).form;subst k1;have c0 := hc 0 _ rfl;have c1 := hc 1 _ rfl;have c2 := hc 2 _ rfl;have c3 := hc 3 _ rfl;have c4 := hc 4 _ rfl;simp only [Nat.zero_add,Nat.add_zero,Nat.zero_mul] at c0 c1 c2 c3 c4;exact ⟨q,rfl,g2,_,_,_,_,_,_,rfl,by simp [fdRows],c0,c1,c2,c3,c4⟩
end
end
section
section
variable {M : ByteArray → Tr → Tr} {fs : List FlS} {t : Int} {l : List Tr} {f : FlS}
theorem entP_bad {X : Option FlS} {Y : FlS} {b : Bool} (hX : fldOf fs t = X) (hY : X = none ∧ b = false ∨ X = some Y ∧ b = true) (h : (b && l.all (pfitB Y)) = false) : entP M fs (t,l) = none := by
 rcases hY with ⟨rfl,rfl⟩ | ⟨rfl,rfl⟩
 ·simp only [entP,hX]
 ·rw [Bool.true_and] at h;simp only [entP,hX,h,Bool.false_eq_true,if_false]
theorem entP_zero (hX : fldOf fs t = some f) (h : l.all (pfitB f) = true) (hz : f.label = 1 ∧ zroB (((lastP f l).map (oneP M f)).headD tr0) = true) : entP M fs (t,l) = none := by
 simp only [entP,hX,h,if_true,if_pos hz]
theorem entP_good (hX : fldOf fs t = some f) (h : l.all (pfitB f) = true) (hz : ¬ (f.label = 1 ∧ zroB (((lastP f l).map (oneP M f)).headD tr0) = true)) : entP M fs (t,l) = some (f.tag,(lastP f l).map (oneP M f)) := by
 simp only [entP,hX,h,if_true,if_neg hz]
end
theorem take_fm {α β : Type} {l : List α} {g : α → Option β} {i : Nat} {x : α} (h : l[i]? = some x) : (l.take (i + 1)).filterMap g = (l.take i).filterMap g ++ (g x).toList := by
 rw [List.take_add_one,h,List.filterMap_append]
 congr 1
theorem leafKind {n : Nat} {x : Tr} (h : okN (n + 1) x = true) (hk : x.kind ≠ 3) : x.es = [] ∧ x.rest = [] := by
 simp only [okN,Bool.and_eq_true] at h;have h1 := h.1;unfold lvB at h1
 split at h1
 ·simp only [Bool.and_eq_true,List.isEmpty_iff] at h1;exact ⟨h1.1.2,h1.2⟩
 ·split at h1
  ·simp only [Bool.and_eq_true,List.isEmpty_iff] at h1;exact ⟨h1.1.2,h1.2⟩
  ·first | (rw [if_neg hk] at h1; cases h1) | cases h1
theorem msg_ents {n : Nat} {t : Tr} (h : okN (n + 1) t = true) (hk : t.kind = 3) : entsB 0 t.es = true ∧ ∀ e ∈ t.es,∀ x ∈ e.2,okN n x = true := by
 simp only [okN,Bool.and_eq_true,if_pos hk] at h;obtain ⟨h2,h3⟩ := h;refine ⟨?_,fun e he x hx => List.all_eq_true.1 h3 x (mem_subs.2 ⟨e,he,hx⟩)⟩;unfold lvB at h2;rw [if_neg (by rw [hk]; decide),if_neg (by rw [hk]; decide),if_pos hk] at h2;simp only [Bool.and_eq_true] at h2;exact h2.1.2
theorem pfit_kind {f : FlS} {x : Tr} (h : pfitB f x = true) : x.kind = kindT f.kind := by
 simp only [pfitB,Bool.and_eq_true,decide_eq_true_eq] at h;exact h.1
theorem fld_kinds {s : ScS} (hks : ∀ nm m,msgOf s nm = some m → ∀ f ∈ m.fields,1 ≤ f.kind ∧ f.kind ≤ 7) {nm : ByteArray} {t : Int} {f : FlS} (h : fldOf ((msgOf s nm).getD zMs).fields t = some f) : 1 ≤ f.kind ∧ f.kind ≤ 7 := by
 have hm := (fldP h).2
 cases hq : msgOf s nm with
 | none => rw [hq] at hm; cases hm
 | some m => rw [hq] at hm; exact hks nm m hq f hm
end
section
open Go.ChangeShapes Go.WideShapes Go.ChangeAt Go.RowKit
theorem rclamp_any (n : Int) (w : World) : Calls Tryz.prog 14 #[.int .i64 n] w fun e w' => e = .returned (.int .i64 (clampI n)) ∧ Below w.heap.size w w' := by
 have hb : Below w.heap.size w w := Below.refl _ _;obtain ⟨K,hK⟩ : ∃ K,clampI n = K := ⟨_,rfl⟩;have HK : Hid (clampI n = K) := hK;rw [hK];clear hK
 go_enter Tryz.func14,Tryz.ntmps14
 go_wp2_with fail
 all_goals
  go_ret;refine ⟨congrArg (fun z : Int => Ending.returned (Value.int .i64 z)) ?_,hb⟩;rw [← HK.out,clampI]
  repeat (first | omega | split at * | split)
end
section
open Go.ChangeShapes Go.WideShapes Go.ChangeAt Go.RowKit Go.Maps
theorem r7messageW_any {w0 w : World} {snm nm : ByteArray} {ae at' : Option Addr} {E ce T ct : Nat} {vm : Value} {ms : List MsS} (hw0 : Below w0.heap.size w0 w) (hr : MsIn w0 vm ms) :
  Calls Tryz.prog 25 #[.agg #[.string snm,vm,.slice ae E ce,.slice at' T ct],.string nm] w fun e w' => ∃ vf vr,e = .returned (.tuple #[.agg #[.string ((ms.find? (fun m => decide (m.name = nm))).getD zeroM).name,vf,vr],.bool (ms.find? (fun m => decide (m.name = nm))).isSome]) ∧ RowG w0 vf 5 (flRows ((ms.find? (fun m => decide (m.name = nm))).getD zeroM).fields) ∧ RowG w0 vr 1 (inRows ((ms.find? (fun m => decide (m.name = nm))).getD zeroM).reserved) ∧ Below w.heap.size w w' := by
 obtain ⟨a,c,rfl,q1,q2⟩ := hr.form2;have HR : Hid (MsIn w0 (.slice a ms.length c) ms) := hr;obtain ⟨N,hN⟩ : ∃ N,ms.length = N := ⟨_,rfl⟩;rw [hN] at HR q1 ⊢;have HN : Hid (ms.length = N) := hN;clear hN hr;obtain ⟨A,hA⟩ : ∃ A,(ms.find? (fun m => decide (m.name = nm))) = A := ⟨_,rfl⟩;rw [hA];have HA : Hid (A = ((ms.drop 0).find? (fun m => decide (m.name = nm)))) := hA.symm;clear hA;have BX0 : Blk ((w.alloc (.cells #[.string snm,.slice a N c,.slice ae E ce,.slice at' T ct] 26)).alloc (.cells #[.string ⟨#[]⟩,.slice none 0 0,.slice none 0 0] 52)) w.heap.size #[.string snm,.slice a N c,.slice ae E ce,.slice at' T ct] 26 := (Blk.new w _ _).below ((Below.refl _ _).alloc (Nat.le_refl _) _)
 have BR0 : Blk ((w.alloc (.cells #[.string snm,.slice a N c,.slice ae E ce,.slice at' T ct] 26)).alloc (.cells #[.string ⟨#[]⟩,.slice none 0 0,.slice none 0 0] 52)) (w.heap.size + 1) #[.string ⟨#[]⟩,.slice none 0 0,.slice none 0 0] 52 := by
  have := Blk.new (w.alloc (.cells #[.string snm,.slice a N c,.slice ae E ce,.slice at' T ct] 26)) #[.string ⟨#[]⟩,.slice none 0 0,.slice none 0 0] 52
  rwa [show (w.alloc (.cells #[.string snm,.slice a N c,.slice ae E ce,.slice at' T ct] 26)).heap.size = w.heap.size + 1 by simp] at this
 have hb0 : Below w.heap.size w ((w.alloc (.cells #[.string snm,.slice a N c,.slice ae E ce,.slice at' T ct] 26)).alloc (.cells #[.string ⟨#[]⟩,.slice none 0 0,.slice none 0 0] 52)) := ((Below.refl _ _).alloc (Nat.le_refl _) _).alloc (by simp) _
 go_enter Tryz.func25,Tryz.ntmps25
 go_wp2_with fail
 go_loopw [6] (fun iv wr => ∃ k : Nat,iv = .int .i64 (k : Int) ∧ k ≤ N ∧ Hid (A = ((ms.drop k).find? (fun m => decide (m.name = nm)))) ∧ Below w.heap.size w wr ∧ Blk wr (w.heap.size + 1) #[.string ⟨#[]⟩,.slice none 0 0,.slice none 0 0] 52 ∧ Blk wr w.heap.size #[.string snm,.slice a N c,.slice ae E ce,.slice at' T ct] 26) (fun iv _ => N - (intOf iv).toNat)
 case atStart => exact ⟨0,rfl,by omega,HA,hb0,BR0,BX0⟩
 case round =>
  obtain ⟨k,rfl,hk,HAk,hbel,BR,BX⟩ := hrel;clear BX0 BR0 hb0;have hlt2 : w.heap.size + 1 < wr.heap.size := BR.lt;have r0 := (BR.cell 0).trans rfl;have z0 := BR.froz 0;have r1 := (BR.cell 1).trans rfl;have z1 := BR.froz 1;have r2 := (BR.cell 2).trans rfl;have z2 := BR.froz 2;have x1 : wr.cell? ⟨w.heap.size,1,none⟩ = some (.slice a N c) := BX.cell 1
  by_cases hlt : k < N
  ·obtain ⟨f,hf⟩ : ∃ n,ms[k]? = some n := ⟨_,List.getElem?_eq_getElem (by rw [HN.out]; exact hlt)⟩;obtain ⟨g,off,vf,vr,rfl,c0',c1',c2',hrf,hrr⟩ := HR.out.get hf;have c0 := ((hw0.trans (hbel.mono hw0.size)).cell (World.block_lt_of_cell? _ _ c0')).trans c0';have c1 := ((hw0.trans (hbel.mono hw0.size)).cell (World.block_lt_of_cell? _ _ c1')).trans c1';have c2 := ((hw0.trans (hbel.mono hw0.size)).cell (World.block_lt_of_cell? _ _ c2')).trans c2';clear c0' c1' c2';have HF : Hid (RowG w0 vf 5 (flRows f.fields)) := hrf;have HV : Hid (RowG w0 vr 1 (inRows f.reserved)) := hrr;obtain ⟨a3,c3,rfl,_,_⟩ := hrf.form2;obtain ⟨a4,c4,rfl,_,_⟩ := hrr.form2;have HF : Hid (RowG w0 (.slice a3 (flRows f.fields).length c3) 5 (flRows f.fields)) := HF;have HV : Hid (RowG w0 (.slice a4 (inRows f.reserved).length c4) 1 (inRows f.reserved)) := HV
   have HA2 : Hid (A = if decide (f.name = nm) = true then some f else ((ms.drop (k + 1)).find? (fun m => decide (m.name = nm)))) := by
    show _ = _
    rw [HAk.out,drop_at hf,List.find?_cons]
    cases decide (f.name = nm) <;> rfl
   obtain ⟨f0,ff,fr⟩ := f;simp only at c0 c1 c2 HA2 HF HV;generalize hnF : (flRows ff).length = nF at *;generalize hnR : (inRows fr).length = nR at *;clear hrf hrr hf HAk hnF hnR
   by_cases he : f0 = nm
   ·subst he
    have HA3 : Hid (A = some ⟨f0,ff,fr⟩) := by show _ = _; rw [HA2.out,if_pos (by simp)]
    clear HA2;go_wp2_with fail;refine bodyPost_ret (results_two rfl _ _ _ ⟨w.heap.size + 1,0,none⟩ (.agg #[.string f0,.slice a3 nF c3,.slice a4 nR c4]) (by go_simp) (by go_simp)) rfl ?_;refine ⟨.slice a3 nF c3,.slice a4 nR c4,ret_two (by rw [HA3.out]; rfl) (by rw [HA3.out]; rfl),?_,?_,(Below.setCell (Below.setCell (Below.setCell hbel (by simp) _) (by simp) _) (by simp) _)⟩
    ·rw [HA3.out]; exact HF.out
    ·rw [HA3.out]; exact HV.out
   ·have hq := bytes_ne he
    have HA3 : Hid (A = ((ms.drop (k + 1)).find? (fun m => decide (m.name = nm)))) := by show _ = _; rw [HA2.out,if_neg (by simpa using he)]
    go_wp2_with fail
    go_roundw
    case rel => exact ⟨k + 1,by go_num,by omega,HA3,hbel,BR,BX⟩
    case measure => simp [intOf]; omega
  ·have HA2 : Hid (A = none) := by show _ = _; rw [HAk.out,drop_end (by rw [HN.out]; omega)]; rfl
   go_wp2_with fail;refine bodyPost_ret (results_two rfl _ _ _ ⟨w.heap.size + 1,0,none⟩ (.agg #[.string ⟨#[]⟩,.slice none 0 0,.slice none 0 0]) (by go_simp) (by go_simp)) rfl ?_;exact ⟨.slice none 0 0,.slice none 0 0,ret_two (by rw [HA2.out]; rfl) (by rw [HA2.out]; rfl),by rw [HA2.out]; exact RowG.nil _ _,by rw [HA2.out]; exact RowG.nil _ _,(Below.setCell (Below.setCell (Below.setCell hbel (by simp) _) (by simp) _) (by simp) _)⟩
end
section
open Go.ChangeShapes Go.WideShapes Go.ChangeAt Go.RowKit
theorem rpone_step (n : Nat) {s : ScS} (sn : ByteArray) (ma ea ta : Option Addr) (mn mc en ec tn tc : Nat) (x : Tr) (K N : Int) (S : ByteArray) (a1 a2 : Option Addr) (n1 c1 n2 c2 : Nat) (y1 : ByteArray) (y2 y3 y4 : Int) (y5 : ByteArray) (w : World)
  (hms : MsIn w (.slice ma mn mc) s.msgs) (hx : TrC n w [.int .i64 K,.int .i64 N,.string S,.slice a1 n1 c1,.slice a2 n2 c2] x) (hl : x.kind ≠ 3 → x.es = [] ∧ x.rest = []) (hfit : x.kind = kindT y4) (hk : 1 ≤ y4 ∧ y4 ≤ 7)
  (IM : x.kind = 3 → ∀ (W : World) (qn : ByteArray) (vf vr : Value),Below w.heap.size w W → RowG W vf 5 (flRows ((msgOf s y5).getD zMs).fields) → RowG W vr 1 (inRows ((msgOf s y5).getD zMs).reserved) → Calls Tryz.prog 27 #[.agg #[.string sn,.slice ma mn mc,.slice ea en ec,.slice ta tn tc],.agg #[.string qn,vf,vr],.agg #[.int .i64 K,.int .i64 N,.string S,.slice a1 n1 c1,.slice a2 n2 c2]] W (SeeP n (prM n s y5 x) W)) :
  Calls Tryz.prog 51 #[.agg #[.string sn,.slice ma mn mc,.slice ea en ec,.slice ta tn tc],.agg #[.string y1,.int .i64 y2,.int .i64 y3,.int .i64 y4,.string y5],.agg #[.int .i64 K,.int .i64 N,.string S,.slice a1 n1 c1,.slice a2 n2 c2]] w (SeeP n (oneP (prM n s) (⟨y1,y2,y3,y4,y5⟩ : FlS) x) w) := by
 cases n with
 | zero => exact hx.elim
 | succ n =>
  have hLf : x.kind ≠ 3 → LeafX [.int .i64 K,.int .i64 N,.string S,.slice a1 n1 c1,.slice a2 n2 c2] x := fun h => leafX_of hx (hl h).1 (hl h).2
  have hxc : x.kind = K ∧ x.n = N ∧ x.s = S := by
   obtain ⟨ve,vr,e, -⟩ := hx;simp only [List.cons.injEq,Value.int.injEq,Value.string.injEq,true_and] at e;exact ⟨e.1.symm,e.2.1.symm,e.2.2.1.symm⟩
  have HLF : Hid (x.kind ≠ 3 → LeafX [.int .i64 K,.int .i64 N,.string S,.slice a1 n1 c1,.slice a2 n2 c2] x) := hLf;have HX : Hid (x.kind = K ∧ x.n = N ∧ x.s = S) := hxc;have HMS : Hid (MsIn w (.slice ma mn mc) s.msgs) := hms;have HFT : Hid (x.kind = kindT y4) := hfit;have HIM : Hid (x.kind = 3 → ∀ (W : World) (qn : ByteArray) (vf vr : Value),Below w.heap.size w W → RowG W vf 5 (flRows ((msgOf s y5).getD zMs).fields) → RowG W vr 1 (inRows ((msgOf s y5).getD zMs).reserved) → Calls Tryz.prog 27 #[.agg #[.string sn,.slice ma mn mc,.slice ea en ec,.slice ta tn tc],.agg #[.string qn,vf,vr],.agg #[.int .i64 K,.int .i64 N,.string S,.slice a1 n1 c1,.slice a2 n2 c2]] W (SeeP (n + 1) (prM (n + 1) s y5 x) W)) := IM;clear hx hl hLf hxc hms hfit IM;obtain ⟨R,hR⟩ : ∃ R,oneP (prM (n + 1) s) (⟨y1,y2,y3,y4,y5⟩ : FlS) x = R := ⟨_,rfl⟩;have HR : Hid (oneP (prM (n + 1) s) (⟨y1,y2,y3,y4,y5⟩ : FlS) x = R) := hR;rw [hR];clear hR;obtain ⟨BS,BF,BT,BR,hbw⟩ := pblk4 w #[.string sn,.slice ma mn mc,.slice ea en ec,.slice ta tn tc] #[.string y1,.int .i64 y2,.int .i64 y3,.int .i64 y4,.string y5] #[.int .i64 K,.int .i64 N,.string S,.slice a1 n1 c1,.slice a2 n2 c2] #[.int .i64 0,.int .i64 0,.string ⟨#[]⟩,.slice none 0 0,.slice none 0 0] 26 56 30 30
  go_enter Tryz.func51,Tryz.ntmps51
  go_upto_region 1 with fail
  have hsw : w.heap.size < ((((w.alloc (Obj.cells #[.string sn,.slice ma mn mc,.slice ea en ec,.slice ta tn tc] 26)).alloc (Obj.cells #[.string y1,.int .i64 y2,.int .i64 y3,.int .i64 y4,.string y5] 56)).alloc (Obj.cells #[.int .i64 K,.int .i64 N,.string S,.slice a1 n1 c1,.slice a2 n2 c2] 30)).alloc (Obj.cells #[.int .i64 0,.int .i64 0,.string ⟨#[]⟩,.slice none 0 0,.slice none 0 0] 30)).heap.size := by simp; omega
  generalize ((((w.alloc (Obj.cells #[.string sn,.slice ma mn mc,.slice ea en ec,.slice ta tn tc] 26)).alloc (Obj.cells #[.string y1,.int .i64 y2,.int .i64 y3,.int .i64 y4,.string y5] 56)).alloc (Obj.cells #[.int .i64 K,.int .i64 N,.string S,.slice a1 n1 c1,.slice a2 n2 c2] 30)).alloc (Obj.cells #[.int .i64 0,.int .i64 0,.string ⟨#[]⟩,.slice none 0 0,.slice none 0 0] 30)) = WA at *;obtain ⟨b0,hb0⟩ : ∃ z,w.heap.size = z := ⟨_,rfl⟩;have HBZ : Hid (w.heap.size = b0) := hb0;rw [hb0] at BS BF BT BR;simp only [hb0]
  have hc : y4 = 1 ∨ y4 = 2 ∨ y4 = 3 ∨ y4 = 6 ∨ y4 = 4 ∨ y4 = 5 ∨ y4 = 7 := by omega
  clear hk
  rcases hc with rfl | rfl | rfl | rfl | rfl | rfl | rfl
  ·skip
   have FIN : Hid (∀ (W : World) (x0 x1 x2 x3 x4 : Value) (bs : List Nat),Below WA.heap.size WA W → TrX (n + 1) w.heap.size W [x0,x1,x2,x3,x4] R bs → Apt w.heap.size W bs → b0 + 3 ∉ bs → SeeP (n + 1) R w (.returned (.agg #[x0,x1,x2,x3,x4])) (set5 W (b0 + 3) 0 x0 x1 x2 x3 x4)) := fun W x0 x1 x2 x3 x4 bs hW h1 h2 h3 => SeeP.done (hbw.trans (hW.mono hbw.size)) (by have := HBZ.out; omega) h1 h2 h3
   have BF0 := BF.below (Below.refl _ WA);have f0 := (BF0.cell 0).trans rfl;have f1 := (BF0.cell 1).trans rfl;have f2 := (BF0.cell 2).trans rfl;have f3 := (BF0.cell 3).trans rfl;have f4 := (BF0.cell 4).trans rfl;clear BF0;have BT0 := BT.below (Below.refl _ WA);have q0 := (BT0.cell 0).trans rfl;have q1 := (BT0.cell 1).trans rfl;have q2 := (BT0.cell 2).trans rfl;have q3 := (BT0.cell 3).trans rfl;have q4 := (BT0.cell 4).trans rfl;clear BT0;have BR0 := BR.below (Below.refl _ WA);have t0 := (BR0.cell 0).trans rfl;have t1 := (BR0.cell 1).trans rfl;have t2 := (BR0.cell 2).trans rfl;have t3 := (BR0.cell 3).trans rfl;have t4 := (BR0.cell 4).trans rfl;have z0 := BR0.froz 0;have z1 := BR0.froz 1;have z2 := BR0.froz 2;have z3 := BR0.froz 3;have z4 := BR0.froz 4;clear BR0;go_wp2_with fail;refine (rclamp_any N _).mono ?_;rintro ee W1 ⟨rfl,hW1⟩;clear f0 f1 f2 f3 f4 q0 q1 q2 q3 q4 t0 t1 t2 t3 t4 z0 z1 z2 z3 z4;have BR1 := BR.below hW1;have t0 := (BR1.cell 0).trans rfl;have t1 := (BR1.cell 1).trans rfl;have t2 := (BR1.cell 2).trans rfl;have t3 := (BR1.cell 3).trans rfl;have t4 := (BR1.cell 4).trans rfl;have z0 := BR1.froz 0;have z1 := BR1.froz 1;have z2 := BR1.froz 2;have z3 := BR1.froz 3;have z4 := BR1.froz 4;clear BR1;have hI := clampI_in N
   have HL : Hid (TrX (n + 1) w.heap.size W1 [.int .i64 1,.int .i64 (clampI N),.string ⟨#[]⟩,.slice none 0 0,.slice none 0 0] R []) := (by
    refine .inl ⟨?_,rfl⟩
    have h1 : R = ⟨1,clampI N,⟨#[]⟩,[],[]⟩ := by rw [← HR.out,← HX.out.2.1]; rfl
    rw [h1]
    exact LeafX.nilX (t := ⟨1,clampI N,⟨#[]⟩,[],[]⟩) (by simp only; unfold Is64; omega) (by simp only; unfold Is64; omega) (by simp only; decide) rfl rfl : TrX _ _ _ _ _ _)
   clear hI;go_wp2_with fail;refine bodyPost_ret (results_cell rfl _ _ _ ⟨b0 + 3,0,none⟩ (.agg #[.int .i64 1,.int .i64 (clampI N),.string ⟨#[]⟩,.slice none 0 0,.slice none 0 0]) (by go_simp) (by go_simp)) rfl ?_;exact FIN.out W1 _ _ _ _ _ [] hW1 HL.out (Apt.nil _ _) (by simp)
  ·skip
   have FIN : Hid (∀ (W : World) (x0 x1 x2 x3 x4 : Value) (bs : List Nat),Below WA.heap.size WA W → TrX (n + 1) w.heap.size W [x0,x1,x2,x3,x4] R bs → Apt w.heap.size W bs → b0 + 3 ∉ bs → SeeP (n + 1) R w (.returned (.agg #[x0,x1,x2,x3,x4])) (set5 W (b0 + 3) 0 x0 x1 x2 x3 x4)) := fun W x0 x1 x2 x3 x4 bs hW h1 h2 h3 => SeeP.done (hbw.trans (hW.mono hbw.size)) (by have := HBZ.out; omega) h1 h2 h3
   have BF0 := BF.below (Below.refl _ WA);have f0 := (BF0.cell 0).trans rfl;have f1 := (BF0.cell 1).trans rfl;have f2 := (BF0.cell 2).trans rfl;have f3 := (BF0.cell 3).trans rfl;have f4 := (BF0.cell 4).trans rfl;clear BF0;have BT0 := BT.below (Below.refl _ WA);have q0 := (BT0.cell 0).trans rfl;have q1 := (BT0.cell 1).trans rfl;have q2 := (BT0.cell 2).trans rfl;have q3 := (BT0.cell 3).trans rfl;have q4 := (BT0.cell 4).trans rfl;clear BT0;have BR0 := BR.below (Below.refl _ WA);have t0 := (BR0.cell 0).trans rfl;have t1 := (BR0.cell 1).trans rfl;have t2 := (BR0.cell 2).trans rfl;have t3 := (BR0.cell 3).trans rfl;have t4 := (BR0.cell 4).trans rfl;have z0 := BR0.froz 0;have z1 := BR0.froz 1;have z2 := BR0.froz 2;have z3 := BR0.froz 3;have z4 := BR0.froz 4;clear BR0
   have HL : Hid (TrX (n + 1) w.heap.size WA [.int .i64 K,.int .i64 N,.string S,.slice a1 n1 c1,.slice a2 n2 c2] R []) := (by
    have h1 : R = x := by rw [← HR.out]; rfl
    rw [h1]
    exact .inl ⟨HLF.out (by rw [HFT.out]; decide),rfl⟩ : TrX _ _ _ _ _ _)
   go_wp2_with fail;refine bodyPost_ret (results_cell rfl _ _ _ ⟨b0 + 3,0,none⟩ (.agg #[.int .i64 K,.int .i64 N,.string S,.slice a1 n1 c1,.slice a2 n2 c2]) (by go_simp) (by go_simp)) rfl ?_;exact FIN.out WA _ _ _ _ _ [] (Below.refl _ _) HL.out (Apt.nil _ _) (by simp)
  ·skip
   have FIN : Hid (∀ (W : World) (x0 x1 x2 x3 x4 : Value) (bs : List Nat),Below WA.heap.size WA W → TrX (n + 1) w.heap.size W [x0,x1,x2,x3,x4] R bs → Apt w.heap.size W bs → b0 + 3 ∉ bs → SeeP (n + 1) R w (.returned (.agg #[x0,x1,x2,x3,x4])) (set5 W (b0 + 3) 0 x0 x1 x2 x3 x4)) := fun W x0 x1 x2 x3 x4 bs hW h1 h2 h3 => SeeP.done (hbw.trans (hW.mono hbw.size)) (by have := HBZ.out; omega) h1 h2 h3
   have BF0 := BF.below (Below.refl _ WA);have f0 := (BF0.cell 0).trans rfl;have f1 := (BF0.cell 1).trans rfl;have f2 := (BF0.cell 2).trans rfl;have f3 := (BF0.cell 3).trans rfl;have f4 := (BF0.cell 4).trans rfl;clear BF0;have BT0 := BT.below (Below.refl _ WA);have q0 := (BT0.cell 0).trans rfl;have q1 := (BT0.cell 1).trans rfl;have q2 := (BT0.cell 2).trans rfl;have q3 := (BT0.cell 3).trans rfl;have q4 := (BT0.cell 4).trans rfl;clear BT0;have BR0 := BR.below (Below.refl _ WA);have t0 := (BR0.cell 0).trans rfl;have t1 := (BR0.cell 1).trans rfl;have t2 := (BR0.cell 2).trans rfl;have t3 := (BR0.cell 3).trans rfl;have t4 := (BR0.cell 4).trans rfl;have z0 := BR0.froz 0;have z1 := BR0.froz 1;have z2 := BR0.froz 2;have z3 := BR0.froz 3;have z4 := BR0.froz 4;clear BR0
   have HL : Hid (TrX (n + 1) w.heap.size WA [.int .i64 K,.int .i64 N,.string S,.slice a1 n1 c1,.slice a2 n2 c2] R []) := (by
    have h1 : R = x := by rw [← HR.out]; rfl
    rw [h1]
    exact .inl ⟨HLF.out (by rw [HFT.out]; decide),rfl⟩ : TrX _ _ _ _ _ _)
   go_wp2_with fail;refine bodyPost_ret (results_cell rfl _ _ _ ⟨b0 + 3,0,none⟩ (.agg #[.int .i64 K,.int .i64 N,.string S,.slice a1 n1 c1,.slice a2 n2 c2]) (by go_simp) (by go_simp)) rfl ?_;exact FIN.out WA _ _ _ _ _ [] (Below.refl _ _) HL.out (Apt.nil _ _) (by simp)
  ·skip
   have FIN : Hid (∀ (W : World) (x0 x1 x2 x3 x4 : Value) (bs : List Nat),Below WA.heap.size WA W → TrX (n + 1) w.heap.size W [x0,x1,x2,x3,x4] R bs → Apt w.heap.size W bs → b0 + 3 ∉ bs → SeeP (n + 1) R w (.returned (.agg #[x0,x1,x2,x3,x4])) (set5 W (b0 + 3) 0 x0 x1 x2 x3 x4)) := fun W x0 x1 x2 x3 x4 bs hW h1 h2 h3 => SeeP.done (hbw.trans (hW.mono hbw.size)) (by have := HBZ.out; omega) h1 h2 h3
   have BF0 := BF.below (Below.refl _ WA);have f0 := (BF0.cell 0).trans rfl;have f1 := (BF0.cell 1).trans rfl;have f2 := (BF0.cell 2).trans rfl;have f3 := (BF0.cell 3).trans rfl;have f4 := (BF0.cell 4).trans rfl;clear BF0;have BT0 := BT.below (Below.refl _ WA);have q0 := (BT0.cell 0).trans rfl;have q1 := (BT0.cell 1).trans rfl;have q2 := (BT0.cell 2).trans rfl;have q3 := (BT0.cell 3).trans rfl;have q4 := (BT0.cell 4).trans rfl;clear BT0;have BR0 := BR.below (Below.refl _ WA);have t0 := (BR0.cell 0).trans rfl;have t1 := (BR0.cell 1).trans rfl;have t2 := (BR0.cell 2).trans rfl;have t3 := (BR0.cell 3).trans rfl;have t4 := (BR0.cell 4).trans rfl;have z0 := BR0.froz 0;have z1 := BR0.froz 1;have z2 := BR0.froz 2;have z3 := BR0.froz 3;have z4 := BR0.froz 4;clear BR0
   have HL : Hid (TrX (n + 1) w.heap.size WA [.int .i64 K,.int .i64 N,.string S,.slice a1 n1 c1,.slice a2 n2 c2] R []) := (by
    have h1 : R = x := by rw [← HR.out]; rfl
    rw [h1]
    exact .inl ⟨HLF.out (by rw [HFT.out]; decide),rfl⟩ : TrX _ _ _ _ _ _)
   go_wp2_with fail;refine bodyPost_ret (results_cell rfl _ _ _ ⟨b0 + 3,0,none⟩ (.agg #[.int .i64 K,.int .i64 N,.string S,.slice a1 n1 c1,.slice a2 n2 c2]) (by go_simp) (by go_simp)) rfl ?_;exact FIN.out WA _ _ _ _ _ [] (Below.refl _ _) HL.out (Apt.nil _ _) (by simp)
  ·skip
   have FIN : Hid (∀ (W : World) (x0 x1 x2 x3 x4 : Value) (bs : List Nat),Below WA.heap.size WA W → TrX (n + 1) w.heap.size W [x0,x1,x2,x3,x4] R bs → Apt w.heap.size W bs → b0 + 3 ∉ bs → SeeP (n + 1) R w (.returned (.agg #[x0,x1,x2,x3,x4])) (set5 W (b0 + 3) 0 x0 x1 x2 x3 x4)) := fun W x0 x1 x2 x3 x4 bs hW h1 h2 h3 => SeeP.done (hbw.trans (hW.mono hbw.size)) (by have := HBZ.out; omega) h1 h2 h3
   have BF0 := BF.below (Below.refl _ WA);have f0 := (BF0.cell 0).trans rfl;have f1 := (BF0.cell 1).trans rfl;have f2 := (BF0.cell 2).trans rfl;have f3 := (BF0.cell 3).trans rfl;have f4 := (BF0.cell 4).trans rfl;clear BF0;have BT0 := BT.below (Below.refl _ WA);have q0 := (BT0.cell 0).trans rfl;have q1 := (BT0.cell 1).trans rfl;have q2 := (BT0.cell 2).trans rfl;have q3 := (BT0.cell 3).trans rfl;have q4 := (BT0.cell 4).trans rfl;clear BT0;have BR0 := BR.below (Below.refl _ WA);have t0 := (BR0.cell 0).trans rfl;have t1 := (BR0.cell 1).trans rfl;have t2 := (BR0.cell 2).trans rfl;have t3 := (BR0.cell 3).trans rfl;have t4 := (BR0.cell 4).trans rfl;have z0 := BR0.froz 0;have z1 := BR0.froz 1;have z2 := BR0.froz 2;have z3 := BR0.froz 3;have z4 := BR0.froz 4;clear BR0
   have HL : Hid (TrX (n + 1) w.heap.size WA [.int .i64 K,.int .i64 N,.string S,.slice a1 n1 c1,.slice a2 n2 c2] R []) := (by
    have h1 : R = x := by rw [← HR.out]; rfl
    rw [h1]
    exact .inl ⟨HLF.out (by rw [HFT.out]; decide),rfl⟩ : TrX _ _ _ _ _ _)
   go_wp2_with fail;refine bodyPost_ret (results_cell rfl _ _ _ ⟨b0 + 3,0,none⟩ (.agg #[.int .i64 K,.int .i64 N,.string S,.slice a1 n1 c1,.slice a2 n2 c2]) (by go_simp) (by go_simp)) rfl ?_;exact FIN.out WA _ _ _ _ _ [] (Below.refl _ _) HL.out (Apt.nil _ _) (by simp)
  ·skip
   have FIN : Hid (∀ (W : World) (x0 x1 x2 x3 x4 : Value) (bs : List Nat),Below WA.heap.size WA W → TrX (n + 1) w.heap.size W [x0,x1,x2,x3,x4] R bs → Apt w.heap.size W bs → b0 + 3 ∉ bs → SeeP (n + 1) R w (.returned (.agg #[x0,x1,x2,x3,x4])) (set5 W (b0 + 3) 0 x0 x1 x2 x3 x4)) := fun W x0 x1 x2 x3 x4 bs hW h1 h2 h3 => SeeP.done (hbw.trans (hW.mono hbw.size)) (by have := HBZ.out; omega) h1 h2 h3
   have BF0 := BF.below (Below.refl _ WA);have f0 := (BF0.cell 0).trans rfl;have f1 := (BF0.cell 1).trans rfl;have f2 := (BF0.cell 2).trans rfl;have f3 := (BF0.cell 3).trans rfl;have f4 := (BF0.cell 4).trans rfl;clear BF0;have BT0 := BT.below (Below.refl _ WA);have q0 := (BT0.cell 0).trans rfl;have q1 := (BT0.cell 1).trans rfl;have q2 := (BT0.cell 2).trans rfl;have q3 := (BT0.cell 3).trans rfl;have q4 := (BT0.cell 4).trans rfl;clear BT0;have BR0 := BR.below (Below.refl _ WA);have t0 := (BR0.cell 0).trans rfl;have t1 := (BR0.cell 1).trans rfl;have t2 := (BR0.cell 2).trans rfl;have t3 := (BR0.cell 3).trans rfl;have t4 := (BR0.cell 4).trans rfl;have z0 := BR0.froz 0;have z1 := BR0.froz 1;have z2 := BR0.froz 2;have z3 := BR0.froz 3;have z4 := BR0.froz 4;clear BR0
   have HL : Hid (TrX (n + 1) w.heap.size WA [.int .i64 K,.int .i64 N,.string S,.slice a1 n1 c1,.slice a2 n2 c2] R []) := (by
    have h1 : R = x := by rw [← HR.out]; rfl
    rw [h1]
    exact .inl ⟨HLF.out (by rw [HFT.out]; decide),rfl⟩ : TrX _ _ _ _ _ _)
   go_wp2_with fail;refine bodyPost_ret (results_cell rfl _ _ _ ⟨b0 + 3,0,none⟩ (.agg #[.int .i64 K,.int .i64 N,.string S,.slice a1 n1 c1,.slice a2 n2 c2]) (by go_simp) (by go_simp)) rfl ?_;exact FIN.out WA _ _ _ _ _ [] (Below.refl _ _) HL.out (Apt.nil _ _) (by simp)
  ·skip
   have FIN : Hid (∀ (W : World) (x0 x1 x2 x3 x4 : Value) (bs : List Nat),Below WA.heap.size WA W → TrX (n + 1) w.heap.size W [x0,x1,x2,x3,x4] R bs → Apt w.heap.size W bs → b0 + 3 ∉ bs → SeeP (n + 1) R w (.returned (.agg #[x0,x1,x2,x3,x4])) (set5 W (b0 + 3) 0 x0 x1 x2 x3 x4)) := fun W x0 x1 x2 x3 x4 bs hW h1 h2 h3 => SeeP.done (hbw.trans (hW.mono hbw.size)) (by have := HBZ.out; omega) h1 h2 h3
   have BS0 := BS.below (Below.refl _ WA);have s0 := (BS0.cell 0).trans rfl;have s1 := (BS0.cell 1).trans rfl;have s2 := (BS0.cell 2).trans rfl;have s3 := (BS0.cell 3).trans rfl;clear BS0;have BF0 := BF.below (Below.refl _ WA);have f0 := (BF0.cell 0).trans rfl;have f1 := (BF0.cell 1).trans rfl;have f2 := (BF0.cell 2).trans rfl;have f3 := (BF0.cell 3).trans rfl;have f4 := (BF0.cell 4).trans rfl;clear BF0;have BT0 := BT.below (Below.refl _ WA);have q0 := (BT0.cell 0).trans rfl;have q1 := (BT0.cell 1).trans rfl;have q2 := (BT0.cell 2).trans rfl;have q3 := (BT0.cell 3).trans rfl;have q4 := (BT0.cell 4).trans rfl;clear BT0;have BR0 := BR.below (Below.refl _ WA);have t0 := (BR0.cell 0).trans rfl;have t1 := (BR0.cell 1).trans rfl;have t2 := (BR0.cell 2).trans rfl;have t3 := (BR0.cell 3).trans rfl;have t4 := (BR0.cell 4).trans rfl;have z0 := BR0.froz 0;have z1 := BR0.froz 1;have z2 := BR0.froz 2;have z3 := BR0.froz 3;have z4 := BR0.froz 4;clear BR0;have HMC : Hid (∀ W,Below w.heap.size w W → Calls Tryz.prog 25 #[.agg #[.string sn,.slice ma mn mc,.slice ea en ec,.slice ta tn tc],.string y5] W fun e w' => ∃ vf vr,e = .returned (.tuple #[.agg #[.string ((msgOf s y5).getD zMs).name,vf,vr],.bool (msgOf s y5).isSome]) ∧ RowG w vf 5 (flRows ((msgOf s y5).getD zMs).fields) ∧ RowG w vr 1 (inRows ((msgOf s y5).getD zMs).reserved) ∧ Below W.heap.size W w') := fun W hW => r7messageW_any (w0 := w) hW HMS.out
   go_wp2_with fail;refine Calls.mono (HMC.out _ hbw) ?_;rintro ee W2 ⟨vf,vr,rfl,hvf,hvr,hb2⟩;have hw2 : Below w.heap.size w W2 := hbw.trans (hb2.mono hbw.size);obtain ⟨fa,fc,rfl, -⟩ := hvf.form;obtain ⟨ra,rc,rfl, -⟩ := hvr.form;obtain ⟨QN,hQN⟩ : ∃ z,((msgOf s y5).getD zMs).name = z := ⟨_,rfl⟩;rw [hQN];obtain ⟨OK,hOK⟩ : ∃ z,(msgOf s y5).isSome = z := ⟨_,rfl⟩;rw [hOK];obtain ⟨FN,hFN⟩ : ∃ z,(flRows ((msgOf s y5).getD zMs).fields).length = z := ⟨_,rfl⟩;obtain ⟨RN,hRN⟩ : ∃ z,(inRows ((msgOf s y5).getD zMs).reserved).length = z := ⟨_,rfl⟩;rw [hFN] at hvf ⊢;rw [hRN] at hvr ⊢;have al3 : Below W2.heap.size W2 (W2.alloc (Obj.cells #[.string QN,.slice fa FN fc,.slice ra RN rc] 52)) := (Below.refl _ _).alloc (Nat.le_refl _) _;have BM := Blk.new W2 #[.string QN,.slice fa FN fc,.slice ra RN rc] 52;have hW3 : Below WA.heap.size WA (W2.alloc (Obj.cells #[.string QN,.slice fa FN fc,.slice ra RN rc] 52)) := hb2.trans (al3.mono hb2.size);have hw3 : Below w.heap.size w (W2.alloc (Obj.cells #[.string QN,.slice fa FN fc,.slice ra RN rc] 52)) := hw2.trans (al3.mono hw2.size)
   have HCC : Hid (Calls Tryz.prog 27 #[.agg #[.string sn,.slice ma mn mc,.slice ea en ec,.slice ta tn tc],.agg #[.string QN,.slice fa FN fc,.slice ra RN rc],.agg #[.int .i64 K,.int .i64 N,.string S,.slice a1 n1 c1,.slice a2 n2 c2]] (W2.alloc (Obj.cells #[.string QN,.slice fa FN fc,.slice ra RN rc] 52)) (SeeP (n + 1) R (W2.alloc (Obj.cells #[.string QN,.slice fa FN fc,.slice ra RN rc] 52)))) := (by
    have h1 := HIM.out (by rw [HFT.out]; rfl) (W2.alloc (Obj.cells #[.string QN,.slice fa FN fc,.slice ra RN rc] 52)) QN _ _ hw3 (hvf.below hw3) (hvr.below hw3)
    have h2 : prM (n + 1) s y5 x = R := by rw [← HR.out]; rfl
    rw [h2] at h1
    exact h1 : Calls Tryz.prog _ _ _ _)
   clear s0 s1 s2 s3 f0 f1 f2 f3 f4 q0 q1 q2 q3 q4 t0 t1 t2 t3 t4 z0 z1 z2 z3 z4;clear hvf hvr hQN hOK hFN hRN HMC;have BS3 := BS.below hW3;have s0 := (BS3.cell 0).trans rfl;have s1 := (BS3.cell 1).trans rfl;have s2 := (BS3.cell 2).trans rfl;have s3 := (BS3.cell 3).trans rfl;clear BS3;have BT3 := BT.below hW3;have q0 := (BT3.cell 0).trans rfl;have q1 := (BT3.cell 1).trans rfl;have q2 := (BT3.cell 2).trans rfl;have q3 := (BT3.cell 3).trans rfl;have q4 := (BT3.cell 4).trans rfl;clear BT3;have BR3 := BR.below hW3;have t0 := (BR3.cell 0).trans rfl;have t1 := (BR3.cell 1).trans rfl;have t2 := (BR3.cell 2).trans rfl;have t3 := (BR3.cell 3).trans rfl;have t4 := (BR3.cell 4).trans rfl;have z0 := BR3.froz 0;have z1 := BR3.froz 1;have z2 := BR3.froz 2;have z3 := BR3.froz 3;have z4 := BR3.froz 4;clear BR3;have m0 := (BM.cell 0).trans rfl;have m1 := (BM.cell 1).trans rfl;have m2 := (BM.cell 2).trans rfl;clear BM;go_wp2_with fail;refine HCC.out.mono ?_;generalize (W2.alloc (Obj.cells #[.string QN,.slice fa FN fc,.slice ra RN rc] 52)) = W3 at *;rintro ee W4 ⟨r,bs,rfl,ht,hap,hb4⟩;obtain ⟨u1,n3,v1,u2,n4,v2,rfl⟩ := ht.open;have hW4 : Below WA.heap.size WA W4 := hW3.trans (hb4.mono hW3.size);have HTT : Hid (TrX (n + 1) w.heap.size W4 [.int .i64 R.kind,.int .i64 R.n,.string R.s,.slice u1 n3 v1,.slice u2 n4 v2] R bs) := ht.base hw3.size;have HAP : Hid (Apt w.heap.size W4 bs) := hap.base hw3.size
   have HNB : Hid (b0 + 3 ∉ bs) := fun e => by have h1 := (hap.2 _ e).1; have h2 := hW3.size; have h3 := BR.lt; omega
   clear s0 s1 s2 s3 q0 q1 q2 q3 q4 t0 t1 t2 t3 t4 z0 z1 z2 z3 z4;clear m0 m1 m2 HCC ht hap hb4 hb2 al3 hw3 hw2;have BR4 := BR.below hW4;have t0 := (BR4.cell 0).trans rfl;have t1 := (BR4.cell 1).trans rfl;have t2 := (BR4.cell 2).trans rfl;have t3 := (BR4.cell 3).trans rfl;have t4 := (BR4.cell 4).trans rfl;have z0 := BR4.froz 0;have z1 := BR4.froz 1;have z2 := BR4.froz 2;have z3 := BR4.froz 3;have z4 := BR4.froz 4;clear BR4;obtain ⟨R1,R2,R3,R4,R5⟩ := R;go_wp2_with fail;refine bodyPost_ret (results_cell rfl _ _ _ ⟨b0 + 3,0,none⟩ (.agg #[.int .i64 R1,.int .i64 R2,.string R3,.slice u1 n3 v1,.slice u2 n4 v2]) (by go_simp) (by go_simp)) rfl ?_;exact FIN.out W4 _ _ _ _ _ bs hW4 HTT.out HAP.out HNB.out
theorem rnumber_any (k n : Int) (nm : ByteArray) (w : World) : Calls Tryz.prog 90 #[.agg #[.int .i64 k,.string nm],.int .i64 n] w fun e w' => e = .returned (.bool (nmrB k n)) ∧ Below w.heap.size w w' := by
 have hb : Below w.heap.size w (w.alloc (Obj.cells #[.int .i64 k,.string nm] 54)) := (Below.refl _ _).alloc (Nat.le_refl _) _
 have kk : k = 3 ∨ k = 6 ∨ k = 1 ∨ k = 2 ∨ (¬ k = 3 ∧ ¬ k = 6 ∧ ¬ k = 1 ∧ ¬ k = 2) := by omega
 rcases kk with rfl | rfl | rfl | rfl | ⟨h3,h6,h1,h2⟩
 ·by_cases h0 : n = 0
  ·subst h0
   have hr : nmrB 3 0 = true := by decide
   rw [hr];clear hr
   go_enter Tryz.func90,Tryz.ntmps90
   go_wp2_with fail;go_ret;exact ⟨rfl,hb⟩
  ·by_cases h1 : n = 1
   ·subst h1
    have hr : nmrB 3 1 = true := by decide
    rw [hr];clear hr
    go_enter Tryz.func90,Tryz.ntmps90
    go_wp2_with fail;go_ret;exact ⟨rfl,hb⟩
   ·have e0 : (n == 0) = false := by simpa using h0
    have e1 : (n == 1) = false := by simpa using h1
    have hr : nmrB 3 n = false := by simp [nmrB]; omega
    rw [hr];clear hr h0 h1
    go_enter Tryz.func90,Tryz.ntmps90
    go_wp2_with fail;go_ret;exact ⟨rfl,hb⟩
 ·by_cases h0 : 0 ≤ n
  ·have e0 : decide (0 ≤ n) = true := by simpa using h0
   by_cases h1 : n ≤ 2147483647
   ·have e1 : decide (n ≤ 2147483647) = true := by simpa using h1
    have hr : nmrB 6 n = true := by simp [nmrB]; omega
    rw [hr];clear hr h0 h1
    go_enter Tryz.func90,Tryz.ntmps90
    go_wp2_with fail;go_ret;exact ⟨rfl,hb⟩
   ·have e1 : decide (n ≤ 2147483647) = false := by simpa using h1
    have hr : nmrB 6 n = false := by simp [nmrB]; omega
    rw [hr];clear hr h0 h1
    go_enter Tryz.func90,Tryz.ntmps90
    go_wp2_with fail;go_ret;exact ⟨rfl,hb⟩
  ·have e0 : decide (0 ≤ n) = false := by simpa using h0
   have hr : nmrB 6 n = false := by simp [nmrB]; omega
   rw [hr];clear hr h0
   go_enter Tryz.func90,Tryz.ntmps90
   go_wp2_with fail;go_ret;exact ⟨rfl,hb⟩
 ·by_cases h0 : -2147483648 ≤ n
  ·have e0 : decide (-2147483648 ≤ n) = true := by simpa using h0
   by_cases h1 : n ≤ 2147483647
   ·have e1 : decide (n ≤ 2147483647) = true := by simpa using h1
    have hr : nmrB 1 n = true := by simp [nmrB]; omega
    rw [hr];clear hr h0 h1
    go_enter Tryz.func90,Tryz.ntmps90
    go_wp2_with fail;go_ret;exact ⟨rfl,hb⟩
   ·have e1 : decide (n ≤ 2147483647) = false := by simpa using h1
    have hr : nmrB 1 n = false := by simp [nmrB]; omega
    rw [hr];clear hr h0 h1
    go_enter Tryz.func90,Tryz.ntmps90
    go_wp2_with fail;go_ret;exact ⟨rfl,hb⟩
  ·have e0 : decide (-2147483648 ≤ n) = false := by simpa using h0
   have hr : nmrB 1 n = false := by simp [nmrB]; omega
   rw [hr];clear hr h0
   go_enter Tryz.func90,Tryz.ntmps90
   go_wp2_with fail;go_ret;exact ⟨rfl,hb⟩
 ·have hr : nmrB 2 n = true := by simp [nmrB]
  rw [hr];clear hr
  go_enter Tryz.func90,Tryz.ntmps90
  go_wp2_with fail;go_ret;exact ⟨rfl,hb⟩
 ·have e1 : (k == 1) = false := by simpa using h1
  have e2 : (k == 2) = false := by simpa using h2
  have e3 : (k == 3) = false := by simpa using h3
  have e6 : (k == 6) = false := by simpa using h6
  have hr : nmrB k n = false := by simp [nmrB,h3,h6,h1,h2]
  rw [hr];clear h1 h2 h3 h6 hr
  go_enter Tryz.func90,Tryz.ntmps90
  go_wp2_with fail;go_ret;exact ⟨rfl,hb⟩
theorem rkind_any (k : Int) (nm : ByteArray) (w : World) (hk : 1 ≤ k ∧ k ≤ 7) : Calls Tryz.prog 89 #[.agg #[.int .i64 k,.string nm]] w fun e w' => e = .returned (.int .i64 (kindT k)) ∧ Below w.heap.size w w' := by
 have hb : Below w.heap.size w (w.alloc (Obj.cells #[.int .i64 k,.string nm] 54)) := (Below.refl _ _).alloc (Nat.le_refl _) _
 have hc : k = 1 ∨ k = 2 ∨ k = 3 ∨ k = 4 ∨ k = 5 ∨ k = 6 ∨ k = 7 := by omega
 clear hk
 rcases hc with rfl | rfl | rfl | rfl | rfl | rfl | rfl <;>
 ·go_enter Tryz.func89,Tryz.ntmps89
  go_wp2_with fail;go_ret;exact ⟨rfl,hb⟩
def tlL : List UInt8 → Int
 | [] => -1
 | a :: _ => if ctU a = true then (a.toNat : Int) - 128 else -1
theorem tl_in (s : ByteArray) (i : Nat) (h : i < s.size) (a : 128 ≤ (s[i].toNat : Int)) (b : (s[i].toNat : Int) ≤ 191) : (s[i].toNat : Int) - 128 = tlL (s.data.toList.drop i) := by
 rw [drop_cons s i h]; simp only [tlL]; rw [if_pos (by simp [ctU]; omega)]
theorem tl_out (s : ByteArray) (i : Nat) (h : i < s.size) (a : (s[i].toNat : Int) < 128 ∨ 191 < (s[i].toNat : Int)) : -1 = tlL (s.data.toList.drop i) := by
 rw [drop_cons s i h]; simp only [tlL]; rw [if_neg (by simp [ctU]; omega)]
theorem tl_end (s : ByteArray) (i : Nat) (h : s.size ≤ i) : -1 = tlL (s.data.toList.drop i) := by
 rw [drop_none s i h]; rfl
theorem tail_any (s : ByteArray) (i : Int) (w : World) (hs : s.size ≤ 140737488351232) (hi : 0 ≤ i) :
  Calls Tryz.prog 116 #[.string s,.int .i64 i] w fun e w' => e = .returned (.int .i64 (tlL (s.data.toList.drop i.toNat))) ∧ w' = w := by
 by_cases h : i < s.size
 ·have hn : i.toNat < s.size := by omega
  go_enter Tryz.func116,Tryz.ntmps116
  go_wp2
  all_goals
   go_ret
   first
   | exact ⟨ret_int (tl_in s i.toNat hn (by omega) (by omega)),rfl⟩
   | exact ⟨ret_int (tl_out s i.toNat hn (by omega)),rfl⟩
 ·go_enter Tryz.func116,Tryz.ntmps116
  go_wp2
  go_ret;exact ⟨ret_int (tl_end s i.toNat (by omega)),rfl⟩
theorem rnext_out (s : ByteArray) (i : Int) (w : World) (h : i < 0 ∨ (s.size : Int) ≤ i) :
  Calls Tryz.prog 92 #[.string s,.int .i64 i] w fun e w' => e = .returned (nxV (nxL (atL s i))) ∧ w' = w := by
 have hx := atL_out s i h;have HX : Hid (nxL (atL s i) = none) := hx;clear hx
 rcases h with h | h
 ·go_enter Tryz.func92,Tryz.ntmps92
  go_wp2
  go_ret3
  exact ⟨ret_none HX.out,rfl⟩
 ·by_cases h0 : i < 0
  all_goals
   go_enter Tryz.func92,Tryz.ntmps92
   go_wp2
   go_ret3
   exact ⟨ret_none HX.out,rfl⟩
def accv (v0 : Int) (l : List UInt8) : Nat → Int
 | 0 => v0
 | k + 1 => 64 * accv v0 l k + tlL (l.drop (k + 1))
theorem nxL_lead1 (s : ByteArray) (i : Nat) (h : i < s.size) (ha : (s[i].toNat : Int) < 128) : nxL (atL s i) = some (s[i].toNat,1) := by
 rw [atL_in s i (by omega),Int.toNat_natCast,drop_cons s i h];simp only [nxL]; rw [if_pos (by omega)]
theorem nxL_lead0 (s : ByteArray) (i : Nat) (h : i < s.size) (h0 : 128 ≤ (s[i].toNat : Int)) (h1 : (s[i].toNat : Int) < 192 ∨ 248 ≤ (s[i].toNat : Int)) : nxL (atL s i) = none := by
 rw [atL_in s i (by omega),Int.toNat_natCast,drop_cons s i h];simp only [nxL]; rw [if_neg (by omega),if_neg (by omega),if_neg (by omega),if_neg (by omega)]
theorem rnext_lead1 (s : ByteArray) (i : Nat) (w : World) (hs : s.size ≤ 140737488351232) (h : i < s.size) (ha : (s[i].toNat : Int) < 128) :
  Calls Tryz.prog 92 #[.string s,.int .i64 (i : Int)] w fun e w' => e = .returned (nxV (nxL (atL s i))) ∧ w' = w := by
 have HX : Hid (nxL (atL s i) = some (s[i].toNat,1)) := nxL_lead1 s i h ha
 have hb : 0 ≤ (s[i].toNat : Int) := by omega
 go_enter Tryz.func92,Tryz.ntmps92
 go_wp2
 go_ret3
 exact ⟨ret_some _ _ HX.out rfl rfl,rfl⟩
theorem rnext_lead0 (s : ByteArray) (i : Nat) (w : World) (hs : s.size ≤ 140737488351232) (h : i < s.size) (h0 : 128 ≤ (s[i].toNat : Int)) (h1 : (s[i].toNat : Int) < 192 ∨ 248 ≤ (s[i].toNat : Int)) :
  Calls Tryz.prog 92 #[.string s,.int .i64 (i : Int)] w fun e w' => e = .returned (nxV (nxL (atL s i))) ∧ w' = w := by
 have HX : Hid (nxL (atL s i) = none) := nxL_lead0 s i h h0 h1
 have hb : (s[i].toNat : Int) < 256 := by have := s[i].toNat_lt; omega
 rcases h1 with h1 | h1
 all_goals
  go_enter Tryz.func92,Tryz.ntmps92
  go_wp2
  go_ret3
  exact ⟨ret_none HX.out,rfl⟩
theorem tl_neg {r : List UInt8} (h : tlL r < 0) : ∀ b r',r = b :: r' → ctU b = false := by
 rintro b r' rfl
 cases e : ctU b with
 | false => rfl
 | true => simp only [tlL,e,if_true] at h; simp [ctU] at e; omega
theorem tl_pos {r : List UInt8} (h : 0 ≤ tlL r) : ∃ b r',r = b :: r' ∧ ctU b = true ∧ tlL r = (b.toNat : Int) - 128 := by
 match r with
 | [] => simp [tlL] at h
 | b :: r' =>
  cases e : ctU b with
  | false => simp [tlL,e] at h
  | true => exact ⟨b,r',rfl,e,by simp [tlL,e]⟩
theorem tl_bd (r : List UInt8) : -1 ≤ tlL r ∧ tlL r ≤ 63 := by
 match r with
 | [] => simp [tlL]
 | b :: r' =>
  simp only [tlL]
  split
  ·rename_i e; simp [ctU] at e; omega
  ·omega
def okVr (v : Int) : Prop := v ≤ 1114111 ∧ ¬ (55296 ≤ v ∧ v ≤ 57343)
theorem bad_2 {a : UInt8} {r : List UInt8} (h0 : 192 ≤ a.toNat) (h1 : a.toNat < 224) (m : Nat) (hm : 1 ≤ m) (hn : m < 2) (h : tlL ((a :: r).drop m) < 0) : nxL (a :: r) = none := by
 obtain rfl : m = 1 := by omega
 have hc := tl_neg (r := r) h;simp only [nxL];rw [if_neg (by omega),if_pos ⟨h0,h1⟩]
 match r with
 | [] => rfl
 | b :: r' => simp [hc b r' rfl]
theorem bad_3 {a : UInt8} {r : List UInt8} (h0 : 224 ≤ a.toNat) (h1 : a.toNat < 240) (m : Nat) (hm : 1 ≤ m) (hn : m < 3) (h : tlL ((a :: r).drop m) < 0) : nxL (a :: r) = none := by
 simp only [nxL];rw [if_neg (by omega),if_neg (by omega),if_pos ⟨h0,h1⟩]
 match r with
 | [] => rfl
 | [b] => rfl
 | b :: c :: r' =>
  obtain rfl | rfl : m = 1 ∨ m = 2 := by omega
  ·have hc := tl_neg (r := b :: c :: r') h; simp [hc b _ rfl]
  ·have hc := tl_neg (r := c :: r') h; simp [hc c _ rfl]
theorem bad_4 {a : UInt8} {r : List UInt8} (h0 : 240 ≤ a.toNat) (h1 : a.toNat < 248) (m : Nat) (hm : 1 ≤ m) (hn : m < 4) (h : tlL ((a :: r).drop m) < 0) : nxL (a :: r) = none := by
 simp only [nxL];rw [if_neg (by omega),if_neg (by omega),if_neg (by omega),if_pos ⟨h0,h1⟩]
 match r with
 | [] => rfl
 | [b] => rfl
 | [b,c] => rfl
 | b :: c :: d :: r' =>
  obtain rfl | rfl | rfl : m = 1 ∨ m = 2 ∨ m = 3 := by omega
  ·have hc := tl_neg (r := b :: c :: d :: r') h; simp [hc b _ rfl]
  ·have hc := tl_neg (r := c :: d :: r') h; simp [hc c _ rfl]
  ·have hc := tl_neg (r := d :: r') h; simp [hc d _ rfl]
theorem good_2 {a : UInt8} {r : List UInt8} (h0 : 192 ≤ a.toNat) (h1 : a.toNat < 224) (h : ∀ m,1 ≤ m → m < 2 → 0 ≤ tlL ((a :: r).drop m)) :
  ∃ v : Nat,accv ((a.toNat : Int) - 192) (a :: r) 1 = v ∧ v ≤ 1000000000 ∧ (128 ≤ v ∧ okVr v → nxL (a :: r) = some (v,2)) ∧ (¬ (128 ≤ v ∧ okVr v) → nxL (a :: r) = none) := by
 obtain ⟨b,r',rfl,hb,eb⟩ := tl_pos (r := r) (h 1 (by omega) (by omega));have hl := two_lt h1 hb;have hb' := hb;simp only [ctU,Bool.and_eq_true,decide_eq_true_eq] at hb';refine ⟨two a b,?_,by omega,?_,?_⟩
 ·show 64 * ((a.toNat : Int) - 192) + tlL (b :: r') = _
  rw [eb]; simp only [two]; omega
 ·rintro ⟨g,_⟩;simp only [nxL];rw [if_neg (by omega),if_pos ⟨h0,h1⟩,if_pos ⟨hb,g⟩]
 ·intro g;simp only [nxL];rw [if_neg (by omega),if_pos ⟨h0,h1⟩,if_neg (fun x => g ⟨x.2,by simp only [okVr]; omega⟩)]
theorem good_3 {a : UInt8} {r : List UInt8} (h0 : 224 ≤ a.toNat) (h1 : a.toNat < 240) (h : ∀ m,1 ≤ m → m < 3 → 0 ≤ tlL ((a :: r).drop m)) :
  ∃ v : Nat,accv ((a.toNat : Int) - 224) (a :: r) 2 = v ∧ v ≤ 1000000000 ∧ (2048 ≤ v ∧ okVr v → nxL (a :: r) = some (v,3)) ∧ (¬ (2048 ≤ v ∧ okVr v) → nxL (a :: r) = none) := by
 obtain ⟨b,r1,rfl,hb,eb⟩ := tl_pos (r := r) (h 1 (by omega) (by omega));obtain ⟨c,r',rfl,hc,ec⟩ := tl_pos (r := r1) (h 2 (by omega) (by omega));have hl := three_lt h1 hb hc;have hb' := hb;have hc' := hc;simp only [ctU,Bool.and_eq_true,decide_eq_true_eq] at hb' hc';refine ⟨three a b c,?_,by omega,?_,?_⟩
 ·show 64 * (64 * ((a.toNat : Int) - 224) + tlL (b :: c :: r')) + tlL (c :: r') = _
  rw [eb,ec]; simp only [three]; omega
 ·rintro ⟨g,g2⟩;simp only [nxL];rw [if_neg (by omega),if_neg (by omega),if_pos ⟨h0,h1⟩,if_pos ⟨hb,hc,g,by simp only [okVr] at g2; omega⟩]
 ·intro g;simp only [nxL];rw [if_neg (by omega),if_neg (by omega),if_pos ⟨h0,h1⟩,if_neg (fun x => g ⟨x.2.2.1,by simp only [okVr]; omega⟩)]
theorem good_4 {a : UInt8} {r : List UInt8} (h0 : 240 ≤ a.toNat) (h1 : a.toNat < 248) (h : ∀ m,1 ≤ m → m < 4 → 0 ≤ tlL ((a :: r).drop m)) :
  ∃ v : Nat,accv ((a.toNat : Int) - 240) (a :: r) 3 = v ∧ v ≤ 1000000000 ∧ (65536 ≤ v ∧ okVr v → nxL (a :: r) = some (v,4)) ∧ (¬ (65536 ≤ v ∧ okVr v) → nxL (a :: r) = none) := by
 obtain ⟨b,r1,rfl,hb,eb⟩ := tl_pos (r := r) (h 1 (by omega) (by omega));obtain ⟨c,r2,rfl,hc,ec⟩ := tl_pos (r := r1) (h 2 (by omega) (by omega));obtain ⟨d,r',rfl,hd,ed⟩ := tl_pos (r := r2) (h 3 (by omega) (by omega));have hb' := hb;have hc' := hc;have hd' := hd;simp only [ctU,Bool.and_eq_true,decide_eq_true_eq] at hb' hc' hd';refine ⟨four a b c d,?_,by simp only [four]; omega,?_,?_⟩
 ·show 64 * (64 * (64 * ((a.toNat : Int) - 240) + tlL (b :: c :: d :: r')) + tlL (c :: d :: r')) + tlL (d :: r') = _
  rw [eb,ec,ed]; simp only [four]; omega
 ·rintro ⟨g,g2⟩;simp only [nxL];rw [if_neg (by omega),if_neg (by omega),if_neg (by omega),if_pos ⟨h0,h1⟩,if_pos ⟨hb,hc,hd,g,by simp only [okVr] at g2; omega⟩]
 ·intro g;simp only [nxL];rw [if_neg (by omega),if_neg (by omega),if_neg (by omega),if_pos ⟨h0,h1⟩,if_neg (fun x => g ⟨x.2.2.2.1,by simp only [okVr]; omega⟩)]
theorem accv_bd (v0 : Int) (l : List UInt8) (h0 : 0 ≤ v0) (h1 : v0 ≤ 31) (k : Nat) (hk : k ≤ 3) (h : ∀ m,1 ≤ m → m < k + 1 → 0 ≤ tlL (l.drop m)) : 0 ≤ accv v0 l k ∧ accv v0 l k ≤ 10000000 := by
 have b1 := tl_bd (l.drop 1);have b2 := tl_bd (l.drop 2);have b3 := tl_bd (l.drop 3)
 obtain rfl | rfl | rfl | rfl : k = 0 ∨ k = 1 ∨ k = 2 ∨ k = 3 := by omega
 ·simp only [accv]; omega
 ·have := h 1 (by omega) (by omega); simp only [accv,Nat.zero_add,Nat.reduceAdd]; omega
 ·have := h 1 (by omega) (by omega); have := h 2 (by omega) (by omega); simp only [accv,Nat.zero_add,Nat.reduceAdd]; omega
 ·have := h 1 (by omega) (by omega); have := h 2 (by omega) (by omega); have := h 3 (by omega) (by omega); simp only [accv,Nat.zero_add,Nat.reduceAdd]; omega
theorem rest_at (s : ByteArray) (i m : Nat) : s.data.toList.drop ((i : Int) + (m : Int)).toNat = (s.data.toList.drop i).drop m := by
 rw [List.drop_drop]; congr 1
theorem rnext_lead2 (s : ByteArray) (i : Nat) (w : World) (hs : s.size ≤ 140737488351232) (h : i < s.size) (h0 : 192 ≤ (s[i].toNat : Int)) (h1 : (s[i].toNat : Int) < 224) :
  Calls Tryz.prog 92 #[.string s,.int .i64 (i : Int)] w fun e w' => e = .returned (nxV (nxL (atL s i))) ∧ w' = w := by
 have hl0 : Hid (atL s i = s[i] :: s.data.toList.drop (i + 1)) := by rw [atL_in s i (by omega),Int.toNat_natCast,drop_cons s i h]; rfl
 have hl1 : Hid (atL s i = s.data.toList.drop i) := by rw [atL_in s i (by omega),Int.toNat_natCast]; rfl
 generalize atL s i = l at *
 have hd1 : decide (s.size ≤ i) = false := by simp; omega
 have hd2 : decide ((i : Int) < 0) = false := by simp
 have hd3 : decide ((s[i].toNat : Int) < 128) = false := by simp; omega
 go_enter Tryz.func92,Tryz.ntmps92
 go_wp2
 go_loop [9,11] (fun v j => ∃ m : Nat,1 ≤ m ∧ m ≤ 2 ∧ j = .int .i64 m ∧ v = .int .i64 (accv ((s[i].toNat : Int) - 192) l (m - 1)) ∧ Hid (∀ q,1 ≤ q → q < m → 0 ≤ tlL (l.drop q))) (fun _ j => 2 - (intOf j).toNat)
 case atStart => exact ⟨1,by omega,by omega,rfl,rfl,by intro q; omega⟩
 case round =>
  obtain ⟨m,hm1,hm2,rfl,rfl,H⟩ := hrel;have hbd := accv_bd ((s[i].toNat : Int) - 192) l (by omega) (by omega) (m - 1) (by omega) (fun q a b => H.out q a (by omega))
  by_cases hlt : m < 2
  ·have ht := tl_bd (l.drop m)
   have HT : Hid (tlL (s.data.toList.drop ((i : Int) + (m : Int)).toNat) = tlL (l.drop m)) := by rw [rest_at,← hl1.out]; rfl
   have HS : Hid (64 * accv ((s[i].toNat : Int) - 192) l (m - 1) + tlL (l.drop m) = accv ((s[i].toNat : Int) - 192) l m) := by
    obtain ⟨k,rfl⟩ : ∃ k,m = k + 1 := ⟨m - 1,by omega⟩
    rfl
   have HB : Hid (tlL (l.drop m) < 0 → nxL l = none) := fun hh => by
    have hx := hh;rw [hl0.out] at hx ⊢;exact bad_2 (by omega) (by omega) m hm1 hlt hx
   have HN : Hid (0 ≤ tlL (l.drop m) → ∀ q,1 ≤ q → q < m + 1 → 0 ≤ tlL (l.drop q)) := fun hh q a b => by
    by_cases e : q = m
    ·rw [e]; exact hh
    ·exact H.out q a (by omega)
   generalize accv ((s[i].toNat : Int) - 192) l (m - 1) = v at *;go_wp2_with fail;refine (tail_any s _ _ hs (by omega)).mono ?_;rintro e w' ⟨rfl,rfl⟩;rw [HT.out];generalize tlL (l.drop m) = t at *
   by_cases hneg : t < 0
   ·go_wp2
    go_ret3
    exact ⟨ret_none (HB.out hneg),rfl⟩
   ·go_wp2
    go_round
    case rel => exact ⟨m + 1,by omega,by omega,by go_num,by rw [HS.out]; rfl,HN.out (by omega)⟩
    case measure => simp [intOf]; omega
  ·obtain rfl : m = 2 := by omega
   obtain ⟨v,ev,hv,hyes,hno⟩ : ∃ v : Nat,accv ((s[i].toNat : Int) - 192) l (2 - 1) = v ∧ v ≤ 1000000000 ∧ (128 ≤ v ∧ okVr v → nxL l = some (v,2)) ∧ (¬ (128 ≤ v ∧ okVr v) → nxL l = none) := by
    have hg := H.out;rw [hl0.out] at hg ⊢;exact good_2 (by omega) (by omega) hg
   rw [ev];have HY : Hid (128 ≤ v ∧ okVr v → nxL l = some (v,2)) := hyes;have HNO : Hid (¬ (128 ≤ v ∧ okVr v) → nxL l = none) := hno;clear hyes hno ev hbd H
   go_wp2
   all_goals
    go_ret3
    first
    | exact ⟨ret_none (HNO.out (by simp only [okVr]; omega)),rfl⟩
    | exact ⟨ret_some _ _ (HY.out (by simp only [okVr]; omega)) rfl rfl,rfl⟩
theorem rnext_lead3 (s : ByteArray) (i : Nat) (w : World) (hs : s.size ≤ 140737488351232) (h : i < s.size) (h0 : 224 ≤ (s[i].toNat : Int)) (h1 : (s[i].toNat : Int) < 240) :
  Calls Tryz.prog 92 #[.string s,.int .i64 (i : Int)] w fun e w' => e = .returned (nxV (nxL (atL s i))) ∧ w' = w := by
 have hl0 : Hid (atL s i = s[i] :: s.data.toList.drop (i + 1)) := by rw [atL_in s i (by omega),Int.toNat_natCast,drop_cons s i h]; rfl
 have hl1 : Hid (atL s i = s.data.toList.drop i) := by rw [atL_in s i (by omega),Int.toNat_natCast]; rfl
 generalize atL s i = l at *
 have hd1 : decide (s.size ≤ i) = false := by simp; omega
 have hd2 : decide ((i : Int) < 0) = false := by simp
 have hd3 : decide ((s[i].toNat : Int) < 128) = false := by simp; omega
 go_enter Tryz.func92,Tryz.ntmps92
 go_wp2
 go_loop [9,11] (fun v j => ∃ m : Nat,1 ≤ m ∧ m ≤ 3 ∧ j = .int .i64 m ∧ v = .int .i64 (accv ((s[i].toNat : Int) - 224) l (m - 1)) ∧ Hid (∀ q,1 ≤ q → q < m → 0 ≤ tlL (l.drop q))) (fun _ j => 3 - (intOf j).toNat)
 case atStart => exact ⟨1,by omega,by omega,rfl,rfl,by intro q; omega⟩
 case round =>
  obtain ⟨m,hm1,hm2,rfl,rfl,H⟩ := hrel;have hbd := accv_bd ((s[i].toNat : Int) - 224) l (by omega) (by omega) (m - 1) (by omega) (fun q a b => H.out q a (by omega))
  by_cases hlt : m < 3
  ·have ht := tl_bd (l.drop m)
   have HT : Hid (tlL (s.data.toList.drop ((i : Int) + (m : Int)).toNat) = tlL (l.drop m)) := by rw [rest_at,← hl1.out]; rfl
   have HS : Hid (64 * accv ((s[i].toNat : Int) - 224) l (m - 1) + tlL (l.drop m) = accv ((s[i].toNat : Int) - 224) l m) := by
    obtain ⟨k,rfl⟩ : ∃ k,m = k + 1 := ⟨m - 1,by omega⟩
    rfl
   have HB : Hid (tlL (l.drop m) < 0 → nxL l = none) := fun hh => by
    have hx := hh;rw [hl0.out] at hx ⊢;exact bad_3 (by omega) (by omega) m hm1 hlt hx
   have HN : Hid (0 ≤ tlL (l.drop m) → ∀ q,1 ≤ q → q < m + 1 → 0 ≤ tlL (l.drop q)) := fun hh q a b => by
    by_cases e : q = m
    ·rw [e]; exact hh
    ·exact H.out q a (by omega)
   generalize accv ((s[i].toNat : Int) - 224) l (m - 1) = v at *;go_wp2_with fail;refine (tail_any s _ _ hs (by omega)).mono ?_;rintro e w' ⟨rfl,rfl⟩;rw [HT.out];generalize tlL (l.drop m) = t at *
   by_cases hneg : t < 0
   ·go_wp2
    go_ret3
    exact ⟨ret_none (HB.out hneg),rfl⟩
   ·go_wp2
    go_round
    case rel => exact ⟨m + 1,by omega,by omega,by go_num,by rw [HS.out]; rfl,HN.out (by omega)⟩
    case measure => simp [intOf]; omega
  ·obtain rfl : m = 3 := by omega
   obtain ⟨v,ev,hv,hyes,hno⟩ : ∃ v : Nat,accv ((s[i].toNat : Int) - 224) l (3 - 1) = v ∧ v ≤ 1000000000 ∧ (2048 ≤ v ∧ okVr v → nxL l = some (v,3)) ∧ (¬ (2048 ≤ v ∧ okVr v) → nxL l = none) := by
    have hg := H.out;rw [hl0.out] at hg ⊢;exact good_3 (by omega) (by omega) hg
   rw [ev];have HY : Hid (2048 ≤ v ∧ okVr v → nxL l = some (v,3)) := hyes;have HNO : Hid (¬ (2048 ≤ v ∧ okVr v) → nxL l = none) := hno;clear hyes hno ev hbd H
   go_wp2
   all_goals
    go_ret3
    first
    | exact ⟨ret_none (HNO.out (by simp only [okVr]; omega)),rfl⟩
    | exact ⟨ret_some _ _ (HY.out (by simp only [okVr]; omega)) rfl rfl,rfl⟩
theorem rnext_lead4 (s : ByteArray) (i : Nat) (w : World) (hs : s.size ≤ 140737488351232) (h : i < s.size) (h0 : 240 ≤ (s[i].toNat : Int)) (h1 : (s[i].toNat : Int) < 248) :
  Calls Tryz.prog 92 #[.string s,.int .i64 (i : Int)] w fun e w' => e = .returned (nxV (nxL (atL s i))) ∧ w' = w := by
 have hl0 : Hid (atL s i = s[i] :: s.data.toList.drop (i + 1)) := by rw [atL_in s i (by omega),Int.toNat_natCast,drop_cons s i h]; rfl
 have hl1 : Hid (atL s i = s.data.toList.drop i) := by rw [atL_in s i (by omega),Int.toNat_natCast]; rfl
 generalize atL s i = l at *
 have hd1 : decide (s.size ≤ i) = false := by simp; omega
 have hd2 : decide ((i : Int) < 0) = false := by simp
 have hd3 : decide ((s[i].toNat : Int) < 128) = false := by simp; omega
 go_enter Tryz.func92,Tryz.ntmps92
 go_wp2
 go_loop [9,11] (fun v j => ∃ m : Nat,1 ≤ m ∧ m ≤ 4 ∧ j = .int .i64 m ∧ v = .int .i64 (accv ((s[i].toNat : Int) - 240) l (m - 1)) ∧ Hid (∀ q,1 ≤ q → q < m → 0 ≤ tlL (l.drop q))) (fun _ j => 4 - (intOf j).toNat)
 case atStart => exact ⟨1,by omega,by omega,rfl,rfl,by intro q; omega⟩
 case round =>
  obtain ⟨m,hm1,hm2,rfl,rfl,H⟩ := hrel;have hbd := accv_bd ((s[i].toNat : Int) - 240) l (by omega) (by omega) (m - 1) (by omega) (fun q a b => H.out q a (by omega))
  by_cases hlt : m < 4
  ·have ht := tl_bd (l.drop m)
   have HT : Hid (tlL (s.data.toList.drop ((i : Int) + (m : Int)).toNat) = tlL (l.drop m)) := by rw [rest_at,← hl1.out]; rfl
   have HS : Hid (64 * accv ((s[i].toNat : Int) - 240) l (m - 1) + tlL (l.drop m) = accv ((s[i].toNat : Int) - 240) l m) := by
    obtain ⟨k,rfl⟩ : ∃ k,m = k + 1 := ⟨m - 1,by omega⟩
    rfl
   have HB : Hid (tlL (l.drop m) < 0 → nxL l = none) := fun hh => by
    have hx := hh;rw [hl0.out] at hx ⊢;exact bad_4 (by omega) (by omega) m hm1 hlt hx
   have HN : Hid (0 ≤ tlL (l.drop m) → ∀ q,1 ≤ q → q < m + 1 → 0 ≤ tlL (l.drop q)) := fun hh q a b => by
    by_cases e : q = m
    ·rw [e]; exact hh
    ·exact H.out q a (by omega)
   generalize accv ((s[i].toNat : Int) - 240) l (m - 1) = v at *;go_wp2_with fail;refine (tail_any s _ _ hs (by omega)).mono ?_;rintro e w' ⟨rfl,rfl⟩;rw [HT.out];generalize tlL (l.drop m) = t at *
   by_cases hneg : t < 0
   ·go_wp2
    go_ret3
    exact ⟨ret_none (HB.out hneg),rfl⟩
   ·go_wp2
    go_round
    case rel => exact ⟨m + 1,by omega,by omega,by go_num,by rw [HS.out]; rfl,HN.out (by omega)⟩
    case measure => simp [intOf]; omega
  ·obtain rfl : m = 4 := by omega
   obtain ⟨v,ev,hv,hyes,hno⟩ : ∃ v : Nat,accv ((s[i].toNat : Int) - 240) l (4 - 1) = v ∧ v ≤ 1000000000 ∧ (65536 ≤ v ∧ okVr v → nxL l = some (v,4)) ∧ (¬ (65536 ≤ v ∧ okVr v) → nxL l = none) := by
    have hg := H.out;rw [hl0.out] at hg ⊢;exact good_4 (by omega) (by omega) hg
   rw [ev];have HY : Hid (65536 ≤ v ∧ okVr v → nxL l = some (v,4)) := hyes;have HNO : Hid (¬ (65536 ≤ v ∧ okVr v) → nxL l = none) := hno;clear hyes hno ev hbd H
   go_wp2
   all_goals
    go_ret3
    first
    | exact ⟨ret_none (HNO.out (by simp only [okVr]; omega)),rfl⟩
    | exact ⟨ret_some _ _ (HY.out (by simp only [okVr]; omega)) rfl rfl,rfl⟩
theorem rnext_any (s : ByteArray) (i : Int) (w : World) (hs : s.size ≤ 140737488351232) :
  Calls Tryz.prog 92 #[.string s,.int .i64 i] w fun e w' => e = .returned (nxV (nxL (atL s i))) ∧ w' = w := by
 by_cases h : i < 0 ∨ (s.size : Int) ≤ i
 ·exact rnext_out s i w h
 ·obtain ⟨n,rfl⟩ := Int.eq_ofNat_of_zero_le (a := i) (by omega)
  have hn : n < s.size := by omega
  by_cases h1 : (s[n].toNat : Int) < 128
  ·exact rnext_lead1 s n w hs hn h1
  ·by_cases h2 : (s[n].toNat : Int) < 192 ∨ 248 ≤ (s[n].toNat : Int)
   ·exact rnext_lead0 s n w hs hn (by omega) h2
   ·by_cases h3 : (s[n].toNat : Int) < 224
    ·exact rnext_lead2 s n w hs hn (by omega) h3
    ·by_cases h4 : (s[n].toNat : Int) < 240
     ·exact rnext_lead3 s n w hs hn (by omega) h4
     ·exact rnext_lead4 s n w hs hn (by omega) (by omega)
theorem rdigit_any (r : Int) (w : World) :
  Calls Tryz.prog 56 #[.int .i32 r] w fun e w' => e = .returned (.bool (digB r)) ∧ w' = w := by
 go_enter Tryz.func56,Tryz.ntmps56
 go_wp2
 all_goals
  go_ret;exact ⟨ret_bool (by simp [digB]; try omega),rfl⟩
theorem rletter_any (r : Int) (w : World) :
  Calls Tryz.prog 54 #[.int .i32 r] w fun e w' => e = .returned (.bool (letB r)) ∧ w' = w := by
 go_enter Tryz.func54,Tryz.ntmps54
 go_wp2
 all_goals
  go_ret;refine ⟨ret_bool ?_,rfl⟩;rw [Bool.eq_iff_iff]
  simp [letB]
  try omega
theorem infoRune : (Tryz.prog.info? 21).map (fun i => (i.zero,i.size,i.bytes)) = some (some (.int .i32 0),1,4) := by kernel_rfl
def runeCells (rs : List Nat) : List Value := rs.map fun (c : Nat) => Value.int .i32 (c : Int)
theorem owns_cast {w : World} {b e : Nat} {v : Value} {n n' : Nat} {xs xs' : List Value} (h : w.ownsRow b e 1 v n xs) (hn : n' = n) (hx : xs' = xs) : w.ownsRow b e 1 v n' xs' := by
 rw [hn,hx]; exact h
theorem all_len {l : List UInt8} {pos c k : Nat} (hn : nxL (l.drop pos) = some (c,k)) (hp : pos ≤ l.length) : pos + k ≤ l.length ∧ 1 ≤ k ∧ k ≤ 4 := by
 obtain ⟨_,_,_,h4,h5,h6,_⟩ := nxL_some _ _ _ hn
 simp at h5
 omega
theorem rall_any (s : ByteArray) (w : World) (hs : s.size ≤ 20000) :
  Calls Tryz.prog 53 #[.string s] w fun e w' => ∃ v,e = .returned (.tuple #[v,.bool (validB s.data.toList)]) ∧
   w'.ownsRow w.heap.size 21 1 v (countN s.data.toList) (runeCells ((runesOf s.data.toList).getD [])) ∧ Below w.heap.size w w' := by
 obtain ⟨i0,hi,hz0,hz1,hz2⟩ := info_parts infoRune
 go_enter Tryz.func53,Tryz.ntmps53
 go_wp2_with fail
 go_loopw [4,5] (fun v at' wr => ∃ (pos : Nat) (acc : List Nat),at' = .int .i64 pos ∧ pos ≤ s.size ∧ acc.length ≤ pos ∧ Hid (Gone s.data.toList pos acc) ∧ wr.ownsRow w.heap.size 21 1 v acc.length (runeCells acc) ∧ Below w.heap.size w wr)
  (fun _ at' _ => s.size - (intOf at').toNat)
 case atStart => exact ⟨0,[],rfl,by omega,by simp,Gone.start _,World.ownsRow_nil _ _ _ _,Below.refl _ _⟩
 case round =>
  obtain ⟨pos,acc,rfl,hps,hap,H,hown,hbel⟩ := hrel
  by_cases hp : pos < s.size
  ·have HA : Hid (atL s pos = s.data.toList.drop pos) := by rw [atL_in s pos (by omega),Int.toNat_natCast]; rfl
   go_wp2_with fail;refine (rnext_any s _ _ (by omega)).mono ?_;rintro e w1 ⟨rfl,rfl⟩;rw [HA.out];generalize hx : nxL (s.data.toList.drop pos) = x
   cases x with
   | none =>
    have HR : Hid (runesOf s.data.toList = none) := H.out.bad (by rw [len_data]; exact hp) hx
    have H1 : Hid (validB s.data.toList = false) := by show _ = _; unfold validB; rw [HR.out]; rfl
    have H2 : Hid (countN s.data.toList = 0) := by show _ = _; unfold countN; rw [HR.out]; rfl
    have H3 : Hid ((runesOf s.data.toList).getD [] = []) := by show _ = _; rw [HR.out]; rfl
    simp only [nxV];clear hx;go_wp2_with fail
    go_ret2
    refine ⟨.slice none 0 0,?_,?_,hbel⟩
    ·rw [H1.out]; rfl
    ·rw [H2.out,H3.out]; exact World.ownsRow_nil _ _ _ _
   | some x =>
    obtain ⟨c,k⟩ := x;obtain ⟨g1,g2,g3⟩ := all_len hx (by rw [len_data]; omega);rw [len_data] at g1;have HG : Hid (Gone s.data.toList (pos + k) (acc ++ [c])) := H.out.step hx;clear hx;simp only [nxV];have hws := hbel.size
    go_wp2_with (first
     | (at_builtin; refine wpList_append_own _ rfl _ _ 115 rfl w.heap.size 21 i0 (.int .i32 0) 1 4 Tryz.underlying115 hi hz0 hz1 hz2 rfl (by decide) _ _ _ rfl (hown.alloc _) ⟨w1.heap.size,0,none⟩ 1 1 [.int .i32 (c : Int)] rfl rfl ?c1 ?c2 ?c3 ?c4 ?c5 ?_)
     | fail)
    case c1 =>
     intro j u hj
     match j,hj with
     | 0,hj => simp at hj; subst hj; simp [Addr.add]
    case c2 => intro u hu; simp at hu; subst hu; rfl
    case c3 => unfold maxLen; omega
    case c4 => omega
    case c5 => simp; omega
    intro v' w2 hown' hgrow _;have hb2 : Below w.heap.size w w2 := (hbel.alloc hws _).grown hgrow (by simp; omega) (fun k hk => (hown.lt k hk).1)
    have HO : Hid (w2.ownsRow w.heap.size 21 1 v' (acc ++ [c]).length (runeCells (acc ++ [c]))) := by
     have e1 : (acc ++ [c]).length = acc.length + 1 := by simp
     have e2 : runeCells (acc ++ [c]) = runeCells acc ++ [.int .i32 (c : Int)] := by simp [runeCells]
     show World.ownsRow _ _ _ _ _ _ _
     rw [e1,e2];exact hown'
    clear hown hown' hgrow;go_wp2_with fail
    go_roundw
    case rel => exact ⟨pos + k,acc ++ [c],by go_num,by omega,by simp; omega,HG,HO.out,hb2⟩
    case measure => simp [intOf]; omega
  ·have HR : Hid (runesOf s.data.toList = some acc) := H.out.done (by rw [len_data]; omega)
   have H1 : Hid (validB s.data.toList = true) := by show _ = _; unfold validB; rw [HR.out]; rfl
   have H2 : Hid (countN s.data.toList = acc.length) := by show _ = _; unfold countN; rw [HR.out]; rfl
   have H3 : Hid ((runesOf s.data.toList).getD [] = acc) := by show _ = _; rw [HR.out]; rfl
   have HO := owns_cast hown H2.out (congrArg runeCells H3.out);clear hown;go_wp2_with fail
   go_ret2
   exact ⟨_,by rw [H1.out]; rfl,HO,hbel⟩
theorem owns_form {w : World} {base e : Nat} {v : Value} {n : Nat} {xs : List Value} (h : w.ownsRow base e 1 v n xs) :
  ∃ a cap,v = .slice a n cap ∧ (0 < n → ∃ g,a = some ⟨g,0,none⟩ ∧ ∀ j,j < n → w.cell? ⟨g,j,none⟩ = xs[j]?) := by
 have h0 := h;obtain ⟨h1,h2⟩ := h
 rcases h2 with ⟨rfl,rfl⟩ | ⟨g,cap,cur,rfl,_⟩
 ·exact ⟨none,0,rfl,by omega⟩
 ·exact ⟨some ⟨g,0,none⟩,cap,rfl,fun _ => ⟨g,rfl,fun j hj => h0.cellAt j (by omega)⟩⟩
theorem rvalidB_any (s : ByteArray) (w : World) (hs : s.size ≤ 6000) :
  Calls Tryz.prog 91 #[.string s] w fun e w' => e = .returned (.bool (validB s.data.toList)) ∧ Below w.heap.size w w' := by
 go_enter Tryz.func91,Tryz.ntmps91
 go_wp2_with fail;refine (rall_any s _ (by omega)).mono ?_;rintro e w1 ⟨v,rfl,_,h1⟩;go_wp2_with fail;go_ret;exact ⟨rfl,h1⟩
end
end Go.Proofs.YtmgbhicogmclgaaGreat
