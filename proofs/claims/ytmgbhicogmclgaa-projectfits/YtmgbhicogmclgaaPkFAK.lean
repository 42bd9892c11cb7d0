/- Part 11 of what the proof stands on. -/
import Derived.Test.YtmgbhicogmclgaaPkFAJ
namespace Go.Proofs.Ytmgbhicogmclgaa
set_option maxHeartbeats 8000000
set_option linter.unusedVariables false
set_option linter.unusedSimpArgs false
set_option maxRecDepth 20000
section
open Go.ChangeShapes Go.WideShapes Go.ChangeAt Go.RowKit
theorem pmsg_any {s : ScS} {W0 : World} {sn : ByteArray} {ma ea ta : Option Addr} {mn mc en ec tn tc : Nat} (hks : ∀ nm m,msgOf s nm = some m → ∀ f ∈ m.fields,1 ≤ f.kind ∧ f.kind ≤ 7) (hms : MsIn W0 (.slice ma mn mc) s.msgs) (hfl : ∀ m ∈ s.msgs,m.fields.length ≤ 20 ∧ m.reserved.length ≤ 40) : ∀ n,MsgC s W0 n sn ma ea ta mn mc en ec tn tc
 | 0 => fun b F nm t K N S a1 a2 n1 c1 n2 c2 w _ hx _ _ _ => by
  obtain ⟨r,_,h⟩ := hx;exact h.elim
 | n + 1 => pmsg_step hks hms hfl (pmsg_any hks hms hfl n)
def newB (w w' : World) : List Nat := (List.range w'.heap.size).filter fun k => decide (w.heap.size ≤ k)
theorem newB_apt (w w' : World) : Apt w.heap.size w' (newB w w') := ⟨List.nodup_range.filter _,fun k hk => by
 simp only [newB,List.mem_filter,List.mem_range,decide_eq_true_eq] at hk
 exact ⟨hk.2,hk.1⟩⟩
theorem SeeFP.no {n : Nat} {R : Tr × Bool} {w w' : World} (hR : R = (tr0,false)) (hb : Below w.heap.size w w') : SeeFP (n + 1) R w (.returned (.tuple #[.agg #[.int .i64 0,.int .i64 0,.string ⟨#[]⟩,.slice none 0 0,.slice none 0 0],.bool false])) w' := by
 subst hR;refine ⟨[.int .i64 0,.int .i64 0,.string ⟨#[]⟩,.slice none 0 0,.slice none 0 0],[],rfl,fun w'' _ => ?_,⟨List.nodup_nil,by simp⟩,hb⟩;have h1 : TrR (n + 1) w'' [.int .i64 0,.int .i64 0,.string ⟨#[]⟩,.slice none 0 0,.slice none 0 0] tr0 := leaf_see (w := w'') (F := fun _ => False) is64_lit0 is64_lit0 (by show (0 : Nat) ≤ _; omega) w'' fun _ _ => rfl
 exact ⟨h1.trQ.trC,h1⟩
theorem SeeFP.yes {s : ScS} {b n : Nat} {F : Nat → Prop} {T : Tr} {r : List Value} {R : Tr × Bool} {w w' : World} (hR : R = (T,true)) (hk : KnP s w w' b F) (hs : SeeG (n + 1) w' r T F) : SeeFP (n + 1) R w (.returned (.tuple #[.agg r.toArray,.bool true])) w' := by
 subst hR;refine ⟨r,newB w w',rfl,fun w'' h2 => ?_,newB_apt w w',hk.below⟩
 have h1 : TrR (n + 1) w'' r T := hs w'' fun k e => h2 k (by
  simp only [newB,List.mem_filter,List.mem_range,decide_eq_true_eq]
  exact ⟨(hk.new k e).2,(hk.new k e).1⟩)
 exact ⟨h1.trQ.trC,h1⟩
theorem project_any : ProjC := by
 intro n s sv nm tv t w hn hr hw hf ht hsm hc;have hr0 := hr;obtain ⟨vm,ve,vt,rfl,h1,h2,h3⟩ := hr;obtain ⟨ma,mc,rfl, -⟩ := h1.form2;obtain ⟨erows,her, -⟩ := h2;obtain ⟨ea,ec,rfl, -⟩ := her.form;obtain ⟨ta,tc,rfl, -⟩ := h3.form;generalize s.msgs.length = mn at *;generalize erows.length = en at *;generalize (mtRows s.methods).length = tn at *;obtain ⟨m,a1,c1,a2,c2, -,rfl, -⟩ := ht.open;obtain ⟨K,hK⟩ : ∃ z,t.kind = z := ⟨_,rfl⟩;obtain ⟨N,hN⟩ : ∃ z,t.n = z := ⟨_,rfl⟩;obtain ⟨S,hS⟩ : ∃ z,t.s = z := ⟨_,rfl⟩;generalize t.es.length = n1 at *;generalize t.rest.length = n2 at *;have HT3 : Hid (t.kind = K) := hK;rw [hK,hN,hS] at ht ⊢;have HCC : Hid (∀ W,Below w.heap.size w W → Calls Try.prog 21 #[.agg #[.string s.name,.slice ma mn mc,.slice ea en ec,.slice ta tn tc]] W fun e w' => e = .returned (.int .i64 (checkA s)) ∧ Below W.heap.size W w') := fun W hW => check_any (hr0.below hW) hw hf
 have HVC : Hid (∀ W,Below w.heap.size w W → Calls Try.prog 23 #[.agg #[.int .i64 K,.int .i64 N,.string S,.slice a1 n1 c1,.slice a2 n2 c2]] W fun e w' => e = .returned (.bool (chkN (n + 1) t)) ∧ Below W.heap.size W w') := fun W hW => vcheck_any (n + 1) t _ W (by obtain ⟨r,g1,g2⟩ := ht.cel (Cel.ofBelow hW); exact ⟨r,g1,g2.trQ⟩) (by omega) hc hsm
 have hfl : ∀ m ∈ s.msgs,m.fields.length ≤ 20 ∧ m.reserved.length ≤ 40 := fun m hm => hf.flds m hm
 have HMC : Hid (∀ W,Below w.heap.size w W → Calls Try.prog 22 #[.agg #[.string s.name,.slice ma mn mc,.slice ea en ec,.slice ta tn tc],.string nm] W fun e w' => ∃ q vf vr,e = .returned (.tuple #[.agg #[.string q,vf,vr],.bool (msgOf s nm).isSome]) ∧ (∃ a1 n1 c1,vf = .slice a1 n1 c1) ∧ (∃ a2 n2 c2,vr = .slice a2 n2 c2) ∧ Below W.heap.size W w') := (fun W hW => by
  refine (cmessage_any (w := W) (snm := s.name) (nm := nm) (ae := ea) (at' := ta) (E := en) (ce := ec) (T := tn) (ct := tc) (h1.below hW) hfl).mono ?_;rintro e w' ⟨vf,vr,rfl,g1,g2,g3⟩;obtain ⟨q1,q2,rfl⟩ := own_form g1;obtain ⟨q3,q4,rfl⟩ := own_form g2
  exact ⟨_,_,_,rfl,⟨_,_,_,rfl⟩,⟨_,_,_,rfl⟩,g3⟩ : ∀ W,_ → Calls Try.prog _ _ W _)
 have HPM : Hid (checkA s = 0 → t.kind = 3 → chkN (n + 1) t = true → ∀ W b F,KnP s w W b F → Calls Try.prog 24 #[.agg #[.string s.name,.slice ma mn mc,.slice ea en ec,.slice ta tn tc,.map (some b)],.string nm,.agg #[.int .i64 K,.int .i64 N,.string S,.slice a1 n1 c1,.slice a2 n2 c2]] W (SeenP s w b F (n + 1) (prM (n + 1) s nm t) W)) := fun g1 g2 g3 W b F hk => pmsg_any (ok_kindsJ ((checkA_ok s).1 g1)) h1 hfl (n + 1) b F nm t K N S a1 a2 n1 c1 n2 c2 W hk ht g2 (by simp only [chkN,Bool.and_eq_true] at g3; exact g3.2) hsm
 obtain ⟨R,hR⟩ : ∃ R,projA (n + 1) s nm t = R := ⟨_,rfl⟩;have HR : Hid ((if checkA s = 0 ∧ (msgOf s nm).isSome = true ∧ t.kind = 3 ∧ chkN (n + 1) t = true then (prM (n + 1) s nm t,true) else (tr0,false)) = R) := hR;rw [hR];have HKS : Hid (∀ W,Below w.heap.size w W → KnP s w (W.alloc (.map #[] 0)) W.heap.size (fun _ => False)) := fun W hW => KnP.start hW
 generalize s.name = sn at *;clear hR hK hN hS ht hsm hc hr0 hw hf h1 her h3 hfl hn;have hmm := @run_makeMap Try.prog;obtain ⟨BS,BT,BR,hbw⟩ := p3blk w #[.string sn,.slice ma mn mc,.slice ea en ec,.slice ta tn tc] #[.int .i64 K,.int .i64 N,.string S,.slice a1 n1 c1,.slice a2 n2 c2] #[.int .i64 0,.int .i64 0,.string ⟨#[]⟩,.slice none 0 0,.slice none 0 0] 26 30 30
 go_enter Try.func10,Try.ntmps10
 go_upto_region 1 with fail
 generalize (((w.alloc (Obj.cells #[.string sn,.slice ma mn mc,.slice ea en ec,.slice ta tn tc] 26)).alloc (Obj.cells #[.int .i64 K,.int .i64 N,.string S,.slice a1 n1 c1,.slice a2 n2 c2] 30)).alloc (Obj.cells #[.int .i64 0,.int .i64 0,.string ⟨#[]⟩,.slice none 0 0,.slice none 0 0] 30)) = U0 at *;obtain ⟨b0,hb0⟩ : ∃ z,w.heap.size = z := ⟨_,rfl⟩;have HBZ : Hid (w.heap.size = b0) := hb0;rw [hb0] at BS BT BR
 try simp only [hb0]
 clear hb0;have s0 := (BS.cell 0).trans rfl;have s1 := (BS.cell 1).trans rfl;have s2 := (BS.cell 2).trans rfl;have s3 := (BS.cell 3).trans rfl;go_wp2_with fail;refine (HCC.out _ hbw).mono ?_;rintro e w1 ⟨rfl,hb1⟩;have hbw1 := hbw.trans (hb1.mono hbw.size);have BS1 := BS.below hb1;have BT1 := BT.below hb1;have BR1 := BR.below hb1;clear s0 s1 s2 s3 BS BT BR hb1 hbw HCC;obtain ⟨CA,hCA⟩ : ∃ z,checkA s = z := ⟨_,rfl⟩;have HCA : Hid (checkA s = CA) := hCA;rw [hCA] at HR ⊢;clear hCA
 by_cases hca : CA = 0
 rotate_left
 ·have d : (CA != 0) = true := by simpa using hca
  have HRN : Hid (R = (tr0,false)) := (by rw [← HR.out,if_neg (fun h => hca h.1)] : R = _);clear hca HR HPM HMC HVC HKS BS1 BT1;have r0 := (BR1.cell 0).trans rfl;have rz0 := BR1.froz 0;have r1 := (BR1.cell 1).trans rfl;have rz1 := BR1.froz 1;have r2 := (BR1.cell 2).trans rfl;have rz2 := BR1.froz 2;have r3 := (BR1.cell 3).trans rfl;have rz3 := BR1.froz 3;have r4 := (BR1.cell 4).trans rfl;have rz4 := BR1.froz 4;go_wp2_with fail;have hbe : ∀ W,Below w.heap.size w W → Below w.heap.size w (set5 W (b0 + 2) 0 (.int .i64 0) (.int .i64 0) (.string ⟨#[]⟩) (.slice none 0 0) (.slice none 0 0)) := fun W hW => hW.trans ((set5_kp W (b0 + 2) 0 _ _ _ _ _).toBelow hW.size fun q e => by rw [e,HBZ.out]; omega)
  unfold set5 at hbe;exact bodyPost_ret (results_two rfl _ _ _ ⟨b0 + 2,0,none⟩ (.agg #[.int .i64 0,.int .i64 0,.string ⟨#[]⟩,.slice none 0 0,.slice none 0 0]) (by go_simp) (by go_simp)) rfl (SeeFP.no HRN.out (hbe _ hbw1))
 subst hca;have HPM1 := HPM.out HCA.out;have s0 := (BS1.cell 0).trans rfl;have s1 := (BS1.cell 1).trans rfl;have s2 := (BS1.cell 2).trans rfl;have s3 := (BS1.cell 3).trans rfl;go_wp2_with fail;refine (HMC.out _ hbw1).mono ?_;rintro e w2 ⟨qn,vf,vr,rfl,⟨fa,fl,fc,rfl⟩,⟨ra,rl,rc,rfl⟩,hb2⟩;have hbw2 := hbw1.trans (hb2.mono hbw1.size);have BS2 := BS1.below hb2;have BT2 := BT1.below hb2;have BR2 := BR1.below hb2;have HPM2 : Hid _ := HPM1;clear s0 s1 s2 s3 BS1 BT1 BR1 hb2 hbw1 HMC HPM1 HPM HCA;obtain ⟨QB,hQB⟩ : ∃ z,(msgOf s nm).isSome = z := ⟨_,rfl⟩;have HQB : Hid ((msgOf s nm).isSome = QB) := hQB;rw [hQB] at HR ⊢;clear hQB;have alm : ∀ o,Below w2.heap.size w2 (w2.alloc o) := fun o => (Below.refl _ _).alloc (Nat.le_refl _) _
 have hl2 : b0 + 2 < w2.heap.size := BR2.lt;have hl1 : b0 + 1 < w2.heap.size := BT2.lt;have hl0 : b0 < w2.heap.size := BS2.lt
 cases QB with
 | false =>
  have HRN : Hid (R = (tr0,false)) := (by rw [← HR.out,if_neg (fun h => by cases h.2.1)] : R = _);clear HR HPM2 HVC HKS BS2 BT2;have r0 := (BR2.cell 0).trans rfl;have rz0 := BR2.froz 0;have r1 := (BR2.cell 1).trans rfl;have rz1 := BR2.froz 1;have r2 := (BR2.cell 2).trans rfl;have rz2 := BR2.froz 2;have r3 := (BR2.cell 3).trans rfl;have rz3 := BR2.froz 3;have r4 := (BR2.cell 4).trans rfl;have rz4 := BR2.froz 4;go_wp2_with fail
  have hbe : ∀ o,Below w.heap.size w ((set5 w2 (b0 + 2) 0 (.int .i64 0) (.int .i64 0) (.string ⟨#[]⟩) (.slice none 0 0) (.slice none 0 0)).alloc o) := fun o => by
   have h1 := hbw2.trans ((set5_kp w2 (b0 + 2) 0 (.int .i64 0) (.int .i64 0) (.string ⟨#[]⟩) (.slice none 0 0) (.slice none 0 0)).toBelow hbw2.size fun q e => by rw [e,HBZ.out]; omega);exact h1.alloc h1.size _
  unfold set5 at hbe;exact bodyPost_ret (results_two rfl _ _ _ ⟨b0 + 2,0,none⟩ (.agg #[.int .i64 0,.int .i64 0,.string ⟨#[]⟩,.slice none 0 0,.slice none 0 0]) (by go_simp) (by go_simp)) rfl (SeeFP.no HRN.out (hbe _))
 | true =>
  go_upto_region 6 with fail
  have hbw3 := hbw2.trans ((alm (Obj.cells #[.string qn,.slice fa fl fc,.slice ra rl rc] 46)).mono hbw2.size);have BS3 := BS2.below (alm (Obj.cells #[.string qn,.slice fa fl fc,.slice ra rl rc] 46));have BT3 := BT2.below (alm (Obj.cells #[.string qn,.slice fa fl fc,.slice ra rl rc] 46));have BR3 := BR2.below (alm (Obj.cells #[.string qn,.slice fa fl fc,.slice ra rl rc] 46));clear BS2 BT2 BR2 hbw2 alm hl0 hl1 hl2;generalize (w2.alloc (Obj.cells #[.string qn,.slice fa fl fc,.slice ra rl rc] 46)) = W3 at *;rw [HT3.out] at HR;have t0 := (BT3.cell 0).trans rfl;have t1 := (BT3.cell 1).trans rfl;have t2 := (BT3.cell 2).trans rfl;have t3 := (BT3.cell 3).trans rfl;have t4 := (BT3.cell 4).trans rfl
  by_cases hK3 : K = 3
  rotate_left
  ·have d : (K != 3) = true := by simpa using hK3
   have HRN : Hid (R = (tr0,false)) := (by rw [← HR.out,if_neg (fun h => hK3 h.2.2.1)] : R = _);clear hK3 HR HPM2 HVC HKS BS3 BT3 HT3;have r0 := (BR3.cell 0).trans rfl;have rz0 := BR3.froz 0;have r1 := (BR3.cell 1).trans rfl;have rz1 := BR3.froz 1;have r2 := (BR3.cell 2).trans rfl;have rz2 := BR3.froz 2;have r3 := (BR3.cell 3).trans rfl;have rz3 := BR3.froz 3;have r4 := (BR3.cell 4).trans rfl;have rz4 := BR3.froz 4;go_wp2_with fail;have hbe : ∀ W,Below w.heap.size w W → Below w.heap.size w (set5 W (b0 + 2) 0 (.int .i64 0) (.int .i64 0) (.string ⟨#[]⟩) (.slice none 0 0) (.slice none 0 0)) := fun W hW => hW.trans ((set5_kp W (b0 + 2) 0 _ _ _ _ _).toBelow hW.size fun q e => by rw [e,HBZ.out]; omega)
   unfold set5 at hbe;exact bodyPost_ret (results_two rfl _ _ _ ⟨b0 + 2,0,none⟩ (.agg #[.int .i64 0,.int .i64 0,.string ⟨#[]⟩,.slice none 0 0,.slice none 0 0]) (by go_simp) (by go_simp)) rfl (SeeFP.no HRN.out (hbe _ hbw3))
  subst hK3;go_wp2_with fail;refine (HVC.out _ hbw3).mono ?_;rintro e w4 ⟨rfl,hb4⟩;have hbw4 := hbw3.trans (hb4.mono hbw3.size);have BS4 := BS3.below hb4;have BT4 := BT3.below hb4;have BR4 := BR3.below hb4;clear t0 t1 t2 t3 t4 BS3 BT3 BR3 hb4 hbw3 HVC;obtain ⟨CB,hCB⟩ : ∃ z,chkN (n + 1) t = z := ⟨_,rfl⟩;have HCB : Hid (chkN (n + 1) t = CB) := hCB;rw [hCB] at HR ⊢;clear hCB
  cases CB with
  | false =>
   have HRN : Hid (R = (tr0,false)) := (by rw [← HR.out,if_neg (fun h => by cases h.2.2.2)] : R = _);clear HR HPM2 HKS BS4 BT4 HT3 HCB;have r0 := (BR4.cell 0).trans rfl;have rz0 := BR4.froz 0;have r1 := (BR4.cell 1).trans rfl;have rz1 := BR4.froz 1;have r2 := (BR4.cell 2).trans rfl;have rz2 := BR4.froz 2;have r3 := (BR4.cell 3).trans rfl;have rz3 := BR4.froz 3;have r4 := (BR4.cell 4).trans rfl;have rz4 := BR4.froz 4;go_wp2_with fail;have hbe : ∀ W,Below w.heap.size w W → Below w.heap.size w (set5 W (b0 + 2) 0 (.int .i64 0) (.int .i64 0) (.string ⟨#[]⟩) (.slice none 0 0) (.slice none 0 0)) := fun W hW => hW.trans ((set5_kp W (b0 + 2) 0 _ _ _ _ _).toBelow hW.size fun q e => by rw [e,HBZ.out]; omega)
   unfold set5 at hbe;exact bodyPost_ret (results_two rfl _ _ _ ⟨b0 + 2,0,none⟩ (.agg #[.int .i64 0,.int .i64 0,.string ⟨#[]⟩,.slice none 0 0,.slice none 0 0]) (by go_simp) (by go_simp)) rfl (SeeFP.no HRN.out (hbe _ hbw4))
  | true =>
   have HRY : Hid (R = (prM (n + 1) s nm t,true)) := (by rw [← HR.out,if_pos (by simp)] : R = _);have HPW : Hid (∀ W b F,KnP s w W b F → _) := HPM2.out HT3.out HCB.out;have hK5 := HKS.out w4 hbw4;have hl2 : b0 + 2 < w4.heap.size := BR4.lt;have hl1 : b0 + 1 < w4.heap.size := BT4.lt;have hl0 : b0 < w4.heap.size := BS4.lt;have HPX : Hid _ := HPW.out _ _ _ hK5;have s0 := (BS4.cell 0).trans rfl;have s1 := (BS4.cell 1).trans rfl;have s2 := (BS4.cell 2).trans rfl;have s3 := (BS4.cell 3).trans rfl;have t0 := (BT4.cell 0).trans rfl;have t1 := (BT4.cell 1).trans rfl;have t2 := (BT4.cell 2).trans rfl;have t3 := (BT4.cell 3).trans rfl;have t4 := (BT4.cell 4).trans rfl;have al5 : Below w4.heap.size w4 (w4.alloc (.map #[] 0)) := (Below.refl _ _).alloc (Nat.le_refl _) _;have BR5 := BR4.below al5;clear HPM2 HPW HKS HR BS4 BT4 BR4 HCB HT3;generalize prM (n + 1) s nm t = T at *;go_wp2_with fail;refine Calls.mono HPX.out ?_;rintro e w6 ⟨r,G,rfl,hg,hse⟩;obtain ⟨q1,q2,q3,q4,q5,q6,rfl⟩ := trC_open hse.now.trQ.trC
   have hnb : b0 + 2 ≠ w4.heap.size := by omega
   have BR6 := BR5.kp hg.kp hnb;have hnG : ¬ G (b0 + 2) := hg.fresh BR5 fun e => e
   have hk7 := set5_kp w6 (b0 + 2) 0 (.int .i64 T.kind) (.int .i64 T.n) (.string T.s) (.slice q1 q2 q3) (.slice q4 q5 q6);have hFIN : Hid (SeeFP (n + 1) R w (.returned (.tuple #[.agg #[.int .i64 T.kind,.int .i64 T.n,.string T.s,.slice q1 q2 q3,.slice q4 q5 q6],.bool true])) (set5 w6 (b0 + 2) 0 (.int .i64 T.kind) (.int .i64 T.n) (.string T.s) (.slice q1 q2 q3) (.slice q4 q5 q6))) := SeeFP.yes HRY.out (hg.kn.kp hk7 (fun k e => by rw [e,HBZ.out]; omega) (fun e => hnb e.symm) fun k e e2 => hnG (e2 ▸ e)) (hse.stay (Stay.kp hk7 (fun k e => (hg.kn.new k e).2) fun k e e2 => hnG (e2 ▸ e)));unfold set5 at hFIN;have r0 := (BR6.cell 0).trans rfl;have rz0 := BR6.froz 0;have r1 := (BR6.cell 1).trans rfl;have rz1 := BR6.froz 1;have r2 := (BR6.cell 2).trans rfl;have rz2 := BR6.froz 2;have r3 := (BR6.cell 3).trans rfl;have rz3 := BR6.froz 3;have r4 := (BR6.cell 4).trans rfl;have rz4 := BR6.froz 4;clear hse hg hk7 hnG hnb BR5 BR6 HPX hK5 HRY s0 s1 s2 s3 t0 t1 t2 t3 t4 al5 hl0 hl1 hl2;generalize T.kind = TK at *;generalize T.n = TN at *;generalize T.s = TS at *;go_wp2_with fail;refine bodyPost_ret (results_two rfl _ _ _ ⟨b0 + 2,0,none⟩ (.agg #[.int .i64 TK,.int .i64 TN,.string TS,.slice q1 q2 q3,.slice q4 q5 q6]) (by go_simp) (by go_simp)) rfl ?_;exact hFIN.out
end
section
theorem proj_twice {n : Nat} {s : ScS} {nm : ByteArray} {t R : Tr} (h : projA n s nm t = (R,true)) (hsm : SmN n t) : projA n s nm R = (R,true) ∧ FitT n s nm R ∧ bareN n R ∧ R = prM n s nm t ∧ t.kind = 3 ∧ OkS s ∧ chkN n R = true := by
 unfold projA at h
 by_cases hc : checkA s = 0 ∧ (msgOf s nm).isSome = true ∧ t.kind = 3 ∧ chkN n t = true
 ·rw [if_pos hc] at h;obtain ⟨h1,h2,h3,h4⟩ := hc;simp only [Prod.mk.injEq,and_true] at h;subst h;have hs := (checkA_ok s).1 h1;have hks := ok_kindsJ hs;simp only [chkN,Bool.and_eq_true,decide_eq_true_eq] at h4;obtain ⟨hf,hb⟩ := prM_fit hks n nm t h3 h4.2 hsm
  have hck : chkN n (prM n s nm t) = true := by
   simp only [chkN,Bool.and_eq_true,decide_eq_true_eq];exact ⟨Nat.le_trans (prM_dp n nm t h3) h4.1,hf.ok⟩
  refine ⟨?_,hf,hb,rfl,h3,hs,hck⟩;unfold projA;rw [if_pos ⟨h1,h2,by rw [hf.form],hck⟩,prM_twice hks h3 h4.2 hsm]
 ·rw [if_neg hc] at h
  simp at h
theorem one_cnt (n : Nat) (x : Tr) : 1 ≤ cntN (n + 1) x := by simp only [cntN]; omega
theorem sum_le {α : Type} {f g : α → Nat} : ∀ {l : List α},(∀ x ∈ l,f x ≤ g x) → (l.map f).sum ≤ (l.map g).sum
 | [],_ => Nat.le_refl _
 | a :: l,h => by
  have h1 := h a (List.mem_cons_self ..);have h2 := sum_le (l := l) fun x hx => h x (List.mem_cons_of_mem _ hx)
  simp only [List.map_cons,List.sum_cons]
  omega
theorem sum_drop {α : Type} (g : α → Nat) : ∀ (k : Nat) (l : List α),((l.drop k).map g).sum ≤ (l.map g).sum
 | 0,l => by simp
 | k + 1,[] => by simp
 | k + 1,a :: l => by
  have := sum_drop g k l;simp only [List.drop_succ_cons,List.map_cons,List.sum_cons]
  omega
theorem prM_cnt {s : ScS} : ∀ (n : Nat) (nm : ByteArray) (t : Tr),cntN n (prM n s nm t) ≤ cntN n t
 | 0,_,_ => Nat.le_refl _
 | n + 1,nm,t => by
  simp only [prM,cntN];refine Nat.add_le_add_left ?_ 1;generalize t.es = es
  induction es with
  | nil => exact Nat.le_refl _
  | cons e es ih =>
   have hsc : ((subs (e :: es)).map (cntN n)).sum = (e.2.map (cntN n)).sum + ((subs es).map (cntN n)).sum := by simp [subs]
   rw [hsc,List.filterMap_cons]
   cases hE : entP (prM n s) ((msgOf s nm).getD zMs).fields e with
   | none => simp only; omega
   | some e' =>
    have hsc' : ((subs (e' :: es.filterMap (entP (prM n s) ((msgOf s nm).getD zMs).fields))).map (cntN n)).sum = (e'.2.map (cntN n)).sum + ((subs (es.filterMap (entP (prM n s) ((msgOf s nm).getD zMs).fields))).map (cntN n)).sum := by simp [subs]
    simp only [hsc'];obtain ⟨f, -, -, -,rfl⟩ := entP_some hE
    have h1 : (((lastP f e.2).map (oneP (prM n s) f)).map (cntN n)).sum ≤ (e.2.map (cntN n)).sum := by
     rw [List.map_map];refine Nat.le_trans (sum_le (g := cntN n) fun x _ => ?_) ?_
     ·show cntN n (oneP (prM n s) f x) ≤ cntN n x
      unfold oneP
      split
      ·cases n with
       | zero => exact Nat.zero_le _
       | succ n => have := one_cnt n x; simp [cntN,subs] at this ⊢
      ·split
       ·exact prM_cnt n f.tname x
       ·exact Nat.le_refl _
     ·unfold lastP
      split
      ·exact Nat.le_refl _
      ·exact sum_drop _ _ _
    simp only at h1 ⊢
    omega
theorem proj_no {n : Nat} {s : ScS} {nm : ByteArray} {t R : Tr} (h : projA n s nm t = (R,false)) : R = tr0 := by
 unfold projA at h
 split at h
 ·simp at h
 ·simp only [Prod.mk.injEq,and_true] at h; exact h.symm
def topT (b : Bool) (t : Tr) : Tr := if b then ⟨t.kind,t.n,t.s,t.es,[]⟩ else t
def cutT (b : Bool) : Nat → Tr → Tr
 | 0,t => t
 | n + 1,t => ⟨t.kind,t.n,t.s,t.es.map fun e => (e.1,e.2.map (cutT b n)),if b then [] else t.rest⟩
theorem topT_kind (b : Bool) (t : Tr) : (topT b t).kind = t.kind := by cases b <;> rfl
theorem topT_n (b : Bool) (t : Tr) : (topT b t).n = t.n := by cases b <;> rfl
theorem topT_s (b : Bool) (t : Tr) : (topT b t).s = t.s := by cases b <;> rfl
theorem topT_es (b : Bool) (t : Tr) : (topT b t).es = t.es := by cases b <;> rfl
theorem topT_rest (b : Bool) (t : Tr) : (topT b t).rest = if b then [] else t.rest := by cases b <;> rfl
theorem topT_dp {b : Bool} {n : Nat} {t : Tr} (h : DpN n t) : DpN n (topT b t) := by
 cases n with
 | zero => exact h
 | succ n =>
  intro e he x hx;rw [topT_es] at he;exact h e he x hx
theorem topT_cnt (b : Bool) (n : Nat) (t : Tr) : cntN n (topT b t) = cntN n t := by
 cases n with
 | zero => rfl
 | succ n => simp only [cntN,topT_es]
theorem topT_sm {b : Bool} {n : Nat} {t : Tr} (h : SmN n t) : SmN n (topT b t) := by
 cases n with
 | zero => exact h
 | succ n =>
  cases b with
  | false => exact h
  | true => exact ⟨h.1,by simp [topT],h.2.2.1,(fun f hf => by simp [topT] at hf),h.2.2.2.2⟩
theorem cutT_top (b : Bool) (n : Nat) (t : Tr) (h : DpN n t) : cutT b n (topT b t) = cutT b n t := by
 cases n with
 | zero => exact h.elim
 | succ n => cases b <;> simp [cutT,topT]
theorem map_same {α : Type} {f : α → α} {l : List α} (h : ∀ x ∈ l,f x = x) : l.map f = l := by
 induction l with
 | nil => rfl
 | cons a l ih => rw [List.map_cons,h a (List.mem_cons_self ..),ih fun x hx => h x (List.mem_cons_of_mem _ hx)]
theorem cut_bare : ∀ (n : Nat) (t : Tr),bareN n t → cutT true n t = t
 | 0,_,_ => rfl
 | n + 1,⟨k,v,s,es,rest⟩,h => by
  obtain ⟨h1,h2⟩ := h;simp only at h1 h2;subst h1
  have h3 : (es.map fun e => (e.1,e.2.map (cutT true n))) = es := map_same fun e he => by
   rw [map_same fun x hx => cut_bare n x (h2 e he x hx)]
  simp only [cutT,h3,if_true]
end
section
open Go.ChangeShapes Go.WideShapes Go.ChangeAt Go.RowKit
theorem pjawake_any (w : World) : Calls Try.prog 9 #[] w fun e w' => e = .returned (.bool true) ∧ Below w.heap.size w w' := by
 have c1 : Hid (∀ W,Calls Try.prog 19 #[.int .i64 1099511627776] W fun e w' => e = .returned (.int .i64 2147483647) ∧ Below W.heap.size W w') := fun W => clamp_any 1099511627776 W
 have c2 : Hid (∀ W,Calls Try.prog 19 #[.int .i64 (-1099511627776)] W fun e w' => e = .returned (.int .i64 (-2147483648)) ∧ Below W.heap.size W w') := fun W => clamp_any (-1099511627776) W
 have c3 : Hid (∀ W,Calls Try.prog 19 #[.int .i64 5] W fun e w' => e = .returned (.int .i64 5) ∧ Below W.heap.size W w') := fun W => clamp_any 5 W
 go_enter Try.func9,Try.ntmps9
 go_wp2_with fail;refine (c1.out _).mono ?_;rintro e w1 ⟨rfl,h1⟩;go_wp2_with fail;refine (c2.out _).mono ?_;rintro e w2 ⟨rfl,h2⟩;have h2' := h1.trans (h2.mono h1.size);clear h2;go_wp2_with fail;refine (c3.out _).mono ?_;rintro e w3 ⟨rfl,h3⟩;have h3' := h2'.trans (h3.mono h2'.size);clear h3;go_wp2_with fail;go_ret;exact ⟨rfl,h3'⟩
theorem ints_any {w : World} {v : Value} {fs : List Int} (hr : RowG w v 1 (inRows fs)) (hl : fs.length ≤ 100) :
  Calls Try.prog 25 #[v] w fun e w' => ∃ r,e = .returned r ∧ w'.ownsRow w.heap.size 3 1 r fs.length (inRows fs).flatten ∧ Below w.heap.size w w' := by
 have hN : (inRows fs).length = fs.length := by simp [inRows]
 have HN : Hid ((inRows fs).length = fs.length) := hN;have HR : Hid (RowG w v 1 (inRows fs)) := hr;have HL : Hid (fs.length ≤ 100) := hl;clear hr hN hl
 go_enter Try.func25,Try.ntmps25
 go_wp2_with (first
  | (at_builtin; refine wpList_joinG rfl _ _ 42 3 1 8 _ rfl Try.underlying42 infoIn rfl (by decide) w.heap.size (.slice none 0 0) 0 [] rfl (World.ownsRow_nil _ _ _ _) v (inRows fs) rfl HR.out (inr_len fs) (inr_one fs) ?c1 (by decide) (Nat.le_refl _) ?_)
  | fail)
 case c1 => have h1 := HN.out; have h2 := HL.out; omega
 intro r w1 ho hg;have hb : Below w.heap.size w w1 := (Below.refl _ _).grown hg (Nat.le_refl _) (fun k hk => by cases hk)
 have HO : Hid (w1.ownsRow w.heap.size 3 1 r fs.length (inRows fs).flatten) := by
  show World.ownsRow _ _ _ _ _ _ _
  rw [HN.out] at ho;exact ho
 clear hg ho;go_wp2_with fail;go_ret;exact ⟨_,rfl,HO.out,hb⟩
theorem own_apart {w : World} {B B' : Nat} {e e' : TypeId} {s s' : Nat} {v v' : Value} {n n' : Nat} {xs xs' : List Value} (h : w.ownsRow B e s v n xs) (h' : w.ownsRow B' e' s' v' n' xs') (hne : e ≠ e') : ∀ k,v.ownBlock = some k → ¬ v'.ownBlock = some k := by
 intro k hk hk'
 rcases h.2 with ⟨rfl,_⟩ | ⟨q,cap,cur,rfl,_,hb,_⟩
 ·cases hk
 ·rcases h'.2 with ⟨rfl,_⟩ | ⟨q',cap',cur',rfl,_,hb',_⟩
  ·cases hk'
  ·simp only [Value.ownBlock,Option.some.injEq] at hk hk';subst hk;subst hk';rw [hb] at hb';simp only [Option.some.injEq,Obj.cells.injEq] at hb';exact hne hb'.2.1
def msRows (ms : List MsS) (ps : List (Value × Value)) : List (List Value) := List.zipWith (fun m p => [.string m.name,p.1,p.2]) ms ps
def enRows (es : List EnS) (ps : List Value) : List (List Value) := List.zipWith (fun m p => [.string m.name,p]) es ps
structure MsO (w : World) (B : Nat) (v : Value) (ms : List MsS) (ps : List (Value × Value)) : Prop where
 len : ps.length = ms.length
 own : w.ownsRow B 46 3 v ms.length (msRows ms ps).flatten
 each : ∀ (i : Nat) (m : MsS) (p : Value × Value),ms[i]? = some m → ps[i]? = some p → w.ownsRow B 54 5 p.1 m.fields.length (flRows m.fields).flatten ∧ w.ownsRow B 3 1 p.2 m.reserved.length (inRows m.reserved).flatten
 apart : ∀ (i j : Nat) (p q : Value × Value) (k : Nat),ps[i]? = some p → ps[j]? = some q → p.1.ownBlock = some k → q.1.ownBlock = some k → i = j
structure EnO (w : World) (B : Nat) (v : Value) (es : List EnS) (ps : List Value) : Prop where
 len : ps.length = es.length
 own : w.ownsRow B 63 2 v es.length (enRows es ps).flatten
 each : ∀ (i : Nat) (e : EnS) (p : Value),es[i]? = some e → ps[i]? = some p → w.ownsRow B 65 2 p e.values.length (nmRows e.values).flatten
theorem MsO.nil (w : World) (B : Nat) : MsO w B (.slice none 0 0) [] [] := ⟨rfl,World.ownsRow_nil _ _ _ _,fun i m p h => by simp at h,fun i j p q k h => by simp at h⟩
theorem EnO.nil (w : World) (B : Nat) : EnO w B (.slice none 0 0) [] [] := ⟨rfl,World.ownsRow_nil _ _ _ _,fun i m p h => by simp at h⟩
theorem MsO.kp {S : Nat → Prop} {w w1 : World} {B : Nat} {v : Value} {ms : List MsS} {ps : List (Value × Value)} (h : MsO w B v ms ps) (hk : Kp S w w1) (hs : ∀ k,B ≤ k → ¬ S k) : MsO w1 B v ms ps :=
 ⟨h.len,own_kp h.own hk hs,fun i m p hm hp => ⟨own_kp (h.each i m p hm hp).1 hk hs,own_kp (h.each i m p hm hp).2 hk hs⟩,h.apart⟩
theorem EnO.kp {S : Nat → Prop} {w w1 : World} {B : Nat} {v : Value} {ms : List EnS} {ps : List Value} (h : EnO w B v ms ps) (hk : Kp S w w1) (hs : ∀ k,B ≤ k → ¬ S k) : EnO w1 B v ms ps :=
 ⟨h.len,own_kp h.own hk hs,fun i m p hm hp => own_kp (h.each i m p hm hp) hk hs⟩
theorem MsO.beside {w w1 : World} {B B' : Nat} {v u : Value} {ms : List MsS} {ps : List (Value × Value)} {e : TypeId} {s n : Nat} {xs : List Value} (h : MsO w B v ms ps) (hu : w.ownsRow B' e s u n xs) (h1 : e ≠ 46) (h2 : e ≠ 54) (h3 : e ≠ 3) (hk : Kp (fun k => u.ownBlock = some k) w w1) : MsO w1 B v ms ps :=
 ⟨h.len,own_kpV h.own hk (fun k hk hu' => own_apart hu h.own h1 k hu' hk),fun i m p hm hp => ⟨own_kpV (h.each i m p hm hp).1 hk (fun k hk hu' => own_apart hu (h.each i m p hm hp).1 h2 k hu' hk),own_kpV (h.each i m p hm hp).2 hk (fun k hk hu' => own_apart hu (h.each i m p hm hp).2 h3 k hu' hk)⟩,h.apart⟩
theorem get_snoc {α : Type} {l : List α} {x y : α} {i : Nat} (h : (l ++ [x])[i]? = some y) : (i < l.length ∧ l[i]? = some y) ∨ (i = l.length ∧ y = x) := by
 rcases Nat.lt_or_ge i l.length with hi | hi
 ·rw [List.getElem?_append_left hi] at h; exact .inl ⟨hi,h⟩
 ·rw [List.getElem?_append_right hi] at h
  have : i - l.length = 0 := by
   rcases Nat.eq_zero_or_pos (i - l.length) with e | e
   ·exact e
   ·have : [x].length ≤ i - l.length := by simp; omega
    rw [List.getElem?_eq_none this] at h; cases h
  rw [this] at h
  simp at h
  exact .inr ⟨by omega,h.symm⟩
theorem ms_snoc {ms : List MsS} {ps : List (Value × Value)} (hl : ps.length = ms.length) (m : MsS) (p : Value × Value) : (msRows (ms ++ [m]) (ps ++ [p])).flatten = (msRows ms ps).flatten ++ [.string m.name,p.1,p.2] := by
 unfold msRows;rw [List.zipWith_append hl.symm]
 simp
theorem en_snoc {ms : List EnS} {ps : List Value} (hl : ps.length = ms.length) (m : EnS) (p : Value) : (enRows (ms ++ [m]) (ps ++ [p])).flatten = (enRows ms ps).flatten ++ [.string m.name,p] := by
 unfold enRows;rw [List.zipWith_append hl.symm]
 simp
theorem MsO.snoc {w w1 : World} {B H : Nat} {v v' vf vr : Value} {ms : List MsS} {ps : List (Value × Value)} {m : MsS} (h : MsO w B v ms ps) (hH : ∀ (i : Nat) (p : Value × Value) (k : Nat),ps[i]? = some p → p.1.ownBlock = some k → k < H) (hBH : B ≤ H) (hf : w.ownsRow H 54 5 vf m.fields.length (flRows m.fields).flatten) (hr : w.ownsRow H 3 1 vr m.reserved.length (inRows m.reserved).flatten)
  (ho : w1.ownsRow B 46 3 v' (ms.length + 1) ((msRows ms ps).flatten ++ [.string m.name,vf,vr])) (hk : Kp (fun k => v.ownBlock = some k) w w1) : MsO w1 B v' (ms ++ [m]) (ps ++ [(vf,vr)]) := by
 have kf : ∀ {B' : Nat} {u : Value} {n : Nat} {xs : List Value},w.ownsRow B' 54 5 u n xs → w1.ownsRow B' 54 5 u n xs := fun hu => own_kpV hu hk (fun k hk hv => own_apart h.own hu (by decide) k hv hk)
 have kr : ∀ {B' : Nat} {u : Value} {n : Nat} {xs : List Value},w.ownsRow B' 3 1 u n xs → w1.ownsRow B' 3 1 u n xs := fun hu => own_kpV hu hk (fun k hk hv => own_apart h.own hu (by decide) k hv hk)
 refine ⟨by simp [h.len],?_,?_,?_⟩
 ·rw [ms_snoc h.len,List.length_append]; exact ho
 ·intro i m' p hm hp
  rcases get_snoc hm with ⟨hi,hm⟩ | ⟨hi,rfl⟩
  ·rcases get_snoc hp with ⟨_,hp⟩ | ⟨hi',_⟩
   ·exact ⟨kf (h.each i m' p hm hp).1,kr (h.each i m' p hm hp).2⟩
   ·have := h.len; omega
  ·rcases get_snoc hp with ⟨hi',_⟩ | ⟨_,rfl⟩
   ·have := h.len; omega
   ·exact ⟨own_base (kf hf) hBH,own_base (kr hr) hBH⟩
 ·intro i j p q k hp hq hpk hqk
  rcases get_snoc hp with ⟨hi,hp⟩ | ⟨hi,rfl⟩
  ·rcases get_snoc hq with ⟨hj,hq⟩ | ⟨hj,rfl⟩
   ·exact h.apart i j p q k hp hq hpk hqk
   ·have a1 := hH i p k hp hpk;have a2 := (hf.lt k hqk).1
    omega
  ·rcases get_snoc hq with ⟨hj,hq⟩ | ⟨hj,rfl⟩
   ·have a1 := hH j q k hq hqk;have a2 := (hf.lt k hpk).1
    omega
   ·omega
theorem EnO.snoc {w w1 : World} {B H : Nat} {v v' vv : Value} {ms : List EnS} {ps : List Value} {m : EnS} (h : EnO w B v ms ps) (hBH : B ≤ H) (hf : w.ownsRow H 65 2 vv m.values.length (nmRows m.values).flatten)
  (ho : w1.ownsRow B 63 2 v' (ms.length + 1) ((enRows ms ps).flatten ++ [.string m.name,vv])) (hk : Kp (fun k => v.ownBlock = some k) w w1) : EnO w1 B v' (ms ++ [m]) (ps ++ [vv]) := by
 have kf : ∀ {B' : Nat} {u : Value} {n : Nat} {xs : List Value},w.ownsRow B' 65 2 u n xs → w1.ownsRow B' 65 2 u n xs := fun hu => own_kpV hu hk (fun k hk hv => own_apart h.own hu (by decide) k hv hk)
 refine ⟨by simp [h.len],?_,?_⟩
 ·rw [en_snoc h.len,List.length_append]; exact ho
 ·intro i m' p hm hp
  rcases get_snoc hm with ⟨hi,hm⟩ | ⟨hi,rfl⟩
  ·rcases get_snoc hp with ⟨_,hp⟩ | ⟨hi',_⟩
   ·exact kf (h.each i m' p hm hp)
   ·have := h.len; omega
  ·rcases get_snoc hp with ⟨hi',_⟩ | ⟨_,rfl⟩
   ·have := h.len; omega
   ·exact own_base (kf hf) hBH
theorem MsO.high {w : World} {B : Nat} {v : Value} {ms : List MsS} {ps : List (Value × Value)} (h : MsO w B v ms ps) : ∀ (i : Nat) (p : Value × Value) (k : Nat),ps[i]? = some p → p.1.ownBlock = some k → k < w.heap.size := by
 intro i p k hp hk
 have hi : i < ms.length := by rw [← h.len]; exact (List.getElem?_eq_some_iff.1 hp).1
 exact ((h.each i _ p (List.getElem?_eq_getElem hi) hp).1.lt k hk).2
theorem fl_len (fs : List FlS) : ∀ r ∈ flRows fs,r.length = 5 := by intro r hr; simp only [flRows,List.mem_map] at hr; obtain ⟨f,_,rfl⟩ := hr; rfl
theorem en_len (es : List EnS) (ps : List Value) : ∀ r ∈ enRows es ps,r.length = 2 := by
 intro r hr;unfold enRows at hr;rw [List.mem_iff_getElem?] at hr;obtain ⟨i,hi⟩ := hr;rw [List.getElem?_zipWith] at hi
 split at hi <;> simp at hi
 rw [← hi]; rfl
theorem ms_len (es : List MsS) (ps : List (Value × Value)) : ∀ r ∈ msRows es ps,r.length = 3 := by
 intro r hr;unfold msRows at hr;rw [List.mem_iff_getElem?] at hr;obtain ⟨i,hi⟩ := hr;rw [List.getElem?_zipWith] at hi
 split at hi <;> simp at hi
 rw [← hi]; rfl
theorem en_get {es : List EnS} {ps : List Value} {i : Nat} {e : EnS} {p : Value} (he : es[i]? = some e) (hp : ps[i]? = some p) : (enRows es ps)[i]? = some [.string e.name,p] := by
 unfold enRows;rw [List.getElem?_zipWith,he,hp]
theorem ms_get {es : List MsS} {ps : List (Value × Value)} {i : Nat} {e : MsS} {p : Value × Value} (he : es[i]? = some e) (hp : ps[i]? = some p) : (msRows es ps)[i]? = some [.string e.name,p.1,p.2] := by
 unfold msRows;rw [List.getElem?_zipWith,he,hp]
theorem MsO.below {w w1 : World} {B : Nat} {v : Value} {ms : List MsS} {ps : List (Value × Value)} (h : MsO w B v ms ps) (hk : Below w.heap.size w w1) : MsO w1 B v ms ps :=
 ⟨h.len,own_below h.own hk,fun i m p hm hp => ⟨own_below (h.each i m p hm hp).1 hk,own_below (h.each i m p hm hp).2 hk⟩,h.apart⟩
theorem EnO.below {w w1 : World} {B : Nat} {v : Value} {ms : List EnS} {ps : List Value} (h : EnO w B v ms ps) (hk : Below w.heap.size w w1) : EnO w1 B v ms ps :=
 ⟨h.len,own_below h.own hk,fun i m p hm hp => own_below (h.each i m p hm hp) hk⟩
theorem MsO.to_in {w : World} {B : Nat} {v : Value} {ms : List MsS} {ps : List (Value × Value)} (h : MsO w B v ms ps) : MsIn w v ms := by
 obtain ⟨h1,h2⟩ := RowG.own (ms_len ms ps) (by decide) h.own;refine ⟨msRows ms ps,h1,h2.symm,fun i m hm => ?_⟩;have hi := (List.getElem?_eq_some_iff.1 hm).1;obtain ⟨p,hp⟩ : ∃ p,ps[i]? = some p := ⟨_,List.getElem?_eq_getElem (by rw [h.len]; exact hi)⟩;exact ⟨p.1,p.2,ms_get hm hp,(RowG.own (fl_len m.fields) (by decide) (h.each i m p hm hp).1).1,(RowG.own (fun r hr => by simp only [inRows,List.mem_map] at hr; obtain ⟨_,_,rfl⟩ := hr; rfl) (by decide) (h.each i m p hm hp).2).1⟩
theorem EnO.to_in {w : World} {B : Nat} {v : Value} {ms : List EnS} {ps : List Value} (h : EnO w B v ms ps) : EnIn w v ms := by
 obtain ⟨h1,h2⟩ := RowG.own (en_len ms ps) (by decide) h.own;refine ⟨enRows ms ps,h1,h2.symm,fun i m hm => ?_⟩;have hi := (List.getElem?_eq_some_iff.1 hm).1;obtain ⟨p,hp⟩ : ∃ p,ps[i]? = some p := ⟨_,List.getElem?_eq_getElem (by rw [h.len]; exact hi)⟩;exact ⟨p,en_get hm hp,(RowG.own (fun r hr => by simp only [nmRows,List.mem_map] at hr; obtain ⟨_,_,rfl⟩ := hr; rfl) (by decide) (h.each i m p hm hp)).1⟩
theorem own_type {w : World} {B : Nat} {e : TypeId} {sz : Nat} {v : Value} {n : Nat} {xs : List Value} {k : Nat} {cs : Array Value} {t : TypeId} (h : w.ownsRow B e sz v n xs) (hk : v.ownBlock = some k) (hb : Blk w k cs t) : e = t := by
 rcases h.2 with ⟨rfl,_⟩ | ⟨q,cap,cur,rfl,_,hq,_⟩
 ·cases hk
 ·simp only [Value.ownBlock,Option.some.injEq] at hk;subst hk;unfold Blk at hb;rw [hq] at hb;simp only [Option.some.injEq,Obj.cells.injEq] at hb;exact hb.2.1
theorem own_blk {w w1 : World} {B : Nat} {e : TypeId} {sz n b : Nat} {v : Value} {xs : List Value} {cs : Array Value} {t : TypeId} (h : w.ownsRow B e sz v n xs) (hb : Blk w b cs t) (ht : e ≠ t) (hk : Kp (fun k => k = b) w w1) : w1.ownsRow B e sz v n xs :=
 own_kpV h hk (fun k hv e' => by subst e'; exact ht (own_type h hv hb))
theorem MsO.base {w : World} {B B' : Nat} {v : Value} {ms : List MsS} {ps : List (Value × Value)} (h : MsO w B v ms ps) (hb : B' ≤ B) : MsO w B' v ms ps :=
 ⟨h.len,own_base h.own hb,fun i m p hm hp => ⟨own_base (h.each i m p hm hp).1 hb,own_base (h.each i m p hm hp).2 hb⟩,h.apart⟩
theorem EnO.base {w : World} {B B' : Nat} {v : Value} {ms : List EnS} {ps : List Value} (h : EnO w B v ms ps) (hb : B' ≤ B) : EnO w B' v ms ps :=
 ⟨h.len,own_base h.own hb,fun i m p hm hp => own_base (h.each i m p hm hp) hb⟩
def ApR (ps : List (Value × Value)) : Prop := ∀ (i j : Nat) (p q : Value × Value) (k : Nat),ps[i]? = some p → ps[j]? = some q → p.2.ownBlock = some k → q.2.ownBlock = some k → i = j
def ApE (ps : List Value) : Prop := ∀ (i j : Nat) (p q : Value) (k : Nat),ps[i]? = some p → ps[j]? = some q → p.ownBlock = some k → q.ownBlock = some k → i = j
theorem ApR.nil : ApR [] := fun i j p q k hp => by simp at hp
theorem ApE.nil : ApE [] := fun i j p q k hp => by simp at hp
theorem ApR.snoc {ps : List (Value × Value)} {vf vr : Value} {H : Nat} (h : ApR ps) (hH : ∀ (i : Nat) (p : Value × Value) (k : Nat),ps[i]? = some p → p.2.ownBlock = some k → k < H) (hr : ∀ k,vr.ownBlock = some k → H ≤ k) : ApR (ps ++ [(vf,vr)]) := by
 intro i j p q k hp hq hpk hqk
 rcases get_snoc hp with ⟨hi,hp⟩ | ⟨hi,rfl⟩
 ·rcases get_snoc hq with ⟨hj,hq⟩ | ⟨hj,rfl⟩
  ·exact h i j p q k hp hq hpk hqk
  ·have a1 := hH i p k hp hpk;have a2 := hr k hqk
   omega
 ·rcases get_snoc hq with ⟨hj,hq⟩ | ⟨hj,rfl⟩
  ·have a1 := hH j q k hq hqk;have a2 := hr k hpk
   omega
  ·omega
theorem ApE.snoc {ps : List Value} {vr : Value} {H : Nat} (h : ApE ps) (hH : ∀ (i : Nat) (p : Value) (k : Nat),ps[i]? = some p → p.ownBlock = some k → k < H) (hr : ∀ k,vr.ownBlock = some k → H ≤ k) : ApE (ps ++ [vr]) := by
 intro i j p q k hp hq hpk hqk
 rcases get_snoc hp with ⟨hi,hp1⟩ | ⟨hi,ep⟩
 ·rcases get_snoc hq with ⟨hj,hq1⟩ | ⟨hj,eq⟩
  ·exact h i j p q k hp1 hq1 hpk hqk
  ·have a1 := hH i p k hp1 hpk;rw [eq] at hqk;have a2 := hr k hqk
   omega
 ·rcases get_snoc hq with ⟨hj,hq1⟩ | ⟨hj,eq⟩
  ·have a1 := hH j q k hq1 hqk;rw [ep] at hpk;have a2 := hr k hpk
   omega
  ·omega
theorem MsO.highR {w : World} {B : Nat} {v : Value} {ms : List MsS} {ps : List (Value × Value)} (h : MsO w B v ms ps) : ∀ (i : Nat) (p : Value × Value) (k : Nat),ps[i]? = some p → p.2.ownBlock = some k → k < w.heap.size := by
 intro i p k hp hk
 have hi : i < ms.length := by rw [← h.len]; exact (List.getElem?_eq_some_iff.1 hp).1
 exact ((h.each i _ p (List.getElem?_eq_getElem hi) hp).2.lt k hk).2
theorem EnO.highE {w : World} {B : Nat} {v : Value} {ms : List EnS} {ps : List Value} (h : EnO w B v ms ps) : ∀ (i : Nat) (p : Value) (k : Nat),ps[i]? = some p → p.ownBlock = some k → k < w.heap.size := by
 intro i p k hp hk
 have hi : i < ms.length := by rw [← h.len]; exact (List.getElem?_eq_some_iff.1 hp).1
 exact ((h.each i _ p (List.getElem?_eq_getElem hi) hp).lt k hk).2
theorem schema_ap {w : World} {v : Value} {s : ScS} (hr : ScIn w v s) (hf : FewL s) :
  Calls Try.prog 11 #[v] w fun e w' => ∃ vm ve vt pm pe,e = .returned (.agg #[.string s.name,vm,ve,vt]) ∧ MsO w' w.heap.size vm s.msgs pm ∧ EnO w' w.heap.size ve s.enums pe ∧ w'.ownsRow w.heap.size 67 3 vt s.methods.length (mtRows s.methods).flatten ∧ Below w.heap.size w w' ∧ ApR pm ∧ ApE pe := by
 obtain ⟨vm0,ve0,vt0,rfl,hm,he,ht⟩ := hr;obtain ⟨am,cm,rfl,qm1,qm2⟩ := hm.form2;obtain ⟨ae,ce,rfl,qe1,qe2⟩ := he.form2;obtain ⟨at',ct,rfl,qt1,qt2⟩ := ht.form2
 have hT : (mtRows s.methods).length = s.methods.length := by simp [mtRows]
 rw [hT] at ht qt1 ⊢;clear hT;have HM : Hid (MsIn w (.slice am s.msgs.length cm) s.msgs) := hm;have HE : Hid (EnIn w (.slice ae s.enums.length ce) s.enums) := he;have HT : Hid (RowG w (.slice at' s.methods.length ct) 3 (mtRows s.methods)) := ht;have HF : Hid (FewL s) := hf;have h1 := hf.msgs;have h2 := hf.enums;have h3 := hf.meths;obtain ⟨nm,ms,es,ts⟩ := s;simp only at *;have HM : Hid (MsIn w (.slice am ms.length cm) ms) := HM;have HE : Hid (EnIn w (.slice ae es.length ce) es) := HE;have HT : Hid (RowG w (.slice at' ts.length ct) 3 (mtRows ts)) := HT;obtain ⟨M,hM⟩ : ∃ N,ms.length = N := ⟨_,rfl⟩;obtain ⟨E,hE⟩ : ∃ N,es.length = N := ⟨_,rfl⟩;obtain ⟨T,hT⟩ : ∃ N,ts.length = N := ⟨_,rfl⟩;rw [hM] at HM qm1 h1 ⊢;rw [hE] at HE qe1 h2 ⊢;rw [hT] at HT qt1 h3 ⊢;have HNM : Hid (ms.length = M) := hM;have HNE : Hid (es.length = E) := hE;have HNT : Hid (ts.length = T) := hT
 have HNR : Hid ((mtRows ts).length = T) := by show _ = _; simp [mtRows,hT]
 clear hM hE hT hf hm he ht
 go_enter Try.func11,Try.ntmps11
 go_wp2_with fail;refine M_region (T := fun W => W.cell? ⟨w.heap.size,0,none⟩ = some (.string nm) ∧ W.cell? ⟨w.heap.size,3,none⟩ = some (.slice at' T ct)) (m := 7) (by kernel_rfl) ?_;have HB0 : Hid (Below w.heap.size w ((w.alloc (.cells #[.string nm,.slice am M cm,.slice ae E ce,.slice at' T ct] 26)).alloc (.cells #[.string ⟨#[]⟩,.slice none 0 0,.slice none 0 0,.slice none 0 0] 26)).drew) := below_drewN 1 (((Below.refl _ _).alloc (Nat.le_refl _) _).alloc (by simp) _);have HX0 : Hid (Blk ((w.alloc (.cells #[.string nm,.slice am M cm,.slice ae E ce,.slice at' T ct] 26)).alloc (.cells #[.string ⟨#[]⟩,.slice none 0 0,.slice none 0 0,.slice none 0 0] 26)).drew w.heap.size #[.string nm,.slice am M cm,.slice ae E ce,.slice at' T ct] 26) := (Blk.new w _ _).below (below_drewN 1 ((Below.refl _ _).alloc (Nat.le_refl _) _))
 have HR0 : Hid (Blk ((w.alloc (.cells #[.string nm,.slice am M cm,.slice ae E ce,.slice at' T ct] 26)).alloc (.cells #[.string ⟨#[]⟩,.slice none 0 0,.slice none 0 0,.slice none 0 0] 26)).drew (w.heap.size + 1) #[.string ⟨#[]⟩,.slice none 0 0,.slice none 0 0,.slice none 0 0] 26) := by
  have := Blk.new (w.alloc (.cells #[.string nm,.slice am M cm,.slice ae E ce,.slice at' T ct] 26)) #[.string ⟨#[]⟩,.slice none 0 0,.slice none 0 0,.slice none 0 0] 26;rw [show (w.alloc (.cells #[.string nm,.slice am M cm,.slice ae E ce,.slice at' T ct] 26)).heap.size = w.heap.size + 1 by simp] at this;exact this
 have HS0 : Hid (((w.alloc (.cells #[.string nm,.slice am M cm,.slice ae E ce,.slice at' T ct] 26)).alloc (.cells #[.string ⟨#[]⟩,.slice none 0 0,.slice none 0 0,.slice none 0 0] 26)).drew.heap.size = w.heap.size + 2) := by show _ = _; simp [World.drew]
 generalize ((w.alloc (.cells #[.string nm,.slice am M cm,.slice ae E ce,.slice at' T ct] 26)).alloc (.cells #[.string ⟨#[]⟩,.slice none 0 0,.slice none 0 0,.slice none 0 0] 26)).drew = W0 at *;have hT : W0.cell? ⟨w.heap.size,0,none⟩ = some (.string nm) ∧ W0.cell? ⟨w.heap.size,3,none⟩ = some (.slice at' T ct) := ⟨HX0.out.cell 0,HX0.out.cell 3⟩;obtain ⟨b0,hb0⟩ : ∃ n,w.heap.size = n := ⟨_,rfl⟩;rw [hb0] at HX0 HR0 HS0 hT ⊢;have HBZ : Hid (w.heap.size = b0) := hb0;clear hb0;refine M_take 0 7 (.pointer (some ⟨b0,0,none⟩)) _ rfl rfl (by kernel_rfl) (by kernel_rfl) (by kernel_rfl) (by kernel_rfl) (by kernel_rfl) (fun _ _ _ h => h) (by rfl) (fun w' hw' => ?_) hT (listed' := bts 8 1) (by kernel_rfl) rfl ?_
 ·obtain ⟨g0,g3⟩ := hw'; go_simp
 simp only [zsA,zsZ,zsS];refine M_take 2 9 (.pointer (some ⟨b0,3,none⟩)) _ rfl rfl (by kernel_rfl) (by kernel_rfl) (by kernel_rfl) (by kernel_rfl) (by kernel_rfl) (fun _ _ _ h => h) (by rfl) (fun w' hw' => ?_) hT (listed' := bts 8 5) (by kernel_rfl) rfl ?_
 ·obtain ⟨g0,g3⟩ := hw'; go_simp
 simp only [zsA,zsZ,zsS];refine M_take 1 8 (.string nm) _ rfl rfl (by kernel_rfl) (by kernel_rfl) (by kernel_rfl) (by kernel_rfl) (by kernel_rfl) (fun _ _ _ h => h) (by rfl) (fun w' hw' => ?_) hT (listed' := bts 8 7) (by kernel_rfl) rfl ?_
 ·obtain ⟨g0,g3⟩ := hw'; go_simp
 simp only [zsA,zsZ,zsS];refine M_take 3 10 (.slice at' T ct) _ rfl rfl (by kernel_rfl) (by kernel_rfl) (by kernel_rfl) (by kernel_rfl) (by kernel_rfl) (fun _ _ _ h => h) (by rfl) (fun w' hw' => ?_) hT (listed' := bts 8 15) (by kernel_rfl) rfl ?_
 ·obtain ⟨g0,g3⟩ := hw'; go_simp
 simp only [zsA,zsZ,zsS]
 have HAPP : Hid (∀ W : World,Below W0.heap.size W0 W → ∃ u W1,(Builtin.append_ #[24,24] 24 #[.slice none 0 0,.slice at' T ct]).run Try.prog W = .ok u W1 ∧ (∃ a c,u = .slice a T c) ∧ W1.ownsRow (b0 + 2) 67 3 u T (mtRows ts).flatten ∧ Below W.heap.size W W1) := fun W hW => by
  obtain ⟨u,W1,r1,r2,r3⟩ := run_joinG (w := W) 24 24 67 3 48 _ Try.underlying24 infoMt rfl (by decide) (b0 + 2) (.slice none 0 0) 0 [] (World.ownsRow_nil _ _ _ _) (.slice at' T ct) (mtRows ts) (HT.out.below (HB0.out.trans (hW.mono HB0.out.size))) (mtr_len ts) (mtr_one ts) (by have := HNR.out; omega) (by decide) (by have := hW.size; have := HS0.out; omega);rw [List.nil_append,HNR.out,Nat.zero_add] at r2;exact ⟨u,W1,r1,own_form r2,r2,(Below.refl _ _).grown r3 (Nat.le_refl _) (fun k hk => by cases hk)⟩
 have hTb : ∀ W,Below W0.heap.size W0 W → W.cell? ⟨b0,0,none⟩ = some (.string nm) ∧ W.cell? ⟨b0,3,none⟩ = some (.slice at' T ct) := fun W hW => ⟨(HX0.out.below hW).cell 0,(HX0.out.below hW).cell 3⟩
 have hAl : ∀ W : World,Below W.heap.size W (W.alloc (.cells #[.string ⟨#[]⟩,.slice none 0 0,.slice none 0 0,.slice none 0 0] 26)) := fun W => (Below.refl _ _).alloc (Nat.le_refl _) _
 refine M_aa 4 6 5 11 3 12 (fun W => .pointer (some ⟨W.heap.size,0,none⟩)) (fun W => W.alloc (.cells #[.string ⟨#[]⟩,.slice none 0 0,.slice none 0 0,.slice none 0 0] 26)) (fun u => .agg #[.string nm,.slice none 0 0,.slice none 0 0,u]) (fun u => ∃ a c,u = .slice a T c)
  (fun u p W => ∃ bt,p = .pointer (some ⟨bt,0,none⟩) ∧ b0 + 2 ≤ bt ∧ Blk W bt #[.string ⟨#[]⟩,.slice none 0 0,.slice none 0 0,.slice none 0 0] 26 ∧ W.ownsRow (b0 + 2) 67 3 u T (mtRows ts).flatten ∧ Below W0.heap.size W0 W)
  rfl rfl rfl rfl rfl rfl (by decide) (by decide) (by decide) (by decide) (by kernel_rfl) (by kernel_rfl) (by kernel_rfl) (by kernel_rfl) (by kernel_rfl) (fun _ => rfl) (fun _ => rfl) (fun _ => rfl) (by kernel_rfl) (by kernel_rfl) (by kernel_rfl) (by kernel_rfl) (fun _ _ _ _ h => h) ?x2 ?hA ?hB ?xk ?xk' ?_
 case x2 => intro a' W'; go_simp
 case hA =>
  obtain ⟨u,W1,r1,r2,r3,r4⟩ := HAPP.out W0 (Below.refl _ _);have r5 : Below W0.heap.size W0 (W1.alloc (.cells #[.string ⟨#[]⟩,.slice none 0 0,.slice none 0 0,.slice none 0 0] 26)) := r4.trans ((hAl W1).mono r4.size);exact ⟨u,W1,append_run rfl rfl rfl r1,r2,hTb W1 r4,hTb _ r5,W1.heap.size,rfl,by have := r4.size; have := HS0.out; omega,Blk.new W1 _ _,own_below r3 (hAl W1),r5⟩
 case hB =>
  refine ⟨hTb _ (hAl W0),?_⟩;obtain ⟨u,W1,r1,r2,r3,r4⟩ := HAPP.out _ (hAl W0);have r5 : Below W0.heap.size W0 W1 := (hAl W0).trans (r4.mono (hAl W0).size);exact ⟨u,W1,append_run rfl rfl rfl r1,r2,hTb W1 r5,W0.heap.size,rfl,by have := HS0.out; omega,(Blk.new W0 _ _).below r4,r3,r5⟩
 case xk => rintro u W' ⟨a,c,rfl⟩; go_simp
 case xk' => rintro u v W' ⟨a,c,rfl⟩; go_simp
 rintro u p W1 ⟨ua,uc,rfl⟩ _ ⟨bt,rfl,hbt,BT,ho,hbel⟩;simp only [zsA,zsZ,zsS];have HO : Hid (W1.ownsRow (b0 + 2) 67 3 (.slice ua T uc) T (mtRows ts).flatten) := ho;have HX1 := HX0.out.below hbel;have HR1 := HR0.out.below hbel;have hbw : Below w.heap.size w W1 := HB0.out.trans (hbel.mono HB0.out.size);have t0 := (BT.cell 0).trans rfl;have t1 := (BT.cell 1).trans rfl;have t2 := (BT.cell 2).trans rfl;have t3 := (BT.cell 3).trans rfl;have z0 := BT.froz 0;have z1 := BT.froz 1;have z2 := BT.froz 2;have z3 := BT.froz 3;refine M_store 7 ((((W1.setCell ⟨bt,0,none⟩ (.string nm)).setCell ⟨bt,1,none⟩ (.slice none 0 0)).setCell ⟨bt,2,none⟩ (.slice none 0 0)).setCell ⟨bt,3,none⟩ (.slice ua T uc)) rfl rfl (by kernel_rfl) (by rfl) (listed' := bts 8 255) (by kernel_rfl) (by go_simp) (by kernel_rfl) ?_;refine M_done (by kernel_rfl) ?_ _
 have KS : Kp (fun k => k = bt) W1 ((((W1.setCell ⟨bt,0,none⟩ (.string nm)).setCell ⟨bt,1,none⟩ (.slice none 0 0)).setCell ⟨bt,2,none⟩ (.slice none 0 0)).setCell ⟨bt,3,none⟩ (.slice ua T uc)) := by
  refine Kp.setCell ?_ (fun _ => by simp) _;refine Kp.setCell ?_ (fun _ => by simp) _;refine Kp.setCell ?_ (fun _ => by simp) _;refine Kp.setCell ?_ (fun _ => by simp) _;exact Kp.refl _ _
 have BA : Blk (W1.setCell ⟨bt,0,none⟩ (.string nm)) bt #[.string nm,.slice none 0 0,.slice none 0 0,.slice none 0 0] 26 := BT.set 0 (.string nm) rfl;have BB : Blk ((W1.setCell ⟨bt,0,none⟩ (.string nm)).setCell ⟨bt,1,none⟩ (.slice none 0 0)) bt #[.string nm,.slice none 0 0,.slice none 0 0,.slice none 0 0] 26 := BA.set 1 (.slice none 0 0) rfl;have BC : Blk (((W1.setCell ⟨bt,0,none⟩ (.string nm)).setCell ⟨bt,1,none⟩ (.slice none 0 0)).setCell ⟨bt,2,none⟩ (.slice none 0 0)) bt #[.string nm,.slice none 0 0,.slice none 0 0,.slice none 0 0] 26 := BB.set 2 (.slice none 0 0) rfl;have BT2 : Blk ((((W1.setCell ⟨bt,0,none⟩ (.string nm)).setCell ⟨bt,1,none⟩ (.slice none 0 0)).setCell ⟨bt,2,none⟩ (.slice none 0 0)).setCell ⟨bt,3,none⟩ (.slice ua T uc)) bt #[.string nm,.slice none 0 0,.slice none 0 0,.slice ua T uc] 26 := BC.set 3 (.slice ua T uc) rfl;clear BA BB BC;have HO2 : Hid (((((W1.setCell ⟨bt,0,none⟩ (.string nm)).setCell ⟨bt,1,none⟩ (.slice none 0 0)).setCell ⟨bt,2,none⟩ (.slice none 0 0)).setCell ⟨bt,3,none⟩ (.slice ua T uc)).ownsRow (b0 + 2) 67 3 (.slice ua T uc) T (mtRows ts).flatten) := own_blk HO.out BT (by decide) KS;have BX2 := HX1.kp KS (by omega);have BR2 := HR1.kp KS (by omega);have hb2 : Below w.heap.size w ((((W1.setCell ⟨bt,0,none⟩ (.string nm)).setCell ⟨bt,1,none⟩ (.slice none 0 0)).setCell ⟨bt,2,none⟩ (.slice none 0 0)).setCell ⟨bt,3,none⟩ (.slice ua T uc)) := hbw.trans (KS.toBelow hbw.size (fun k e => by have := HBZ.out; omega));generalize ((((W1.setCell ⟨bt,0,none⟩ (.string nm)).setCell ⟨bt,1,none⟩ (.slice none 0 0)).setCell ⟨bt,2,none⟩ (.slice none 0 0)).setCell ⟨bt,3,none⟩ (.slice ua T uc)) = W2 at *;have hbt2 : bt < W2.heap.size := BT2.lt;clear t0 t1 t2 t3 z0 z1 z2 z3 KS HO HX1 HR1 hbw BT ho hbel hT hTb HAPP HB0 HX0 HR0 HS0 hAl;have HMS0 : Hid (MsO W2 (bt + 1) (.slice none 0 0) (ms.take 0) []) := MsO.nil W2 (bt + 1);go_wp2_with fail
 go_loopw [4] (fun iv wr => ∃ (k : Nat) (va : Option Addr) (vc : Nat) (pm : List (Value × Value)),iv = .int .i64 (k : Int) ∧ k ≤ M ∧ Hid (MsO wr (bt + 1) (.slice va k vc) (ms.take k) pm) ∧ Hid (ApR pm) ∧ Blk wr bt #[.string nm,.slice va k vc,.slice none 0 0,.slice ua T uc] 26 ∧ Hid (wr.ownsRow (b0 + 2) 67 3 (.slice ua T uc) T (mtRows ts).flatten) ∧ Blk wr b0 #[.string nm,.slice am M cm,.slice ae E ce,.slice at' T ct] 26 ∧ Blk wr (b0 + 1) #[.string ⟨#[]⟩,.slice none 0 0,.slice none 0 0,.slice none 0 0] 26 ∧ Below w.heap.size w wr) (fun iv _ => M - (intOf iv).toNat)
 case atStart => exact ⟨0,none,0,[],rfl,by omega,HMS0,ApR.nil,BT2,HO2,BX2,BR2,hb2⟩
 case round =>
  obtain ⟨k,va,vc,pm,rfl,hk,HMS,HAR,BT,HO,BX,BR,hbel⟩ := hrel;clear HMS0 BT2 HO2 BX2 BR2 hb2 hbt2;have hbtw : bt < wr.heap.size := BT.lt;have x1 : wr.cell? ⟨b0,1,none⟩ = some (.slice am M cm) := BX.cell 1
  by_cases hlt : k < M
  ·obtain ⟨m,hm⟩ : ∃ n,ms[k]? = some n := ⟨_,List.getElem?_eq_getElem (by rw [HNM.out]; exact hlt)⟩;obtain ⟨g,off,vf,vr,rfl,c0,c1,c2,hrf,hrr⟩ := (HM.out.below hbel).get hm;have HFf : Hid (RowG wr vf 5 (flRows m.fields)) := hrf;have HRr : Hid (RowG wr vr 1 (inRows m.reserved)) := hrr;obtain ⟨a3,c3,rfl,_,_⟩ := hrf.form2;obtain ⟨a4,c4,rfl,_,_⟩ := hrr.form2;have HFl : Hid (m.fields.length ≤ 20 ∧ m.reserved.length ≤ 40) := HF.out.flds m (List.mem_of_getElem? hm);have HTK : Hid (ms.take (k + 1) = ms.take k ++ [m]) := take_at hm
   have HLK : Hid ((ms.take k).length = k) := by show _ = _; rw [List.length_take,HNM.out]; omega
   obtain ⟨m0,mf,mr⟩ := m;simp only at c0 c1 c2 HFl HTK;have HFf : Hid (RowG wr (.slice a3 (flRows mf).length c3) 5 (flRows mf)) := HFf;have HRr : Hid (RowG wr (.slice a4 (inRows mr).length c4) 1 (inRows mr)) := HRr;generalize hnF : (flRows mf).length = nF at *;generalize hnR : (inRows mr).length = nR at *;clear hrf hrr hm hnF hnR
   have HLF : Hid ((flRows mf).length = mf.length) := by show _ = _; simp [flRows]
   go_wp2_with fail;clear c0 c1 c2 x1;refine M_region (T := fun W => W.cell? ⟨bt,1,none⟩ = some (.slice va k vc) ∧ W.cell? ⟨wr.heap.size,0,none⟩ = some (.string m0) ∧ W.cell? ⟨wr.heap.size,1,none⟩ = some (.slice a3 nF c3) ∧ W.cell? ⟨wr.heap.size,2,none⟩ = some (.slice a4 nR c4)) (m := 14) (by kernel_rfl) ?_;have hb0 : Below wr.heap.size wr (wr.alloc (.cells #[.string m0,.slice a3 nF c3,.slice a4 nR c4] 46)).drew := below_drewN 1 ((Below.refl _ _).alloc (Nat.le_refl _) _);have BM0 : Blk (wr.alloc (.cells #[.string m0,.slice a3 nF c3,.slice a4 nR c4] 46)).drew wr.heap.size #[.string m0,.slice a3 nF c3,.slice a4 nR c4] 46 := Blk.new wr #[.string m0,.slice a3 nF c3,.slice a4 nR c4] 46;generalize (wr.alloc (.cells #[.string m0,.slice a3 nF c3,.slice a4 nR c4] 46)).drew = W0 at *;have BT0 := BT.below hb0;have BX0 := BX.below hb0;have BR0 := BR.below hb0;have HMS0 : Hid (MsO W0 (bt + 1) (.slice va k vc) (ms.take k) pm) := HMS.out.below hb0;have HO0 : Hid (W0.ownsRow (b0 + 2) 67 3 (.slice ua T uc) T (mtRows ts).flatten) := own_below HO.out hb0;have HF0 : Hid (RowG W0 (.slice a3 nF c3) 5 (flRows mf)) := HFf.out.below hb0;have HR0 : Hid (RowG W0 (.slice a4 nR c4) 1 (inRows mr)) := HRr.out.below hb0;have hbel0 : Below w.heap.size w W0 := hbel.trans (hb0.mono hbel.size);have HOB : Hid (∀ q,(Value.slice va k vc).ownBlock = some q → q < wr.heap.size) := fun q hq => (HMS.out.own.lt q hq).2
   obtain ⟨bm,hbm⟩ : ∃ n,wr.heap.size = n := ⟨_,rfl⟩;rw [hbm] at BM0 hbtw HOB ⊢;clear hbm BT BX BR HMS HO HFf HRr hb0 hbel;have hTW : ∀ W,Below W0.heap.size W0 W → W.cell? ⟨bt,1,none⟩ = some (.slice va k vc) ∧ W.cell? ⟨bm,0,none⟩ = some (.string m0) ∧ W.cell? ⟨bm,1,none⟩ = some (.slice a3 nF c3) ∧ W.cell? ⟨bm,2,none⟩ = some (.slice a4 nR c4) := fun W hW => ⟨(BT0.below hW).cell 1,(BM0.below hW).cell 0,(BM0.below hW).cell 1,(BM0.below hW).cell 2⟩
   have hT := hTW W0 (Below.refl _ _);refine M_take 0 25 (.pointer (some ⟨bt,1,none⟩)) _ rfl rfl (by kernel_rfl) (by kernel_rfl) (by kernel_rfl) (by kernel_rfl) (by kernel_rfl) (fun _ _ _ h => h) (by rfl) (fun w' hw' => ?_) hT (listed' := bts 15 1) (by kernel_rfl) rfl ?_
   ·obtain ⟨g0,g1,g2,g3⟩ := hw'; go_simp
   simp only [zsA,zsZ,zsS];refine M_take 2 27 (.pointer (some ⟨bm,0,none⟩)) _ rfl rfl (by kernel_rfl) (by kernel_rfl) (by kernel_rfl) (by kernel_rfl) (by kernel_rfl) (fun _ _ _ h => h) (by rfl) (fun w' hw' => ?_) hT (listed' := bts 15 5) (by kernel_rfl) rfl ?_
   ·obtain ⟨g0,g1,g2,g3⟩ := hw'; go_simp
   simp only [zsA,zsZ,zsS];refine M_take 4 29 (.pointer (some ⟨bm,1,none⟩)) _ rfl rfl (by kernel_rfl) (by kernel_rfl) (by kernel_rfl) (by kernel_rfl) (by kernel_rfl) (fun _ _ _ h => h) (by rfl) (fun w' hw' => ?_) hT (listed' := bts 15 21) (by kernel_rfl) rfl ?_
   ·obtain ⟨g0,g1,g2,g3⟩ := hw'; go_simp
   simp only [zsA,zsZ,zsS];refine M_take 7 32 (.pointer (some ⟨bm,2,none⟩)) _ rfl rfl (by kernel_rfl) (by kernel_rfl) (by kernel_rfl) (by kernel_rfl) (by kernel_rfl) (fun _ _ _ h => h) (by rfl) (fun w' hw' => ?_) hT (listed' := bts 15 149) (by kernel_rfl) rfl ?_
   ·obtain ⟨g0,g1,g2,g3⟩ := hw'; go_simp
   simp only [zsA,zsZ,zsS];refine M_take 1 26 (.slice va k vc) _ rfl rfl (by kernel_rfl) (by kernel_rfl) (by kernel_rfl) (by kernel_rfl) (by kernel_rfl) (fun _ _ _ h => h) (by rfl) (fun w' hw' => ?_) hT (listed' := bts 15 151) (by kernel_rfl) rfl ?_
   ·obtain ⟨g0,g1,g2,g3⟩ := hw'; go_simp
   simp only [zsA,zsZ,zsS];refine M_take 3 28 (.string m0) _ rfl rfl (by kernel_rfl) (by kernel_rfl) (by kernel_rfl) (by kernel_rfl) (by kernel_rfl) (fun _ _ _ h => h) (by rfl) (fun w' hw' => ?_) hT (listed' := bts 15 159) (by kernel_rfl) rfl ?_
   ·obtain ⟨g0,g1,g2,g3⟩ := hw'; go_simp
   simp only [zsA,zsZ,zsS];refine M_take 5 30 (.slice a3 nF c3) _ rfl rfl (by kernel_rfl) (by kernel_rfl) (by kernel_rfl) (by kernel_rfl) (by kernel_rfl) (fun _ _ _ h => h) (by rfl) (fun w' hw' => ?_) hT (listed' := bts 15 191) (by kernel_rfl) rfl ?_
   ·obtain ⟨g0,g1,g2,g3⟩ := hw'; go_simp
   simp only [zsA,zsZ,zsS];refine M_take 8 33 (.slice a4 nR c4) _ rfl rfl (by kernel_rfl) (by kernel_rfl) (by kernel_rfl) (by kernel_rfl) (by kernel_rfl) (fun _ _ _ h => h) (by rfl) (fun w' hw' => ?_) hT (listed' := bts 15 447) (by kernel_rfl) rfl ?_
   ·obtain ⟨g0,g1,g2,g3⟩ := hw'; go_simp
   simp only [zsA,zsZ,zsS];obtain ⟨vf,W1,r1,r2,r3⟩ := run_joinG (w := W0) 44 44 54 5 56 _ Try.underlying44 infoFl rfl (by decide) W0.heap.size (.slice none 0 0) 0 [] (World.ownsRow_nil _ _ _ _) (.slice a3 nF c3) (flRows mf) HF0.out (flr_len mf) (flr_one mf) (by have := HLF.out; have := HFl.out; omega) (by decide) (Nat.le_refl _);rw [List.nil_append,HLF.out,Nat.zero_add] at r2;have hb1 : Below W0.heap.size W0 W1 := (Below.refl _ _).grown r3 (Nat.le_refl _) (fun k hk => by cases hk);obtain ⟨fa,fc,rfl⟩ := own_form r2;have HO1 : Hid (W1.ownsRow W0.heap.size 54 5 (.slice fa mf.length fc) mf.length (flRows mf).flatten) := r2;have HRUN : Hid _ := r1;clear r1 r2 r3;refine M_run 6 31 (.slice fa mf.length fc) (W1) rfl rfl (by kernel_rfl) (by rfl) (listed' := bts 15 511) (by kernel_rfl) (append_run rfl rfl rfl HRUN.out) (hTW W1 hb1) ?_;simp only [zsA,zsZ,zsS];clear HRUN;refine M_call 9 34 25 #[.slice a4 nR c4] rfl rfl (by kernel_rfl) (by rfl) (listed' := bts 15 1023) (by kernel_rfl) (fun W => by go_simp) ?_;refine (ints_any (HR0.out.below hb1) (by have := HFl.out; omega)).mono ?_;rintro e W2 ⟨vr,rfl,ho2,hb2⟩;have hb02 : Below W0.heap.size W0 W2 := hb1.trans (hb2.mono hb1.size);have hT := hTW W2 hb02;obtain ⟨ra,rc,hrv⟩ := own_form ho2;subst hrv;refine ⟨_,rfl,hT,?_⟩;simp only [zsA,zsZ,zsS];have HO2 : Hid (W2.ownsRow W0.heap.size 3 1 (.slice ra mr.length rc) mr.length (inRows mr).flatten) := own_base ho2 hb1.size;have HAR5 : Hid (ApR (pm ++ [(.slice fa mf.length fc,.slice ra mr.length rc)])) := HAR.out.snoc HMS0.out.highR (fun k hk => (HO2.out.lt k hk).1);have HO1 : Hid (W2.ownsRow W0.heap.size 54 5 (.slice fa mf.length fc) mf.length (flRows mf).flatten) := own_below HO1.out hb2;clear ho2 hb2 hb1;refine M_take 10 35 (.agg #[.string m0,.slice fa mf.length fc,.slice ra mr.length rc]) _ rfl rfl (by kernel_rfl) (by kernel_rfl) (by kernel_rfl) (by kernel_rfl) (by kernel_rfl) (fun _ _ _ h => h) (by rfl) (fun w' hw' => ?_) hT (listed' := bts 15 2047) (by kernel_rfl) rfl ?_
   ·obtain ⟨g0,g1,g2,g3⟩ := hw'; go_simp
   simp only [zsA,zsZ,zsS];have hal : Below W2.heap.size W2 (W2.alloc (.cells #[.string m0,.slice fa mf.length fc,.slice ra mr.length rc] 46)) := (Below.refl _ _).alloc (Nat.le_refl _) _;have hb03 : Below W0.heap.size W0 (W2.alloc (.cells #[.string m0,.slice fa mf.length fc,.slice ra mr.length rc] 46)) := hb02.trans (hal.mono hb02.size);have BE := Blk.new W2 #[.string m0,.slice fa mf.length fc,.slice ra mr.length rc] 46;have HO1 : Hid ((W2.alloc (.cells #[.string m0,.slice fa mf.length fc,.slice ra mr.length rc] 46)).ownsRow W0.heap.size 54 5 (.slice fa mf.length fc) mf.length (flRows mf).flatten) := own_below HO1.out hal;have HO2 : Hid ((W2.alloc (.cells #[.string m0,.slice fa mf.length fc,.slice ra mr.length rc] 46)).ownsRow W0.heap.size 3 1 (.slice ra mr.length rc) mr.length (inRows mr).flatten) := own_below HO2.out hal;obtain ⟨bz,hbz⟩ : ∃ n,W2.heap.size = n := ⟨_,rfl⟩;refine M_run 11 36 (.slice (some ⟨W2.heap.size,0,none⟩) 1 1) (W2.alloc (.cells #[.string m0,.slice fa mf.length fc,.slice ra mr.length rc] 46)) rfl rfl (by kernel_rfl) (by rfl) (listed' := bts 15 4095) (by kernel_rfl) (by go_simp) (hTW _ hb03) ?_;simp only [zsA,zsZ,zsS];rw [hbz] at BE ⊢;generalize (W2.alloc (.cells #[.string m0,.slice fa mf.length fc,.slice ra mr.length rc] 46)) = W3 at *;clear hbz hal hb02;have HMS3 : Hid (MsO W3 (bt + 1) (.slice va k vc) (ms.take k) pm) := HMS0.out.below hb03;obtain ⟨i0,hi0,hz0,hz1,hz2⟩ := info_parts infoMs;have hown := HMS3.out.own;rw [HLK.out] at hown
   obtain ⟨v',W4,r1,r2,r3,_⟩ := run_append_own W3 (bt + 1) 22 22 46 i0 _ 3 64 Try.underlying22 hi0 hz0 hz1 hz2 rfl (by decide) (.slice va k vc) k _ hown ⟨bz,0,none⟩ 1 1 [.string m0,.slice fa mf.length fc,.slice ra mr.length rc] rfl (fun j u hu => by
    have := BE.cell j;rw [Addr.add_lit,Nat.zero_add,this]
    simpa using hu) (fun u hu => by
    simp only [List.mem_cons,List.not_mem_nil,or_false] at hu
    rcases hu with rfl | rfl | rfl <;> rfl) (by unfold maxLen; omega) (by omega) (by have := hb03.size; have := BT0.lt; omega)
   have HRUN : Hid _ := r1;have KA : Kp (fun q => (Value.slice va k vc).ownBlock = some q) W3 W4 := (Kp.refl _ _).grown r3 (fun q hq _ => hq)
   have HMS4 : Hid (MsO W4 (bt + 1) v' (ms.take (k + 1)) (pm ++ [(.slice fa mf.length fc,.slice ra mr.length rc)])) := by
    show MsO _ _ _ _ _
    rw [HTK.out];refine MsO.snoc (m := ⟨m0,mf,mr⟩) HMS3.out HMS0.out.high (by have := BT0.lt; omega) HO1.out HO2.out ?_ KA;rw [HLK.out]; exact r2
   obtain ⟨na,nc,hv'⟩ := own_form r2;subst hv';have HMS4 : Hid (MsO W4 (bt + 1) (.slice na (k + 1) nc) (ms.take (k + 1)) (pm ++ [(.slice fa mf.length fc,.slice ra mr.length rc)])) := HMS4;have hnob : ∀ b cs t,Blk W3 b cs t → t ≠ 46 → ¬ (Value.slice va k vc).ownBlock = some b := fun b cs t hb ht hq => ht (own_type hown hq hb).symm
   have BT4 := (BT0.below hb03).kp KA (hnob _ _ _ (BT0.below hb03) (by decide));have BX4 := (BX0.below hb03).kp KA (hnob _ _ _ (BX0.below hb03) (by decide));have BR4 := (BR0.below hb03).kp KA (hnob _ _ _ (BR0.below hb03) (by decide));have BMb := BM0.below hb03;have HO4 : Hid (W4.ownsRow (b0 + 2) 67 3 (.slice ua T uc) T (mtRows ts).flatten) := own_kpV (own_below HO0.out hb03) KA (fun q hv hq => own_apart hown (own_below HO0.out hb03) (by decide) q hq hv);have hb4 : Below w.heap.size w W4 := (hbel0.trans (hb03.mono hbel0.size)).grown r3 (by have := hb03.size; have := hbel0.size; omega) (fun q hq => by have := (hown.lt q hq).1; have := HBZ.out; omega)
   have hTm : W4.cell? ⟨bt,1,none⟩ = some (.slice va k vc) ∧ W4.cell? ⟨bm,0,none⟩ = some (.string m0) ∧ W4.cell? ⟨bm,1,none⟩ = some (.slice a3 nF c3) ∧ W4.cell? ⟨bm,2,none⟩ = some (.slice a4 nR c4) := by
    have hq : ¬ (Value.slice va k vc).ownBlock = some bm := fun hq => by
     have := HOB.out bm hq
     omega
    exact ⟨BT4.cell 1,(BMb.kp KA hq).cell 0,(BMb.kp KA hq).cell 1,(BMb.kp KA hq).cell 2⟩
   clear r1 r2 r3 hown;refine M_run 12 37 (.slice na (k + 1) nc) (W4) rfl rfl (by kernel_rfl) (by rfl) (listed' := bts 15 8191) (by kernel_rfl) (append_run rfl rfl rfl HRUN.out) hTm ?_;simp only [zsA,zsZ,zsS];clear HRUN;have hT := hTm;refine M_take 13 38 (.pointer (some ⟨bt,1,none⟩)) _ rfl rfl (by kernel_rfl) (by kernel_rfl) (by kernel_rfl) (by kernel_rfl) (by kernel_rfl) (fun _ _ _ h => h) (by rfl) (fun w' hw' => ?_) hT (listed' := bts 15 16383) (by kernel_rfl) rfl ?_
   ·obtain ⟨g0,g1,g2,g3⟩ := hw'; go_simp
   simp only [zsA,zsZ,zsS];have y1 := (BT4.cell 1).trans rfl;have z1 := BT4.froz 1;refine M_store 14 (W4.setCell ⟨bt,1,none⟩ (.slice na (k + 1) nc)) rfl rfl (by kernel_rfl) (by rfl) (listed' := bts 15 32767) (by kernel_rfl) (by go_simp) (by kernel_rfl) ?_;refine M_done (by kernel_rfl) ?_ _
   have KS : Kp (fun q => q = bt) W4 (W4.setCell ⟨bt,1,none⟩ (.slice na (k + 1) nc)) := by
    refine Kp.setCell ?_ (fun _ => by simp) _;exact Kp.refl _ _
   have BT5 : Blk (W4.setCell ⟨bt,1,none⟩ (.slice na (k + 1) nc)) bt #[.string nm,.slice na (k + 1) nc,.slice none 0 0,.slice ua T uc] 26 := BT4.set 1 _ rfl;have BX5 := BX4.kp KS (by omega);have BR5 := BR4.kp KS (by omega);have HMS5 : Hid (MsO (W4.setCell ⟨bt,1,none⟩ (.slice na (k + 1) nc)) (bt + 1) (.slice na (k + 1) nc) (ms.take (k + 1)) (pm ++ [(.slice fa mf.length fc,.slice ra mr.length rc)])) := HMS4.out.kp KS (fun q h1 h2 => by omega);have HO5 : Hid ((W4.setCell ⟨bt,1,none⟩ (.slice na (k + 1) nc)).ownsRow (b0 + 2) 67 3 (.slice ua T uc) T (mtRows ts).flatten) := own_blk HO4.out BT4 (by decide) KS;have hb5 : Below w.heap.size w (W4.setCell ⟨bt,1,none⟩ (.slice na (k + 1) nc)) := hb4.trans (KS.toBelow hb4.size (fun q e => by have := HBZ.out; omega));generalize (W4.setCell ⟨bt,1,none⟩ (.slice na (k + 1) nc)) = W5 at *;clear y1 z1 KS BT4 BX4 BR4 HMS4 HO4 hb4 hT hTm hTW BM0 BT0 BX0 BR0 HMS0 HO0 HF0 HR0 hbel0 HMS3 KA BE hb03 HO1 HO2 hnob BMb;go_wp2_with fail
   go_roundw
   case rel => exact ⟨k + 1,_,_,_,by go_num,by omega,HMS5,HAR5,BT5,HO5,BX5,BR5,hb5⟩
   case measure => simp [intOf]; omega
  ·obtain rfl : k = M := by omega
   have HMS0 : Hid (MsO wr (bt + 1) (.slice va k vc) ms pm) := by
    have := HMS.out;rw [List.take_of_length_le (by rw [HNM.out]; omega)] at this;exact this
   have HES0 : Hid (EnO wr (bt + 1) (.slice none 0 0) (es.take 0) []) := EnO.nil wr (bt + 1);clear HMS;go_wp2_with fail;clear x1
   go_loopw [6] (fun iv wr => ∃ (i : Nat) (na : Option Addr) (nc : Nat) (pe : List Value),iv = .int .i64 (i : Int) ∧ i ≤ E ∧ Hid (EnO wr (bt + 1) (.slice na i nc) (es.take i) pe) ∧ Hid (ApE pe) ∧ Hid (MsO wr (bt + 1) (.slice va k vc) ms pm) ∧ Blk wr bt #[.string nm,.slice va k vc,.slice na i nc,.slice ua T uc] 26 ∧ Hid (wr.ownsRow (b0 + 2) 67 3 (.slice ua T uc) T (mtRows ts).flatten) ∧ Blk wr b0 #[.string nm,.slice am k cm,.slice ae E ce,.slice at' T ct] 26 ∧ Blk wr (b0 + 1) #[.string ⟨#[]⟩,.slice none 0 0,.slice none 0 0,.slice none 0 0] 26 ∧ Below w.heap.size w wr) (fun iv _ => E - (intOf iv).toNat)
   case atStart => exact ⟨0,none,0,[],rfl,by omega,HES0,ApE.nil,HMS0,BT,HO,BX,BR,hbel⟩
   case round =>
    obtain ⟨i,na,nc,pe,rfl,hi,HES,HAE,HMS,BT,HO,BX,BR,hbel⟩ := hrel;clear HES0 HMS0;have hbtw : bt < wr.heap.size := BT.lt;have x2 : wr.cell? ⟨b0,2,none⟩ = some (.slice ae E ce) := BX.cell 2
    by_cases hlt : i < E
    ·obtain ⟨m,hm⟩ : ∃ n,es[i]? = some n := ⟨_,List.getElem?_eq_getElem (by rw [HNE.out]; exact hlt)⟩;obtain ⟨g,off,vv,rfl,c0,c1,hrf⟩ := (HE.out).get hm;have HFf : Hid (RowG w vv 2 (nmRows m.values)) := hrf;obtain ⟨a3,c3,rfl,_,_⟩ := hrf.form2;have HFl : Hid (m.values.length ≤ 24) := HF.out.vals m (List.mem_of_getElem? hm);have HTK : Hid (es.take (i + 1) = es.take i ++ [m]) := take_at hm
     have HLK : Hid ((es.take i).length = i) := by show _ = _; rw [List.length_take,HNE.out]; omega
     obtain ⟨m0,mf⟩ := m;simp only at c0 c1 HFl HTK;have HFf : Hid (RowG w (.slice a3 (nmRows mf).length c3) 2 (nmRows mf)) := HFf;generalize hnF : (nmRows mf).length = nF at *;clear hrf hm hnF
     have HLF : Hid ((nmRows mf).length = mf.length) := by show _ = _; simp [nmRows]
     have hgb : g < b0 := by have h9 : g < w.heap.size := World.block_lt_of_cell? _ _ c0; have := HBZ.out; omega
     have C0 : Hid (w.cell? ⟨g,off + i * 2,none⟩ = some (.string m0)) := c0;have C1 : Hid (w.cell? ⟨g,off + i * 2 + 1,none⟩ = some (.slice a3 nF c3)) := c1;clear c0 c1;go_wp2_with fail;clear x2;refine M_region (T := fun W => W.cell? ⟨bt,2,none⟩ = some (.slice na i nc) ∧ W.cell? ⟨b0,2,none⟩ = some (.slice (some ⟨g,off,none⟩) E ce) ∧ W.cell? ⟨g,off + i * 2,none⟩ = some (.string m0) ∧ W.cell? ⟨g,off + i * 2 + 1,none⟩ = some (.slice a3 nF c3)) (m := 19) (by kernel_rfl) ?_;have hb0 : Below wr.heap.size wr wr.drew := below_drewN 1 (Below.refl _ _);generalize wr.drew = W0 at *;have BT0 := BT.below hb0;have BX0 := BX.below hb0;have BR0 := BR.below hb0;have HES0 : Hid (EnO W0 (bt + 1) (.slice na i nc) (es.take i) pe) := HES.out.below hb0;have HMS0 : Hid (MsO W0 (bt + 1) (.slice va k vc) ms pm) := HMS.out.below hb0;have HO0 : Hid (W0.ownsRow (b0 + 2) 67 3 (.slice ua T uc) T (mtRows ts).flatten) := own_below HO.out hb0;have hbel0 : Below w.heap.size w W0 := hbel.trans (hb0.mono hbel.size);have hbtw : bt < W0.heap.size := BT0.lt;clear BT BX BR HES HMS HO hb0 hbel
     have hTW : ∀ W,Below W0.heap.size W0 W → W.cell? ⟨bt,2,none⟩ = some (.slice na i nc) ∧ W.cell? ⟨b0,2,none⟩ = some (.slice (some ⟨g,off,none⟩) E ce) ∧ W.cell? ⟨g,off + i * 2,none⟩ = some (.string m0) ∧ W.cell? ⟨g,off + i * 2 + 1,none⟩ = some (.slice a3 nF c3) := fun W hW => by
      have hwW : Below w.heap.size w W := hbel0.trans (hW.mono hbel0.size);exact ⟨(BT0.below hW).cell 2,(BX0.below hW).cell 2,(hwW.cell (World.block_lt_of_cell? _ _ C0.out)).trans C0.out,(hwW.cell (World.block_lt_of_cell? _ _ C1.out)).trans C1.out⟩
     have hT := hTW W0 (Below.refl _ _);refine M_take 0 46 (.pointer (some ⟨bt,2,none⟩)) _ rfl rfl (by kernel_rfl) (by kernel_rfl) (by kernel_rfl) (by kernel_rfl) (by kernel_rfl) (fun _ _ _ h => h) (by rfl) (fun w' hw' => ?_) hT (listed' := bts 20 1) (by kernel_rfl) rfl ?_
     ·obtain ⟨g0,g1,g2,g3⟩ := hw'; go_simp
     simp only [zsA,zsZ,zsS];refine M_take 2 48 (.pointer (some ⟨b0,2,none⟩)) _ rfl rfl (by kernel_rfl) (by kernel_rfl) (by kernel_rfl) (by kernel_rfl) (by kernel_rfl) (fun _ _ _ h => h) (by rfl) (fun w' hw' => ?_) hT (listed' := bts 20 5) (by kernel_rfl) rfl ?_
     ·obtain ⟨g0,g1,g2,g3⟩ := hw'; go_simp
     simp only [zsA,zsZ,zsS];refine M_take 4 50 (.int .i64 (i : Int)) _ rfl rfl (by kernel_rfl) (by kernel_rfl) (by kernel_rfl) (by kernel_rfl) (by kernel_rfl) (fun _ _ _ h => h) (by rfl) (fun w' hw' => ?_) hT (listed' := bts 20 21) (by kernel_rfl) rfl ?_
     ·obtain ⟨g0,g1,g2,g3⟩ := hw'; go_simp
     simp only [zsA,zsZ,zsS];refine M_take 8 54 (.pointer (some ⟨b0,2,none⟩)) _ rfl rfl (by kernel_rfl) (by kernel_rfl) (by kernel_rfl) (by kernel_rfl) (by kernel_rfl) (fun _ _ _ h => h) (by rfl) (fun w' hw' => ?_) hT (listed' := bts 20 277) (by kernel_rfl) rfl ?_
     ·obtain ⟨g0,g1,g2,g3⟩ := hw'; go_simp
     simp only [zsA,zsZ,zsS];refine M_take 10 56 (.int .i64 (i : Int)) _ rfl rfl (by kernel_rfl) (by kernel_rfl) (by kernel_rfl) (by kernel_rfl) (by kernel_rfl) (fun _ _ _ h => h) (by rfl) (fun w' hw' => ?_) hT (listed' := bts 20 1301) (by kernel_rfl) rfl ?_
     ·obtain ⟨g0,g1,g2,g3⟩ := hw'; go_simp
     simp only [zsA,zsZ,zsS];refine M_take 1 47 (.slice na i nc) _ rfl rfl (by kernel_rfl) (by kernel_rfl) (by kernel_rfl) (by kernel_rfl) (by kernel_rfl) (fun _ _ _ h => h) (by rfl) (fun w' hw' => ?_) hT (listed' := bts 20 1303) (by kernel_rfl) rfl ?_
     ·obtain ⟨g0,g1,g2,g3⟩ := hw'; go_simp
     simp only [zsA,zsZ,zsS];refine M_take 3 49 (.slice (some ⟨g,off,none⟩) E ce) _ rfl rfl (by kernel_rfl) (by kernel_rfl) (by kernel_rfl) (by kernel_rfl) (by kernel_rfl) (fun _ _ _ h => h) (by rfl) (fun w' hw' => ?_) hT (listed' := bts 20 1311) (by kernel_rfl) rfl ?_
     ·obtain ⟨g0,g1,g2,g3⟩ := hw'; go_simp
     simp only [zsA,zsZ,zsS];refine M_take 9 55 (.slice (some ⟨g,off,none⟩) E ce) _ rfl rfl (by kernel_rfl) (by kernel_rfl) (by kernel_rfl) (by kernel_rfl) (by kernel_rfl) (fun _ _ _ h => h) (by rfl) (fun w' hw' => ?_) hT (listed' := bts 20 1823) (by kernel_rfl) rfl ?_
     ·obtain ⟨g0,g1,g2,g3⟩ := hw'; go_simp
     simp only [zsA,zsZ,zsS];refine M_take 5 51 (.pointer (some ⟨g,off + i * 2,none⟩)) _ rfl rfl (by kernel_rfl) (by kernel_rfl) (by kernel_rfl) (by kernel_rfl) (by kernel_rfl) (fun _ _ _ h => h) (by rfl) (fun w' hw' => ?_) hT (listed' := bts 20 1855) (by kernel_rfl) rfl ?_
     ·obtain ⟨g0,g1,g2,g3⟩ := hw'; go_simp
     simp only [zsA,zsZ,zsS];refine M_take 11 57 (.pointer (some ⟨g,off + i * 2,none⟩)) _ rfl rfl (by kernel_rfl) (by kernel_rfl) (by kernel_rfl) (by kernel_rfl) (by kernel_rfl) (fun _ _ _ h => h) (by rfl) (fun w' hw' => ?_) hT (listed' := bts 20 3903) (by kernel_rfl) rfl ?_
     ·obtain ⟨g0,g1,g2,g3⟩ := hw'; go_simp
     simp only [zsA,zsZ,zsS];refine M_take 6 52 (.pointer (some ⟨g,off + i * 2,none⟩)) _ rfl rfl (by kernel_rfl) (by kernel_rfl) (by kernel_rfl) (by kernel_rfl) (by kernel_rfl) (fun _ _ _ h => h) (by rfl) (fun w' hw' => ?_) hT (listed' := bts 20 3967) (by kernel_rfl) rfl ?_
     ·obtain ⟨g0,g1,g2,g3⟩ := hw'; go_simp
     simp only [zsA,zsZ,zsS];refine M_take 12 58 (.pointer (some ⟨g,off + i * 2 + 1,none⟩)) _ rfl rfl (by kernel_rfl) (by kernel_rfl) (by kernel_rfl) (by kernel_rfl) (by kernel_rfl) (fun _ _ _ h => h) (by rfl) (fun w' hw' => ?_) hT (listed' := bts 20 8063) (by kernel_rfl) rfl ?_
     ·obtain ⟨g0,g1,g2,g3⟩ := hw'; go_simp
     simp only [zsA,zsZ,zsS];refine M_take 7 53 (.string m0) _ rfl rfl (by kernel_rfl) (by kernel_rfl) (by kernel_rfl) (by kernel_rfl) (by kernel_rfl) (fun _ _ _ h => h) (by rfl) (fun w' hw' => ?_) hT (listed' := bts 20 8191) (by kernel_rfl) rfl ?_
     ·obtain ⟨g0,g1,g2,g3⟩ := hw'; go_simp
     simp only [zsA,zsZ,zsS];refine M_take 13 59 (.slice a3 nF c3) _ rfl rfl (by kernel_rfl) (by kernel_rfl) (by kernel_rfl) (by kernel_rfl) (by kernel_rfl) (fun _ _ _ h => h) (by rfl) (fun w' hw' => ?_) hT (listed' := bts 20 16383) (by kernel_rfl) rfl ?_
     ·obtain ⟨g0,g1,g2,g3⟩ := hw'; go_simp
     simp only [zsA,zsZ,zsS];obtain ⟨vf,W1,r1,r2,r3⟩ := run_joinG (w := W0) 61 61 65 2 24 _ Try.underlying61 infoNm rfl (by decide) W0.heap.size (.slice none 0 0) 0 [] (World.ownsRow_nil _ _ _ _) (.slice a3 nF c3) (nmRows mf) (HFf.out.below hbel0) (nmr_len mf) (nmr_one mf) (by have := HLF.out; have := HFl.out; omega) (by decide) (Nat.le_refl _);rw [List.nil_append,HLF.out,Nat.zero_add] at r2;have hb1 : Below W0.heap.size W0 W1 := (Below.refl _ _).grown r3 (Nat.le_refl _) (fun k hk => by cases hk);obtain ⟨fa,fc,rfl⟩ := own_form r2;have HO1 : Hid (W1.ownsRow W0.heap.size 65 2 (.slice fa mf.length fc) mf.length (nmRows mf).flatten) := r2;have HAE5 : Hid (ApE (pe ++ [.slice fa mf.length fc])) := HAE.out.snoc HES0.out.highE (fun k hk => (HO1.out.lt k hk).1);have HRUN : Hid _ := r1;have hT := hTW W1 hb1;clear r1 r2 r3;refine M_run 14 60 (.slice fa mf.length fc) (W1) rfl rfl (by kernel_rfl) (by rfl) (listed' := bts 20 32767) (by kernel_rfl) (append_run rfl rfl rfl HRUN.out) hT ?_;simp only [zsA,zsZ,zsS];clear HRUN;refine M_take 15 61 (.agg #[.string m0,.slice fa mf.length fc]) _ rfl rfl (by kernel_rfl) (by kernel_rfl) (by kernel_rfl) (by kernel_rfl) (by kernel_rfl) (fun _ _ _ h => h) (by rfl) (fun w' hw' => ?_) hT (listed' := bts 20 65535) (by kernel_rfl) rfl ?_
     ·obtain ⟨g0,g1,g2,g3⟩ := hw'; go_simp
     simp only [zsA,zsZ,zsS];have hal : Below W1.heap.size W1 (W1.alloc (.cells #[.string m0,.slice fa mf.length fc] 63)) := (Below.refl _ _).alloc (Nat.le_refl _) _;have hb03 : Below W0.heap.size W0 (W1.alloc (.cells #[.string m0,.slice fa mf.length fc] 63)) := hb1.trans (hal.mono hb1.size);have BE := Blk.new W1 #[.string m0,.slice fa mf.length fc] 63;have HO1 : Hid ((W1.alloc (.cells #[.string m0,.slice fa mf.length fc] 63)).ownsRow W0.heap.size 65 2 (.slice fa mf.length fc) mf.length (nmRows mf).flatten) := own_below HO1.out hal;obtain ⟨bz,hbz⟩ : ∃ n,W1.heap.size = n := ⟨_,rfl⟩;refine M_run 16 62 (.slice (some ⟨W1.heap.size,0,none⟩) 1 1) (W1.alloc (.cells #[.string m0,.slice fa mf.length fc] 63)) rfl rfl (by kernel_rfl) (by rfl) (listed' := bts 20 131071) (by kernel_rfl) (by go_simp) (hTW _ hb03) ?_;simp only [zsA,zsZ,zsS];rw [hbz] at BE ⊢;generalize (W1.alloc (.cells #[.string m0,.slice fa mf.length fc] 63)) = W3 at *;clear hbz hal hb1;have HES3 : Hid (EnO W3 (bt + 1) (.slice na i nc) (es.take i) pe) := HES0.out.below hb03;obtain ⟨i0,hi0,hz0,hz1,hz2⟩ := info_parts infoEn;have hown := HES3.out.own;rw [HLK.out] at hown
     obtain ⟨v',W4,r1,r2,r3,_⟩ := run_append_own W3 (bt + 1) 23 23 63 i0 _ 2 40 Try.underlying23 hi0 hz0 hz1 hz2 rfl (by decide) (.slice na i nc) i _ hown ⟨bz,0,none⟩ 1 1 [.string m0,.slice fa mf.length fc] rfl (fun j u hu => by
      have := BE.cell j;rw [Addr.add_lit,Nat.zero_add,this]
      simpa using hu) (fun u hu => by
      simp only [List.mem_cons,List.not_mem_nil,or_false] at hu
      rcases hu with rfl | rfl <;> rfl) (by unfold maxLen; omega) (by omega) (by have := hb03.size; omega)
     have HRUN : Hid _ := r1;have KA : Kp (fun q => (Value.slice na i nc).ownBlock = some q) W3 W4 := (Kp.refl _ _).grown r3 (fun q hq _ => hq)
     have HES4 : Hid (EnO W4 (bt + 1) v' (es.take (i + 1)) (pe ++ [.slice fa mf.length fc])) := by
      show EnO _ _ _ _ _
      rw [HTK.out];refine EnO.snoc (m := ⟨m0,mf⟩) HES3.out (H := W0.heap.size) (by omega) HO1.out ?_ KA;rw [HLK.out]; exact r2
     obtain ⟨oa,oc,hv'⟩ := own_form r2;subst hv';have HES4 : Hid (EnO W4 (bt + 1) (.slice oa (i + 1) oc) (es.take (i + 1)) (pe ++ [.slice fa mf.length fc])) := HES4;have hnob : ∀ b cs t,Blk W3 b cs t → t ≠ 63 → ¬ (Value.slice na i nc).ownBlock = some b := fun b cs t hb ht hq => ht (own_type hown hq hb).symm
     have BT4 := (BT0.below hb03).kp KA (hnob _ _ _ (BT0.below hb03) (by decide));have BX4 := (BX0.below hb03).kp KA (hnob _ _ _ (BX0.below hb03) (by decide));have BR4 := (BR0.below hb03).kp KA (hnob _ _ _ (BR0.below hb03) (by decide));have HMS4 : Hid (MsO W4 (bt + 1) (.slice va k vc) ms pm) := (HMS0.out.below hb03).beside hown (by decide) (by decide) (by decide) KA;have HO4 : Hid (W4.ownsRow (b0 + 2) 67 3 (.slice ua T uc) T (mtRows ts).flatten) := own_kpV (own_below HO0.out hb03) KA (fun q hv hq => own_apart hown (own_below HO0.out hb03) (by decide) q hq hv);have hb4 : Below w.heap.size w W4 := (hbel0.trans (hb03.mono hbel0.size)).grown r3 (by have := hb03.size; have := hbel0.size; omega) (fun q hq => by have := (hown.lt q hq).1; have := HBZ.out; omega)
     have hTm : W4.cell? ⟨bt,2,none⟩ = some (.slice na i nc) ∧ W4.cell? ⟨b0,2,none⟩ = some (.slice (some ⟨g,off,none⟩) E ce) ∧ W4.cell? ⟨g,off + i * 2,none⟩ = some (.string m0) ∧ W4.cell? ⟨g,off + i * 2 + 1,none⟩ = some (.slice a3 nF c3) :=
      ⟨BT4.cell 2,BX4.cell 2,(hb4.cell (World.block_lt_of_cell? _ _ C0.out)).trans C0.out,(hb4.cell (World.block_lt_of_cell? _ _ C1.out)).trans C1.out⟩
     clear r1 r2 r3 hown;refine M_run 17 63 (.slice oa (i + 1) oc) (W4) rfl rfl (by kernel_rfl) (by rfl) (listed' := bts 20 262143) (by kernel_rfl) (append_run rfl rfl rfl HRUN.out) hTm ?_;simp only [zsA,zsZ,zsS];clear HRUN;have hT := hTm;refine M_take 18 64 (.pointer (some ⟨bt,2,none⟩)) _ rfl rfl (by kernel_rfl) (by kernel_rfl) (by kernel_rfl) (by kernel_rfl) (by kernel_rfl) (fun _ _ _ h => h) (by rfl) (fun w' hw' => ?_) hT (listed' := bts 20 524287) (by kernel_rfl) rfl ?_
     ·obtain ⟨g0,g1,g2,g3⟩ := hw'; go_simp
     simp only [zsA,zsZ,zsS];have y1 := (BT4.cell 2).trans rfl;have z1 := BT4.froz 2;refine M_store 19 (W4.setCell ⟨bt,2,none⟩ (.slice oa (i + 1) oc)) rfl rfl (by kernel_rfl) (by rfl) (listed' := bts 20 1048575) (by kernel_rfl) (by go_simp) (by kernel_rfl) ?_;refine M_done (by kernel_rfl) ?_ _
     have KS : Kp (fun q => q = bt) W4 (W4.setCell ⟨bt,2,none⟩ (.slice oa (i + 1) oc)) := by
      refine Kp.setCell ?_ (fun _ => by simp) _;exact Kp.refl _ _
     have BT5 : Blk (W4.setCell ⟨bt,2,none⟩ (.slice oa (i + 1) oc)) bt #[.string nm,.slice va k vc,.slice oa (i + 1) oc,.slice ua T uc] 26 := BT4.set 2 _ rfl;have BX5 := BX4.kp KS (by omega);have BR5 := BR4.kp KS (by omega);have HES5 : Hid (EnO (W4.setCell ⟨bt,2,none⟩ (.slice oa (i + 1) oc)) (bt + 1) (.slice oa (i + 1) oc) (es.take (i + 1)) (pe ++ [.slice fa mf.length fc])) := HES4.out.kp KS (fun q h1 h2 => by omega);have HMS5 : Hid (MsO (W4.setCell ⟨bt,2,none⟩ (.slice oa (i + 1) oc)) (bt + 1) (.slice va k vc) ms pm) := HMS4.out.kp KS (fun q h1 h2 => by omega);have HO5 : Hid ((W4.setCell ⟨bt,2,none⟩ (.slice oa (i + 1) oc)).ownsRow (b0 + 2) 67 3 (.slice ua T uc) T (mtRows ts).flatten) := own_blk HO4.out BT4 (by decide) KS;have hb5 : Below w.heap.size w (W4.setCell ⟨bt,2,none⟩ (.slice oa (i + 1) oc)) := hb4.trans (KS.toBelow hb4.size (fun q e => by have := HBZ.out; omega));generalize (W4.setCell ⟨bt,2,none⟩ (.slice oa (i + 1) oc)) = W5 at *;clear y1 z1 KS BT4 BX4 BR4 HMS4 HES4 HO4 hb4 hT hTm hTW BT0 BX0 BR0 HMS0 HES0 HO0 hbel0 HES3 KA BE hb03 HO1 hnob;go_wp2_with fail
     go_roundw
     case rel => exact ⟨i + 1,_,_,_,by go_num,by omega,HES5,HAE5,HMS5,BT5,HO5,BX5,BR5,hb5⟩
     case measure => simp [intOf]; omega
    ·have HES1 : Hid (EnO wr (bt + 1) (.slice na i nc) es pe) := by
      have := HES.out;rw [List.take_of_length_le (by rw [HNE.out]; omega)] at this;exact this
     have t0 : wr.cell? ⟨bt,0,none⟩ = some (.string nm) := BT.cell 0;have t1 : wr.cell? ⟨bt,1,none⟩ = some (.slice va k vc) := BT.cell 1;have t2 : wr.cell? ⟨bt,2,none⟩ = some (.slice na i nc) := BT.cell 2;have t3 : wr.cell? ⟨bt,3,none⟩ = some (.slice ua T uc) := BT.cell 3;have r0 := (BR.cell 0).trans rfl;have r1 := (BR.cell 1).trans rfl;have r2 := (BR.cell 2).trans rfl;have r3 := (BR.cell 3).trans rfl;have z0 := BR.froz 0;have z1 := BR.froz 1;have z2 := BR.froz 2;have z3 := BR.froz 3;go_wp2_with fail;refine bodyPost_ret (results_cell rfl _ _ _ ⟨b0 + 1,0,none⟩ (.agg #[.string nm,.slice va k vc,.slice na i nc,.slice ua T uc]) (by go_simp) (by go_simp)) rfl ?_
     have KS : Kp (fun q => q = b0 + 1) wr ((((wr.setCell ⟨b0 + 1,0,none⟩ (.string nm)).setCell ⟨b0 + 1,1,none⟩ (.slice va k vc)).setCell ⟨b0 + 1,2,none⟩ (.slice na i nc)).setCell ⟨b0 + 1,3,none⟩ (.slice ua T uc)) := by
      refine Kp.setCell ?_ (fun _ => by simp) _;refine Kp.setCell ?_ (fun _ => by simp) _;refine Kp.setCell ?_ (fun _ => by simp) _;refine Kp.setCell ?_ (fun _ => by simp) _;exact Kp.refl _ _
     refine ⟨_,_,_,pm,pe,rfl,?_,?_,?_,?_,HAR.out,HAE.out⟩
     ·exact (HMS.out.kp KS (fun q h1 h2 => by omega)).base (by have := HBZ.out; omega)
     ·exact (HES1.out.kp KS (fun q h1 h2 => by omega)).base (by have := HBZ.out; omega)
     ·exact own_base (own_kp HO.out KS (fun q h1 h2 => by omega)) (by have := HBZ.out; omega)
     ·exact hbel.trans (KS.toBelow hbel.size (fun q e => by have := HBZ.out; omega))
theorem schema_any {w : World} {v : Value} {s : ScS} (hr : ScIn w v s) (hf : FewL s) :
  Calls Try.prog 11 #[v] w fun e w' => ∃ vm ve vt pm pe,e = .returned (.agg #[.string s.name,vm,ve,vt]) ∧ MsO w' w.heap.size vm s.msgs pm ∧ EnO w' w.heap.size ve s.enums pe ∧ w'.ownsRow w.heap.size 67 3 vt s.methods.length (mtRows s.methods).flatten ∧ Below w.heap.size w w' :=
 (schema_ap hr hf).mono fun e w' ⟨vm,ve,vt,pm,pe,h1,h2,h3,h4,h5,_⟩ => ⟨vm,ve,vt,pm,pe,h1,h2,h3,h4,h5⟩
end
end Go.Proofs.Ytmgbhicogmclgaa
