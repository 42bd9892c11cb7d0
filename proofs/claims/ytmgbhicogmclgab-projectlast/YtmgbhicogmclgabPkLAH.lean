/- Part 8 of what the proof stands on. -/
import Derived.Test.YtmgbhicogmclgabPkLAG
import Derived.Laws.MathBits
import Derived.ArgAppend
import Derived.Laws.AppendOwn
import Derived.Laws.BytesArg
import Derived.Lib.AppendStr
namespace Go.Proofs.Ytmgbhicogmclgab
set_option maxHeartbeats 8000000
set_option linter.unusedVariables false
set_option linter.unusedSimpArgs false
set_option maxRecDepth 20000
section
open Go.ChangeShapes Go.WideShapes Go.ChangeAt Go.RowKit
theorem pmsg_any {s : ScS} {W0 : World} {sn : ByteArray} {ma ea ta : Option Addr} {mn mc en ec tn tc : Nat} (hks : ∀ nm m,msgOf s nm = some m → ∀ f ∈ m.fields,1 ≤ f.kind ∧ f.kind ≤ 7) (hms : MsIn W0 (.slice ma mn mc) s.msgs) (hfl : ∀ m ∈ s.msgs,m.fields.length ≤ 20 ∧ m.reserved.length ≤ 40) : ∀ n,MsgC s W0 n sn ma ea ta mn mc en ec tn tc
 | 0 => fun b F nm t K N S a1 a2 n1 c1 n2 c2 w _ hx _ _ _ => by
  obtain ⟨r,_,h⟩ := hx;exact h.elim
 | n + 1 => pmsg_step hks hms hfl (pmsg_any hks hms hfl n)
def newB (w w' : World) : List Nat := (List.range w'.heap.size).filter fun k => decide (w.heap.size ≤ k)
theorem newB_apt (w w' : World) : Apt w.heap.size w' (newB w w') := ⟨List.nodup_range.filter _,fun k hk => by
 simp only [newB,List.mem_filter,List.mem_range,decide_eq_true_eq] at hk
 exact ⟨hk.2,hk.1⟩⟩
theorem SeeFP.no {n : Nat} {R : Tr × Bool} {w w' : World} (hR : R = (tr0,false)) (hb : Below w.heap.size w w') : SeeFP (n + 1) R w (.returned (.tuple #[.agg #[.int .i64 0,.int .i64 0,.string ⟨#[]⟩,.slice none 0 0,.slice none 0 0],.bool false])) w' := by
 subst hR;refine ⟨[.int .i64 0,.int .i64 0,.string ⟨#[]⟩,.slice none 0 0,.slice none 0 0],[],rfl,fun w'' _ => ?_,⟨List.nodup_nil,by simp⟩,hb⟩;have h1 : TrR (n + 1) w'' [.int .i64 0,.int .i64 0,.string ⟨#[]⟩,.slice none 0 0,.slice none 0 0] tr0 := leaf_see (w := w'') (F := fun _ => False) is64_lit0 is64_lit0 (by show (0 : Nat) ≤ _; omega) w'' fun _ _ => rfl
 exact ⟨h1.trQ.trC,h1⟩
theorem SeeFP.yes {s : ScS} {b n : Nat} {F : Nat → Prop} {T : Tr} {r : List Value} {R : Tr × Bool} {w w' : World} (hR : R = (T,true)) (hk : KnP s w w' b F) (hs : SeeG (n + 1) w' r T F) : SeeFP (n + 1) R w (.returned (.tuple #[.agg r.toArray,.bool true])) w' := by
 subst hR;refine ⟨r,newB w w',rfl,fun w'' h2 => ?_,newB_apt w w',hk.below⟩
 have h1 : TrR (n + 1) w'' r T := hs w'' fun k e => h2 k (by
  simp only [newB,List.mem_filter,List.mem_range,decide_eq_true_eq]
  exact ⟨(hk.new k e).2,(hk.new k e).1⟩)
 exact ⟨h1.trQ.trC,h1⟩
theorem project_any : ProjC := by
 intro n s sv nm tv t w hn hr hw hf ht hsm hc;have hr0 := hr;obtain ⟨vm,ve,vt,rfl,h1,h2,h3⟩ := hr;obtain ⟨ma,mc,rfl, -⟩ := h1.form2;obtain ⟨erows,her, -⟩ := h2;obtain ⟨ea,ec,rfl, -⟩ := her.form;obtain ⟨ta,tc,rfl, -⟩ := h3.form;generalize s.msgs.length = mn at *;generalize erows.length = en at *;generalize (mtRows s.methods).length = tn at *;obtain ⟨m,a1,c1,a2,c2, -,rfl, -⟩ := ht.open;obtain ⟨K,hK⟩ : ∃ z,t.kind = z := ⟨_,rfl⟩;obtain ⟨N,hN⟩ : ∃ z,t.n = z := ⟨_,rfl⟩;obtain ⟨S,hS⟩ : ∃ z,t.s = z := ⟨_,rfl⟩;generalize t.es.length = n1 at *;generalize t.rest.length = n2 at *;have HT3 : Hid (t.kind = K) := hK;rw [hK,hN,hS] at ht ⊢;have HCC : Hid (∀ W,Below w.heap.size w W → Calls Try.prog 8 #[.agg #[.string s.name,.slice ma mn mc,.slice ea en ec,.slice ta tn tc]] W fun e w' => e = .returned (.int .i64 (checkA s)) ∧ Below W.heap.size W w') := fun W hW => check_any (hr0.below hW) hw hf
 have HVC : Hid (∀ W,Below w.heap.size w W → Calls Try.prog 10 #[.agg #[.int .i64 K,.int .i64 N,.string S,.slice a1 n1 c1,.slice a2 n2 c2]] W fun e w' => e = .returned (.bool (chkN (n + 1) t)) ∧ Below W.heap.size W w') := fun W hW => vcheck_any (n + 1) t _ W (by obtain ⟨r,g1,g2⟩ := ht.cel (Cel.ofBelow hW); exact ⟨r,g1,g2.trQ⟩) (by omega) hc hsm
 have hfl : ∀ m ∈ s.msgs,m.fields.length ≤ 20 ∧ m.reserved.length ≤ 40 := fun m hm => hf.flds m hm
 have HMC : Hid (∀ W,Below w.heap.size w W → Calls Try.prog 9 #[.agg #[.string s.name,.slice ma mn mc,.slice ea en ec,.slice ta tn tc],.string nm] W fun e w' => ∃ q vf vr,e = .returned (.tuple #[.agg #[.string q,vf,vr],.bool (msgOf s nm).isSome]) ∧ (∃ a1 n1 c1,vf = .slice a1 n1 c1) ∧ (∃ a2 n2 c2,vr = .slice a2 n2 c2) ∧ Below W.heap.size W w') := (fun W hW => by
  refine (cmessage_any (w := W) (snm := s.name) (nm := nm) (ae := ea) (at' := ta) (E := en) (ce := ec) (T := tn) (ct := tc) (h1.below hW) hfl).mono ?_;rintro e w' ⟨vf,vr,rfl,g1,g2,g3⟩;obtain ⟨q1,q2,rfl⟩ := own_form g1;obtain ⟨q3,q4,rfl⟩ := own_form g2
  exact ⟨_,_,_,rfl,⟨_,_,_,rfl⟩,⟨_,_,_,rfl⟩,g3⟩ : ∀ W,_ → Calls Try.prog _ _ W _)
 have HPM : Hid (checkA s = 0 → t.kind = 3 → chkN (n + 1) t = true → ∀ W b F,KnP s w W b F → Calls Try.prog 11 #[.agg #[.string s.name,.slice ma mn mc,.slice ea en ec,.slice ta tn tc,.map (some b)],.string nm,.agg #[.int .i64 K,.int .i64 N,.string S,.slice a1 n1 c1,.slice a2 n2 c2]] W (SeenP s w b F (n + 1) (prM (n + 1) s nm t) W)) := fun g1 g2 g3 W b F hk => pmsg_any (ok_kindsJ ((checkA_ok s).1 g1)) h1 hfl (n + 1) b F nm t K N S a1 a2 n1 c1 n2 c2 W hk ht g2 (by simp only [chkN,Bool.and_eq_true] at g3; exact g3.2) hsm
 obtain ⟨R,hR⟩ : ∃ R,projA (n + 1) s nm t = R := ⟨_,rfl⟩;have HR : Hid ((if checkA s = 0 ∧ (msgOf s nm).isSome = true ∧ t.kind = 3 ∧ chkN (n + 1) t = true then (prM (n + 1) s nm t,true) else (tr0,false)) = R) := hR;rw [hR];have HKS : Hid (∀ W,Below w.heap.size w W → KnP s w (W.alloc (.map #[] 0)) W.heap.size (fun _ => False)) := fun W hW => KnP.start hW
 generalize s.name = sn at *;clear hR hK hN hS ht hsm hc hr0 hw hf h1 her h3 hfl hn;have hmm := @run_makeMap Try.prog;obtain ⟨BS,BT,BR,hbw⟩ := p3blk w #[.string sn,.slice ma mn mc,.slice ea en ec,.slice ta tn tc] #[.int .i64 K,.int .i64 N,.string S,.slice a1 n1 c1,.slice a2 n2 c2] #[.int .i64 0,.int .i64 0,.string ⟨#[]⟩,.slice none 0 0,.slice none 0 0] 35 43 43
 go_enter Try.func6,Try.ntmps6
 go_upto_region 1 with fail
 generalize (((w.alloc (Obj.cells #[.string sn,.slice ma mn mc,.slice ea en ec,.slice ta tn tc] 35)).alloc (Obj.cells #[.int .i64 K,.int .i64 N,.string S,.slice a1 n1 c1,.slice a2 n2 c2] 43)).alloc (Obj.cells #[.int .i64 0,.int .i64 0,.string ⟨#[]⟩,.slice none 0 0,.slice none 0 0] 43)) = U0 at *;obtain ⟨b0,hb0⟩ : ∃ z,w.heap.size = z := ⟨_,rfl⟩;have HBZ : Hid (w.heap.size = b0) := hb0;rw [hb0] at BS BT BR
 try simp only [hb0]
 clear hb0;have s0 := (BS.cell 0).trans rfl;have s1 := (BS.cell 1).trans rfl;have s2 := (BS.cell 2).trans rfl;have s3 := (BS.cell 3).trans rfl;go_wp2_with fail;refine (HCC.out _ hbw).mono ?_;rintro e w1 ⟨rfl,hb1⟩;have hbw1 := hbw.trans (hb1.mono hbw.size);have BS1 := BS.below hb1;have BT1 := BT.below hb1;have BR1 := BR.below hb1;clear s0 s1 s2 s3 BS BT BR hb1 hbw HCC;obtain ⟨CA,hCA⟩ : ∃ z,checkA s = z := ⟨_,rfl⟩;have HCA : Hid (checkA s = CA) := hCA;rw [hCA] at HR ⊢;clear hCA
 by_cases hca : CA = 0
 rotate_left
 ·have d : (CA != 0) = true := by simpa using hca
  have HRN : Hid (R = (tr0,false)) := (by rw [← HR.out,if_neg (fun h => hca h.1)] : R = _);clear hca HR HPM HMC HVC HKS BS1 BT1;have r0 := (BR1.cell 0).trans rfl;have rz0 := BR1.froz 0;have r1 := (BR1.cell 1).trans rfl;have rz1 := BR1.froz 1;have r2 := (BR1.cell 2).trans rfl;have rz2 := BR1.froz 2;have r3 := (BR1.cell 3).trans rfl;have rz3 := BR1.froz 3;have r4 := (BR1.cell 4).trans rfl;have rz4 := BR1.froz 4;go_wp2_with fail;have hbe : ∀ W,Below w.heap.size w W → Below w.heap.size w (set5 W (b0 + 2) 0 (.int .i64 0) (.int .i64 0) (.string ⟨#[]⟩) (.slice none 0 0) (.slice none 0 0)) := fun W hW => hW.trans ((set5_kp W (b0 + 2) 0 _ _ _ _ _).toBelow hW.size fun q e => by rw [e,HBZ.out]; omega)
  unfold set5 at hbe;exact bodyPost_ret (results_two rfl _ _ _ ⟨b0 + 2,0,none⟩ (.agg #[.int .i64 0,.int .i64 0,.string ⟨#[]⟩,.slice none 0 0,.slice none 0 0]) (by go_simp) (by go_simp)) rfl (SeeFP.no HRN.out (hbe _ hbw1))
 subst hca;have HPM1 := HPM.out HCA.out;have s0 := (BS1.cell 0).trans rfl;have s1 := (BS1.cell 1).trans rfl;have s2 := (BS1.cell 2).trans rfl;have s3 := (BS1.cell 3).trans rfl;go_wp2_with fail;refine (HMC.out _ hbw1).mono ?_;rintro e w2 ⟨qn,vf,vr,rfl,⟨fa,fl,fc,rfl⟩,⟨ra,rl,rc,rfl⟩,hb2⟩;have hbw2 := hbw1.trans (hb2.mono hbw1.size);have BS2 := BS1.below hb2;have BT2 := BT1.below hb2;have BR2 := BR1.below hb2;have HPM2 : Hid _ := HPM1;clear s0 s1 s2 s3 BS1 BT1 BR1 hb2 hbw1 HMC HPM1 HPM HCA;obtain ⟨QB,hQB⟩ : ∃ z,(msgOf s nm).isSome = z := ⟨_,rfl⟩;have HQB : Hid ((msgOf s nm).isSome = QB) := hQB;rw [hQB] at HR ⊢;clear hQB;have alm : ∀ o,Below w2.heap.size w2 (w2.alloc o) := fun o => (Below.refl _ _).alloc (Nat.le_refl _) _
 have hl2 : b0 + 2 < w2.heap.size := BR2.lt;have hl1 : b0 + 1 < w2.heap.size := BT2.lt;have hl0 : b0 < w2.heap.size := BS2.lt
 cases QB with
 | false =>
  have HRN : Hid (R = (tr0,false)) := (by rw [← HR.out,if_neg (fun h => by cases h.2.1)] : R = _);clear HR HPM2 HVC HKS BS2 BT2;have r0 := (BR2.cell 0).trans rfl;have rz0 := BR2.froz 0;have r1 := (BR2.cell 1).trans rfl;have rz1 := BR2.froz 1;have r2 := (BR2.cell 2).trans rfl;have rz2 := BR2.froz 2;have r3 := (BR2.cell 3).trans rfl;have rz3 := BR2.froz 3;have r4 := (BR2.cell 4).trans rfl;have rz4 := BR2.froz 4;go_wp2_with fail
  have hbe : ∀ o,Below w.heap.size w ((set5 w2 (b0 + 2) 0 (.int .i64 0) (.int .i64 0) (.string ⟨#[]⟩) (.slice none 0 0) (.slice none 0 0)).alloc o) := fun o => by
   have h1 := hbw2.trans ((set5_kp w2 (b0 + 2) 0 (.int .i64 0) (.int .i64 0) (.string ⟨#[]⟩) (.slice none 0 0) (.slice none 0 0)).toBelow hbw2.size fun q e => by rw [e,HBZ.out]; omega);exact h1.alloc h1.size _
  unfold set5 at hbe;exact bodyPost_ret (results_two rfl _ _ _ ⟨b0 + 2,0,none⟩ (.agg #[.int .i64 0,.int .i64 0,.string ⟨#[]⟩,.slice none 0 0,.slice none 0 0]) (by go_simp) (by go_simp)) rfl (SeeFP.no HRN.out (hbe _))
 | true =>
  go_upto_region 6 with fail
  have hbw3 := hbw2.trans ((alm (Obj.cells #[.string qn,.slice fa fl fc,.slice ra rl rc] 30)).mono hbw2.size);have BS3 := BS2.below (alm (Obj.cells #[.string qn,.slice fa fl fc,.slice ra rl rc] 30));have BT3 := BT2.below (alm (Obj.cells #[.string qn,.slice fa fl fc,.slice ra rl rc] 30));have BR3 := BR2.below (alm (Obj.cells #[.string qn,.slice fa fl fc,.slice ra rl rc] 30));clear BS2 BT2 BR2 hbw2 alm hl0 hl1 hl2;generalize (w2.alloc (Obj.cells #[.string qn,.slice fa fl fc,.slice ra rl rc] 30)) = W3 at *;rw [HT3.out] at HR;have t0 := (BT3.cell 0).trans rfl;have t1 := (BT3.cell 1).trans rfl;have t2 := (BT3.cell 2).trans rfl;have t3 := (BT3.cell 3).trans rfl;have t4 := (BT3.cell 4).trans rfl
  by_cases hK3 : K = 3
  rotate_left
  ·have d : (K != 3) = true := by simpa using hK3
   have HRN : Hid (R = (tr0,false)) := (by rw [← HR.out,if_neg (fun h => hK3 h.2.2.1)] : R = _);clear hK3 HR HPM2 HVC HKS BS3 BT3 HT3;have r0 := (BR3.cell 0).trans rfl;have rz0 := BR3.froz 0;have r1 := (BR3.cell 1).trans rfl;have rz1 := BR3.froz 1;have r2 := (BR3.cell 2).trans rfl;have rz2 := BR3.froz 2;have r3 := (BR3.cell 3).trans rfl;have rz3 := BR3.froz 3;have r4 := (BR3.cell 4).trans rfl;have rz4 := BR3.froz 4;go_wp2_with fail;have hbe : ∀ W,Below w.heap.size w W → Below w.heap.size w (set5 W (b0 + 2) 0 (.int .i64 0) (.int .i64 0) (.string ⟨#[]⟩) (.slice none 0 0) (.slice none 0 0)) := fun W hW => hW.trans ((set5_kp W (b0 + 2) 0 _ _ _ _ _).toBelow hW.size fun q e => by rw [e,HBZ.out]; omega)
   unfold set5 at hbe;exact bodyPost_ret (results_two rfl _ _ _ ⟨b0 + 2,0,none⟩ (.agg #[.int .i64 0,.int .i64 0,.string ⟨#[]⟩,.slice none 0 0,.slice none 0 0]) (by go_simp) (by go_simp)) rfl (SeeFP.no HRN.out (hbe _ hbw3))
  subst hK3;go_wp2_with fail;refine (HVC.out _ hbw3).mono ?_;rintro e w4 ⟨rfl,hb4⟩;have hbw4 := hbw3.trans (hb4.mono hbw3.size);have BS4 := BS3.below hb4;have BT4 := BT3.below hb4;have BR4 := BR3.below hb4;clear t0 t1 t2 t3 t4 BS3 BT3 BR3 hb4 hbw3 HVC;obtain ⟨CB,hCB⟩ : ∃ z,chkN (n + 1) t = z := ⟨_,rfl⟩;have HCB : Hid (chkN (n + 1) t = CB) := hCB;rw [hCB] at HR ⊢;clear hCB
  cases CB with
  | false =>
   have HRN : Hid (R = (tr0,false)) := (by rw [← HR.out,if_neg (fun h => by cases h.2.2.2)] : R = _);clear HR HPM2 HKS BS4 BT4 HT3 HCB;have r0 := (BR4.cell 0).trans rfl;have rz0 := BR4.froz 0;have r1 := (BR4.cell 1).trans rfl;have rz1 := BR4.froz 1;have r2 := (BR4.cell 2).trans rfl;have rz2 := BR4.froz 2;have r3 := (BR4.cell 3).trans rfl;have rz3 := BR4.froz 3;have r4 := (BR4.cell 4).trans rfl;have rz4 := BR4.froz 4;go_wp2_with fail;have hbe : ∀ W,Below w.heap.size w W → Below w.heap.size w (set5 W (b0 + 2) 0 (.int .i64 0) (.int .i64 0) (.string ⟨#[]⟩) (.slice none 0 0) (.slice none 0 0)) := fun W hW => hW.trans ((set5_kp W (b0 + 2) 0 _ _ _ _ _).toBelow hW.size fun q e => by rw [e,HBZ.out]; omega)
   unfold set5 at hbe;exact bodyPost_ret (results_two rfl _ _ _ ⟨b0 + 2,0,none⟩ (.agg #[.int .i64 0,.int .i64 0,.string ⟨#[]⟩,.slice none 0 0,.slice none 0 0]) (by go_simp) (by go_simp)) rfl (SeeFP.no HRN.out (hbe _ hbw4))
  | true =>
   have HRY : Hid (R = (prM (n + 1) s nm t,true)) := (by rw [← HR.out,if_pos (by simp)] : R = _);have HPW : Hid (∀ W b F,KnP s w W b F → _) := HPM2.out HT3.out HCB.out;have hK5 := HKS.out w4 hbw4;have hl2 : b0 + 2 < w4.heap.size := BR4.lt;have hl1 : b0 + 1 < w4.heap.size := BT4.lt;have hl0 : b0 < w4.heap.size := BS4.lt;have HPX : Hid _ := HPW.out _ _ _ hK5;have s0 := (BS4.cell 0).trans rfl;have s1 := (BS4.cell 1).trans rfl;have s2 := (BS4.cell 2).trans rfl;have s3 := (BS4.cell 3).trans rfl;have t0 := (BT4.cell 0).trans rfl;have t1 := (BT4.cell 1).trans rfl;have t2 := (BT4.cell 2).trans rfl;have t3 := (BT4.cell 3).trans rfl;have t4 := (BT4.cell 4).trans rfl;have al5 : Below w4.heap.size w4 (w4.alloc (.map #[] 0)) := (Below.refl _ _).alloc (Nat.le_refl _) _;have BR5 := BR4.below al5;clear HPM2 HPW HKS HR BS4 BT4 BR4 HCB HT3;generalize prM (n + 1) s nm t = T at *;go_wp2_with fail;refine Calls.mono HPX.out ?_;rintro e w6 ⟨r,G,rfl,hg,hse⟩;obtain ⟨q1,q2,q3,q4,q5,q6,rfl⟩ := trC_open hse.now.trQ.trC
   have hnb : b0 + 2 ≠ w4.heap.size := by omega
   have BR6 := BR5.kp hg.kp hnb;have hnG : ¬ G (b0 + 2) := hg.fresh BR5 fun e => e
   have hk7 := set5_kp w6 (b0 + 2) 0 (.int .i64 T.kind) (.int .i64 T.n) (.string T.s) (.slice q1 q2 q3) (.slice q4 q5 q6);have hFIN : Hid (SeeFP (n + 1) R w (.returned (.tuple #[.agg #[.int .i64 T.kind,.int .i64 T.n,.string T.s,.slice q1 q2 q3,.slice q4 q5 q6],.bool true])) (set5 w6 (b0 + 2) 0 (.int .i64 T.kind) (.int .i64 T.n) (.string T.s) (.slice q1 q2 q3) (.slice q4 q5 q6))) := SeeFP.yes HRY.out (hg.kn.kp hk7 (fun k e => by rw [e,HBZ.out]; omega) (fun e => hnb e.symm) fun k e e2 => hnG (e2 ▸ e)) (hse.stay (Stay.kp hk7 (fun k e => (hg.kn.new k e).2) fun k e e2 => hnG (e2 ▸ e)));unfold set5 at hFIN;have r0 := (BR6.cell 0).trans rfl;have rz0 := BR6.froz 0;have r1 := (BR6.cell 1).trans rfl;have rz1 := BR6.froz 1;have r2 := (BR6.cell 2).trans rfl;have rz2 := BR6.froz 2;have r3 := (BR6.cell 3).trans rfl;have rz3 := BR6.froz 3;have r4 := (BR6.cell 4).trans rfl;have rz4 := BR6.froz 4;clear hse hg hk7 hnG hnb BR5 BR6 HPX hK5 HRY s0 s1 s2 s3 t0 t1 t2 t3 t4 al5 hl0 hl1 hl2;generalize T.kind = TK at *;generalize T.n = TN at *;generalize T.s = TS at *;go_wp2_with fail;refine bodyPost_ret (results_two rfl _ _ _ ⟨b0 + 2,0,none⟩ (.agg #[.int .i64 TK,.int .i64 TN,.string TS,.slice q1 q2 q3,.slice q4 q5 q6]) (by go_simp) (by go_simp)) rfl ?_;exact hFIN.out
theorem RowG.blk {w : World} {b : Nat} {cs : Array Value} {t : TypeId} {size n : Nat} {rs : List (List Value)} (h : Blk w b cs t) (hc : cs.toList = rs.flatten) (hl : ∀ r ∈ rs,r.length = size) (hn : rs.length = n) (hm : n ≤ 1000000) : RowG w (.slice (some ⟨b,0,none⟩) n n) size rs := by
 subst hn;refine ⟨some ⟨b,0,none⟩,rs.length,rfl,Nat.le_refl _,by unfold maxLen; omega,(fun e => by cases e),fun _ => ⟨b,0,rfl,fun i c u j hi hj => ?_⟩⟩;rw [h.cell,← Array.getElem?_toList,hc,Nat.zero_add];exact flat_get rs hl i c hi j u hj
theorem sc_one {w : World} {b : Nat} {name nm : ByteArray} {vf : Value} {fs : List FlS} (B : Blk w b #[.string nm,vf,.slice none 0 0] 30) (hf : RowG w vf 5 (flRows fs)) : ScIn w (.agg #[.string name,.slice (some ⟨b,0,none⟩) 1 1,.slice none 0 0,.slice none 0 0]) ⟨name,[⟨nm,fs,[]⟩],[],[]⟩ := by
 refine ⟨_,_,_,rfl,⟨[[.string nm,vf,.slice none 0 0]],RowG.blk B rfl (fun r hr => by simp at hr; subst hr; rfl) rfl (by decide),rfl,fun i m hm => ?_⟩,⟨[],RowG.nil _ _,rfl,fun i e he => by simp at he⟩,RowG.nil _ _⟩
 match i,hm with
 | 0,hm => simp at hm; subst hm; exact ⟨_,_,rfl,hf,RowG.nil _ _⟩
 | i + 1,hm => simp at hm
def s1A (tag label kind : Int) (tn : ByteArray) : ScS := ⟨⟨#[97]⟩,[⟨⟨#[109]⟩,[⟨⟨#[120]⟩,tag,label,kind,tn⟩],[]⟩],[],[]⟩
theorem s1_few (tag label kind : Int) (tn : ByteArray) : FewL (s1A tag label kind tn) := ⟨by simp [s1A],by simp [s1A],by simp [s1A],fun m hm => by simp [s1A] at hm; subst hm; simp,fun m hm => by simp [s1A] at hm⟩
theorem s1_w (tag label kind : Int) (tn : ByteArray) (h1 : I64 tag) (h2 : I64 label) (h3 : I64 kind) (h4 : tn.size ≤ 140737488351232) : ScW (s1A tag label kind tn) := ⟨(by decide : (ByteArray.mk #[97]).size ≤ 140737488351232),fun m hm => by simp [s1A] at hm; subst hm; exact ⟨(by decide : (ByteArray.mk #[109]).size ≤ 140737488351232),(fun f hf => by simp at hf; subst hf; exact ⟨(by decide : (ByteArray.mk #[120]).size ≤ 140737488351232),h4,h1,h2,h3⟩),by simp⟩,fun m hm => by simp [s1A] at hm,fun m hm => by simp [s1A] at hm⟩
theorem s1_msg (tag label kind : Int) (tn : ByteArray) : msgOf (s1A tag label kind tn) ⟨#[109]⟩ = some ⟨⟨#[109]⟩,[⟨⟨#[120]⟩,tag,label,kind,tn⟩],[]⟩ := by simp [msgOf,s1A]
theorem s1_in {w : World} {b0 b1 : Nat} {tag label kind : Int} {tn : ByteArray} (BF : Blk w b0 #[.string ⟨#[120]⟩,.int .i64 tag,.int .i64 label,.int .i64 kind,.string tn] 27) (BM : Blk w b1 #[.string ⟨#[109]⟩,.slice (some ⟨b0,0,none⟩) 1 1,.slice none 0 0] 30) :
  ScIn w (.agg #[.string ⟨#[97]⟩,.slice (some ⟨b1,0,none⟩) 1 1,.slice none 0 0,.slice none 0 0]) (s1A tag label kind tn) :=
 sc_one BM (RowG.blk BF rfl (fun r hr => by simp [flRows] at hr; subst hr; rfl) rfl (by decide))
def numT (v : Int) : Tr := ⟨1,v,⟨#[]⟩,[],[]⟩
def numsT (l : List Int) : Tr := ⟨3,0,⟨#[]⟩,[(5,l.map numT)],[]⟩
def seenE (k : Int) (l : List Int) : List (Int × List Tr) := if k = 3 then [(5,l.map numT)] else if k = 1 ∧ l.getLastD 0 = 0 then [] else [(5,[numT (l.getLastD 0)])]
theorem s1_chk {k : Int} (hk : k = 1 ∨ k = 2 ∨ k = 3) : checkA (s1A 5 k 2 ⟨#[]⟩) = 0 := by
 rcases hk with rfl | rfl | rfl <;> decide +kernel
theorem nums_ok {l : List Int} (h1 : 1 ≤ l.length) (h2 : l.length ≤ 64) : chkN 2 (numsT l) = true ∧ SmN 2 (numsT l) ∧ cntN 2 (numsT l) ≤ 5000 := by
 have hs : subs (numsT l).es = l.map numT := by simp [subs,numsT]
 have hh : ∀ x ∈ l.map numT,x.kind = 1 := fun x hx => by
  obtain ⟨v, -,rfl⟩ := List.mem_map.1 hx; rfl
 have hk3 : (numsT l).kind = 3 := rfl
 have h0s : (ByteArray.mk #[]).size ≤ 5000 := by decide
 refine ⟨?_,?_,?_⟩
 ·simp only [chkN,Bool.and_eq_true,decide_eq_true_eq]
  constructor
  ·show dpN 2 (numsT l) ≤ 10
   rw [dpN,if_pos hk3,hs]
   have : ((l.map numT).map (dpN 1)).foldr max 0 ≤ 0 := foldr_max_le fun x hx => by
    obtain ⟨y,hy,rfl⟩ := List.mem_map.1 hx;obtain ⟨v, -,rfl⟩ := List.mem_map.1 hy
    simp [dpN,numT]
   omega
  ·show okN 2 (numsT l) = true
   rw [okN,if_pos hk3,hs,Bool.and_eq_true];refine ⟨?_,?_⟩
   ·unfold lvB;rw [if_neg (by rw [hk3]; decide),if_neg (by rw [hk3]; decide),if_pos hk3]
    have he : entsB 0 [(5,l.map numT)] = true := by
     have hd : ∀ y ∈ l.map numT,(y.kind == (((l.map numT).head?.map Tr.kind).getD 0)) = true := fun y hy => by
      cases l with
      | nil => simp at h1
      | cons a l => rw [hh y hy]; rfl
     simp only [entsB,Bool.and_true,Bool.and_eq_true,decide_eq_true_eq,List.length_map,List.all_eq_true];exact ⟨⟨⟨⟨by omega,by omega⟩,h1⟩,h2⟩,fun y hy => hd y hy⟩
    show ((0 : Int) == 0 && (ByteArray.mk #[]).size == 0 && entsB 0 [(5,l.map numT)] && restB [] [(5,l.map numT)]) = true
    rw [he]
    rfl
   ·exact List.all_eq_true.2 fun x hx => by
     obtain ⟨v, -,rfl⟩ := List.mem_map.1 hx; rfl
 ·refine ⟨h0s,Nat.zero_le _,by simp [numsT],by simp [numsT],fun e he => ?_⟩;simp only [numsT,List.mem_singleton] at he;subst he;refine ⟨by simp; omega,fun x hx => ?_⟩;obtain ⟨v, -,rfl⟩ := List.mem_map.1 hx;exact ⟨h0s,Nat.zero_le _,Nat.zero_le _,by simp [numT],by simp [numT]⟩
 ·show 1 + ((subs (numsT l).es).map (cntN 1)).sum ≤ 5000
  rw [hs]
  have h5 : ∀ m : List Int,((m.map numT).map (cntN 1)).sum = m.length := fun m => by
   induction m with
   | nil => rfl
   | cons a m ih => rw [List.map_cons,List.map_cons,List.sum_cons,ih,List.length_cons]; show cntN 1 (numT a) + _ = _; simp [cntN,numT,subs]; omega
  rw [h5]
  omega
theorem drop_last_one {α : Type} (d : α) : ∀ {l : List α},1 ≤ l.length → l.drop (l.length - 1) = [l.getLastD d]
 | [],h => by simp at h
 | [a],_ => rfl
 | a :: b :: l,_ => by
  have h := drop_last_one (l := b :: l) d (by simp)
  show List.drop (l.length + 1) (a :: b :: l) = _
  rw [List.drop_succ_cons];exact h
theorem numT_zero (v : Int) : zroB (numT v) = decide (v = 0) := by
 rw [Bool.eq_iff_iff]
 simp [zroB,numT]
 exact ⟨fun h => of_decide_eq_true h.1,fun h => ⟨decide_eq_true h,rfl⟩⟩
theorem ent_last (M : ByteArray → Tr → Tr) {k : Int} {l : List Int} (hk : k = 1 ∨ k = 2 ∨ k = 3) (h1 : 1 ≤ l.length) : [(5,l.map numT)].filterMap (entP M [⟨⟨#[120]⟩,5,k,2,⟨#[]⟩⟩]) = seenE k l := by
 have hf : fldOf [⟨⟨#[120]⟩,5,k,2,⟨#[]⟩⟩] 5 = some (⟨⟨#[120]⟩,5,k,2,⟨#[]⟩⟩ : FlS) := by simp [fldOf]
 have ha : (l.map numT).all (pfitB ⟨⟨#[120]⟩,5,k,2,⟨#[]⟩⟩) = true := List.all_eq_true.2 fun x hx => by
  obtain ⟨v, -,rfl⟩ := List.mem_map.1 hx
  rfl
 have hmap : ∀ m : List Int,(m.map numT).map (oneP M ⟨⟨#[120]⟩,5,k,2,⟨#[]⟩⟩) = m.map numT := fun m => by
  rw [List.map_map]
  exact List.map_congr_left fun v _ => by simp [oneP,numT]
 have hl : lastP ⟨⟨#[120]⟩,5,k,2,⟨#[]⟩⟩ (l.map numT) = if k = 3 then l.map numT else [numT (l.getLastD 0)] := by
  show (if k = 3 then l.map numT else (l.map numT).drop ((l.map numT).length - 1)) = _
  by_cases h3 : k = 3
  ·simp only [h3,if_true]
  ·simp only [h3,if_false];rw [List.length_map,← List.map_drop,drop_last_one 0 h1]
   rfl
 have h1m : ∀ v : Int,[numT v].map (oneP M ⟨⟨#[120]⟩,5,k,2,⟨#[]⟩⟩) = [numT v] := fun v => hmap [v]
 have hE : entP M [⟨⟨#[120]⟩,5,k,2,⟨#[]⟩⟩] (5,l.map numT) = if k = 3 then some (5,l.map numT) else if k = 1 ∧ l.getLastD 0 = 0 then none else some (5,[numT (l.getLastD 0)]) := by
  by_cases h3 : k = 3
  ·have hl3 : lastP ⟨⟨#[120]⟩,5,k,2,⟨#[]⟩⟩ (l.map numT) = l.map numT := by rw [hl,if_pos h3]
   rw [if_pos h3];simp only [entP,hf,ha,if_true];rw [if_neg (fun h => by have := (show k = 1 from h.1); omega),hl3,hmap]
  ·have hl3 : lastP ⟨⟨#[120]⟩,5,k,2,⟨#[]⟩⟩ (l.map numT) = [numT (l.getLastD 0)] := by rw [hl,if_neg h3]
   rw [if_neg h3];simp only [entP,hf,ha,if_true];rw [hl3,h1m,List.headD_cons,numT_zero];simp only [decide_eq_true_eq]
 rw [List.filterMap_cons,hE,List.filterMap_nil];unfold seenE
 by_cases h3 : k = 3
 ·rw [if_pos h3,if_pos h3]
 ·rw [if_neg h3,if_neg h3]
  by_cases h0 : k = 1 ∧ l.getLastD 0 = 0
  ·rw [if_pos h0,if_pos h0]
  ·rw [if_neg h0,if_neg h0]
theorem proj_last {k : Int} {l : List Int} (hk : k = 1 ∨ k = 2 ∨ k = 3) (h1 : 1 ≤ l.length) (h2 : l.length ≤ 64) : projA 2 (s1A 5 k 2 ⟨#[]⟩) ⟨#[109]⟩ (numsT l) = (⟨3,0,⟨#[]⟩,seenE k l,[]⟩,true) := by
 have hm := s1_msg 5 k 2 ⟨#[]⟩;unfold projA;rw [if_pos ⟨s1_chk hk,by rw [hm]; rfl,rfl,(nums_ok h1 h2).1⟩];have hp : prM 2 (s1A 5 k 2 ⟨#[]⟩) ⟨#[109]⟩ (numsT l) = ⟨3,0,⟨#[]⟩,[(5,l.map numT)].filterMap (entP (prM 1 (s1A 5 k 2 ⟨#[]⟩)) ((msgOf (s1A 5 k 2 ⟨#[]⟩) ⟨#[109]⟩).getD zMs).fields),[]⟩ := rfl;rw [hp,hm,Option.getD_some,ent_last _ hk h1]
def NumY (g : Nat) (vt : Value) (xs : List Tr) (w : World) : Prop := Blk w g #[.int .i64 5,vt] 39 ∧ ∃ rows bss,RowO (TrO 1 (g + 1)) (g + 1) 43 5 w vt xs rows bss ∧ Apt (g + 1) w (allB vt bss)
theorem numT_own (w : World) (B : Nat) {v : Int} (h : Is64 v) : TrO 1 B w [.int .i64 1,.int .i64 v,.string ⟨#[]⟩,.slice none 0 0,.slice none 0 0] (numT v) [] :=
 ⟨.slice none 0 0,.slice none 0 0,[],[],rfl,by show Is64 1; unfold Is64; omega,h,by show (ByteArray.mk #[]).size ≤ _; decide,(fun f hf => by cases hf),World.ownsRow_nil _ _ _ _,RowO.nil _ _ _ _ _,rfl⟩
section
variable {g bz : Nat} {vt : Value} {xs : List Tr} {w w0 w' W : World} {v : Int}
theorem NumY.nil (hb : Blk w g #[.int .i64 5,.slice none 0 0] 39) : NumY g (.slice none 0 0) [] w := ⟨hb,[],[],RowO.nil _ _ _ _ _,Apt.nil _ _⟩
theorem NumY.below (h : NumY g vt xs w) (hb : Below w.heap.size w w') : NumY g vt xs w' := by
 obtain ⟨h1,rows,bss,h2,h3⟩ := h;exact ⟨h1.below hb,rows,bss,h2.sm (Sm.below hb fun k hk => (h3.2 k hk).2) fun _ _ _ hp hs => hp.sm hs,h3.mono hb.size⟩
theorem NumY.size (h : NumY g vt xs w) : g < w.heap.size := h.1.lt
theorem NumY.push (h : NumY g vt xs w0) (hb : Below w0.heap.size w0 W) (h64 : Is64 v) (BZ : Blk W bz #[.int .i64 1,.int .i64 v,.string ⟨#[]⟩,.slice none 0 0,.slice none 0 0] 43) (hn : xs.length ≤ 1000) :
  ∃ a c W',(Builtin.append_ #[37,37] 37 #[vt,.slice (some ⟨bz,0,none⟩) 1 1]).run Try.prog W = .ok (.slice a (xs.length + 1) c) W' ∧ Blk W' g #[.int .i64 5,vt] 39 ∧
   NumY g (.slice a (xs.length + 1) c) (xs ++ [numT v]) (W'.setCell ⟨g,1,none⟩ (.slice a (xs.length + 1) c)) ∧ Kp (fun q => g < q) W W' ∧ Kp (fun q => g ≤ q) w0 (W'.setCell ⟨g,1,none⟩ (.slice a (xs.length + 1) c)) := by
 have hg := h.size;obtain ⟨h1,rows,bss,h2,h3⟩ := h;have hB : g + 1 ≤ w0.heap.size := hg
 have hA : Apt (g + 1) W ([] ++ (allB vt bss ++ [])) := by
  rw [List.nil_append,List.append_nil];exact h3.mono hb.size
 have h2' := h2.sm (Sm.below hb fun k hk => (h3.2 k hk).2) fun _ _ _ hp hs => hp.sm hs
 obtain ⟨v',W',r1,r2,r3,⟨a,c,rfl⟩,r5⟩ := push_row (P := TrO 1 (g + 1)) (t := 37) (more := []) Try.underlying37 infoTr rfl (by decide) h2' hA (numT_own W (g + 1) h64) rfl (fun u hu => by
  simp only [List.mem_cons,List.not_mem_nil,or_false] at hu
  rcases hu with rfl | rfl | rfl | rfl | rfl <;> rfl) (fun _ _ _ _ hp hs => hp.sm hs) BZ hn (by decide) (Nat.le_trans hB hb.size)
 rw [List.nil_append] at r3;have hbv : ∀ q ∈ blkOf vt,g + 1 ≤ q := fun q hq => (own_lt h2.own (mem_blkOf.1 hq)).1
 have hgn : g ∉ blkOf vt := fun e => by have := hbv _ e; omega
 have k5 : Kp (fun q => q = g) W' (W'.setCell ⟨g,1,none⟩ (.slice a (xs.length + 1) c)) := by
  refine Kp.setCell ?_ (fun _ => by simp) _;exact Kp.refl _ _
 have B' := (h1.below hb).kp r5 hgn;refine ⟨a,c,W',r1,B',⟨B'.set 1 _ rfl,_,_,r2.sm (k5.sm fun q hq => ⟨(r3.2 q hq).2,fun e => by have := (r3.2 q hq).1; omega⟩) (fun _ _ _ hp hs => hp.sm hs),r3.mono k5.size⟩,r5.weak fun q _ hq => hbv q hq,?_⟩;refine ((Kp.ofBelow hb).trans2 (r5.weak (S' := fun q => g ≤ q) fun q _ hq => by have := hbv q hq; omega) fun _ _ hi => hi).trans2 (k5.weak (S' := fun q => g ≤ q) fun q _ hq => by omega) fun _ _ hi => hi
theorem NumY.trW {be : Nat} (h : NumY g vt xs w) (BE : Blk w be #[.int .i64 5,vt] 39) : TrW 2 w (.agg #[.int .i64 3,.int .i64 0,.string ⟨#[]⟩,.slice (some ⟨be,0,none⟩) 1 1,.slice none 0 0]) ⟨3,0,⟨#[]⟩,[(5,xs)],[]⟩ := by
 obtain ⟨h1,rows,bss,h2,h3⟩ := h;refine ⟨_,rfl,.slice (some ⟨be,0,none⟩) 1 1,.slice none 0 0,rfl,by show Is64 3; unfold Is64; omega,by show Is64 0; unfold Is64; omega,by show (ByteArray.mk #[]).size ≤ _; decide,(fun f hf => by cases hf),RowG.nil w 4,⟨[[.int .i64 5,vt]],RowG.blk BE rfl (fun r hr => by simp at hr; subst hr; rfl) rfl (by decide),rfl,fun i e he => ?_⟩,?_,?_⟩
 ·match i,he with
  | 0,he =>
   simp at he
   subst he;exact ⟨_,rfl,vt,rfl,by show Is64 5; unfold Is64; omega,h2.rowP (by decide) fun r x b hx hp => hp.trR⟩
  | i + 1,he => simp at he
 ·intro g' off n cap e _;simp only [Value.slice.injEq,Option.some.injEq,Addr.mk.injEq] at e;obtain ⟨⟨rfl, -⟩, -⟩ := e;exact ⟨_,_,BE⟩
 ·intro g' off n cap e _
  simp at e
end
theorem pjawake_any (w : World) : Calls Try.prog 5 #[] w fun e w' => e = .returned (.bool true) ∧ Below w.heap.size w w' := by
 have c1 : Hid (∀ W,Calls Try.prog 7 #[.int .i64 1099511627776] W fun e w' => e = .returned (.int .i64 2147483647) ∧ Below W.heap.size W w') := fun W => clamp_any 1099511627776 W
 have c2 : Hid (∀ W,Calls Try.prog 7 #[.int .i64 (-1099511627776)] W fun e w' => e = .returned (.int .i64 (-2147483648)) ∧ Below W.heap.size W w') := fun W => clamp_any (-1099511627776) W
 have c3 : Hid (∀ W,Calls Try.prog 7 #[.int .i64 5] W fun e w' => e = .returned (.int .i64 5) ∧ Below W.heap.size W w') := fun W => clamp_any 5 W
 go_enter Try.func5,Try.ntmps5
 go_wp2_with fail;refine (c1.out _).mono ?_;rintro e w1 ⟨rfl,h1⟩;go_wp2_with fail;refine (c2.out _).mono ?_;rintro e w2 ⟨rfl,h2⟩;have h2' := h1.trans (h2.mono h1.size);clear h2;go_wp2_with fail;refine (c3.out _).mono ?_;rintro e w3 ⟨rfl,h3⟩;have h3' := h2'.trans (h3.mono h2'.size);clear h3;go_wp2_with fail;go_ret;exact ⟨rfl,h3'⟩
theorem info_parts {e : Nat} {z : Value} {s b : Nat} (h : (Try.prog.info? e).map (fun i => (i.zero,i.size,i.bytes)) = some (some z,s,b)) :
  ∃ i,Try.prog.info? e = some i ∧ i.zero = some z ∧ i.size = s ∧ i.bytes = b := by
 cases hi : Try.prog.info? e with
 | none => rw [hi] at h; simp at h
 | some i => rw [hi] at h; simp at h; exact ⟨i,rfl,h.1,h.2.1,h.2.2⟩
def IsRow (k : IntKind) (w : World) (a : Option Addr) (len cap : Nat) (zs : List Int) : Prop :=
 (a = none ∧ len = 0 ∧ cap = 0 ∧ zs = []) ∨
 ∃ x,a = some x ∧ len ≤ cap ∧ cap ≤ maxLen ∧ zs.length = cap ∧ (∀ i,i < zs.length → w.cell? (x.add i) = some (.int k (zs.getD i 0))) ∧ ∀ n ∈ zs,(Lit.int k n).wf = true
theorem IsRow.rowG {w : World} {a : Option Addr} {len cap : Nat} {zs : List Int} (h : IsRow .i64 w a len cap zs) : RowG w (.slice a len cap) 1 (inRows (zs.take len)) ∧ (zs.take len).length = len := by
 rcases h with ⟨rfl,rfl,rfl,rfl⟩ | ⟨x,rfl,hl,hm,hz,hc,hw⟩
 ·exact ⟨RowG.nil _ _,rfl⟩
 ·have hlen : (zs.take len).length = len := by rw [List.length_take]; omega
  refine ⟨⟨some x,cap,by rw [show (inRows (zs.take len)).length = len by rw [inRows,List.length_map,hlen]],by rw [show (inRows (zs.take len)).length = len by rw [inRows,List.length_map,hlen]]; exact hl,hm,(fun e => by cases e),fun hne => ?_⟩,hlen⟩
  have hp : 0 < len := by
   cases len with
   | zero => exact absurd (by simp [inRows]) hne
   | succ n => omega
  obtain ⟨b,off,rfl,hcell⟩ := ints_at hc (by omega);refine ⟨b,off,rfl,fun i c u j hi hu => ?_⟩;simp only [inRows,List.getElem?_map,Option.map_eq_some_iff] at hi;obtain ⟨n,hn,rfl⟩ := hi
  obtain ⟨hj,rfl⟩ : j = 0 ∧ Value.int .i64 n = u := by
   cases j with
   | zero => simpa using hu
   | succ j => simp at hu
  subst hj
  have hi' : i < len := by
   have := (List.getElem?_eq_some_iff.1 hn).1
   omega
  rw [Nat.mul_one,Nat.add_zero,hcell i (by omega)];rw [List.getElem?_take_of_lt hi'] at hn
  simp [List.getD_eq_getElem?_getD,hn]
theorem IsRow.i64 {w : World} {a : Option Addr} {len cap : Nat} {zs : List Int} (h : IsRow .i64 w a len cap zs) : ∀ n ∈ zs.take len,Is64 n := fun n hn => by
 rcases h with ⟨rfl,rfl,rfl,rfl⟩ | ⟨x,rfl,hl,hm,hz,hc,hw⟩
 ·simp at hn
 ·have h1 := bounds_i64 (hw n (List.mem_of_mem_take hn));unfold Is64; omega
def placeI (v n : Int) : Int := if v.tmod n < 0 then v.tmod n + n else v.tmod n
theorem placeI_in (v n : Int) (hn : 1 ≤ n) : 0 ≤ placeI v n ∧ placeI v n < n := by
 have t1 := Int.tmod_lt_of_pos v (b := n) (by omega);have t2 := Int.lt_tmod_of_pos v (b := n) (by omega);unfold placeI; split <;> omega
theorem place_is (v n : Int) (hv1 : -9223372036854775808 ≤ v) (hv2 : v ≤ 9223372036854775807) (hn1 : 1 ≤ n) (hn2 : n ≤ 4611686018427387904) (w : World) :
  Calls Try.prog 4 #[.int .i64 v,.int .i64 n] w fun e w' => e = .returned (.int .i64 (placeI v n)) ∧ w' = w := by
 have t1 := Int.tmod_lt_of_pos v (b := n) (by omega);have t2 := Int.lt_tmod_of_pos v (b := n) (by omega)
 have hz : (n == 0) = false := by rw [beq_eq_false_iff_ne]; omega
 by_cases h : v.tmod n < 0
 ·have HP : Hid (v.tmod n + n = placeI v n) := by show _ = _; unfold placeI; rw [if_pos h]
  go_enter Try.func4,Try.ntmps4
  go_wp2_with fail;go_ret;exact ⟨by rw [← HP.out]; rfl,rfl⟩
 ·have HP : Hid (v.tmod n = placeI v n) := by show _ = _; unfold placeI; rw [if_neg h]
  go_enter Try.func4,Try.ntmps4
  go_wp2_with fail;go_ret;exact ⟨by rw [← HP.out]; rfl,rfl⟩
end
section
section
variable {P : Program} {md : Region.Mode} {ops : Array Oper} {Q : Exit → Act → World → Prop} {T : World → Prop} {m : Nat}
end
end
end Go.Proofs.Ytmgbhicogmclgab
