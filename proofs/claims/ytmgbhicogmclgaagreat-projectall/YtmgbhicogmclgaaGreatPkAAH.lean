/- Part 8 of what the proof stands on. -/
import Derived.Test.YtmgbhicogmclgaaGreatPkAAG
import Derived.Deep.LoopGhost
namespace Go.Proofs.YtmgbhicogmclgaaGreat
set_option maxHeartbeats 8000000
set_option linter.unusedVariables false
set_option linter.unusedSimpArgs false
set_option maxRecDepth 20000
section
open Go.ChangeShapes Go.WideShapes Go.ChangeAt Go.RowKit
theorem wpList_appP {ops : Array Oper} {rest : List Oper} {o : Oper} {a : Act} {Q : Exit → Act → World → Prop} {w w' : World} {t : TypeId} {v y v' : Value} (hgd : o.guard = none) (s x : Operand) (hop : o.op = .call { callee := .builtin .append,args := #[s,x],argTypes := #[t,t] })
  (hs : a.eval s = v) (hx : a.eval x = y) (hr : (Builtin.append_ #[t,t] o.type #[v,y]).run Tryz.prog w = .ok v' w') (h : wpList Tryz.prog ops Q rest (a.put o.dst v') w') : wpList Tryz.prog ops Q (o :: rest) a w :=
 wpList_plain hgd fun K hK => by
  unfold Oper.wp;rw [append_run hop hs hx hr];exact hK _ _ h
theorem p3blk (w : World) (c1 c2 c3 : Array Value) (t1 t2 t3 : TypeId) : Blk (((w.alloc (.cells c1 t1)).alloc (.cells c2 t2)).alloc (.cells c3 t3)) w.heap.size c1 t1 ∧ Blk (((w.alloc (.cells c1 t1)).alloc (.cells c2 t2)).alloc (.cells c3 t3)) (w.heap.size + 1) c2 t2 ∧ Blk (((w.alloc (.cells c1 t1)).alloc (.cells c2 t2)).alloc (.cells c3 t3)) (w.heap.size + 2) c3 t3 ∧ Below w.heap.size w (((w.alloc (.cells c1 t1)).alloc (.cells c2 t2)).alloc (.cells c3 t3)) := by
 have e1 : (w.alloc (.cells c1 t1)).heap.size = w.heap.size + 1 := by simp
 have e2 : ((w.alloc (.cells c1 t1)).alloc (.cells c2 t2)).heap.size = w.heap.size + 2 := by simp
 have a1 : Below w.heap.size w (w.alloc (.cells c1 t1)) := (Below.refl _ _).alloc (Nat.le_refl _) _;have a2 : Below (w.alloc (.cells c1 t1)).heap.size (w.alloc (.cells c1 t1)) ((w.alloc (.cells c1 t1)).alloc (.cells c2 t2)) := (Below.refl _ _).alloc (Nat.le_refl _) _;have a3 : Below ((w.alloc (.cells c1 t1)).alloc (.cells c2 t2)).heap.size ((w.alloc (.cells c1 t1)).alloc (.cells c2 t2)) (((w.alloc (.cells c1 t1)).alloc (.cells c2 t2)).alloc (.cells c3 t3)) := (Below.refl _ _).alloc (Nat.le_refl _) _;refine ⟨((Blk.new w c1 t1).below a2).below a3,?_,?_,(a1.trans (a2.mono a1.size)).trans (a3.mono (Nat.le_trans a1.size a2.size))⟩
 ·have := (Blk.new (w.alloc (.cells c1 t1)) c2 t2).below a3
  rwa [e1] at this
 ·have := Blk.new ((w.alloc (.cells c1 t1)).alloc (.cells c2 t2)) c3 t3
  rwa [e2] at this
theorem pmsg_ents {n : Nat} {t : Tr} (h : okN (n + 1) t = true) (hk : t.kind = 3) : entsB 0 t.es = true ∧ ∀ e ∈ t.es,∀ x ∈ e.2,okN n x = true := by
 simp only [okN,Bool.and_eq_true,if_pos hk] at h;obtain ⟨h2,h3⟩ := h;refine ⟨?_,fun e he x hx => List.all_eq_true.1 h3 x (mem_subs.2 ⟨e,he,hx⟩)⟩;unfold lvB at h2;rw [if_neg (by rw [hk]; decide),if_neg (by rw [hk]; decide),if_pos hk] at h2;simp only [Bool.and_eq_true] at h2;obtain ⟨⟨_,h2⟩,_⟩ := h2;exact h2
theorem pfld_kinds {s : ScS} (hks : ∀ nm m,msgOf s nm = some m → ∀ f ∈ m.fields,1 ≤ f.kind ∧ f.kind ≤ 7) {nm : ByteArray} {t : Int} {f : FlS} (h : fldOf ((msgOf s nm).getD zMs).fields t = some f) : 1 ≤ f.kind ∧ f.kind ≤ 7 := by
 have hm := (fldP h).2
 cases hq : msgOf s nm with
 | none => rw [hq] at hm; cases hm
 | some m => rw [hq] at hm; exact hks nm m hq f hm
theorem Grw.upd {s : ScS} {W0 w w1 w2 : World} {b : Nat} {F H : Nat → Prop} (h : Grw s W0 b F w w1 H) (hk : KnP s W0 w2 b H) (hkp : Kp (fun q => q = b) w1 w2) : Grw s W0 b F w w2 H := ⟨hk,h.sub,h.new,h.kp.trans hkp⟩
theorem pown_at {w w' : World} {base e s n bt b : Nat} {v : Value} {xs : List Value} (h : w.ownsRow base e s v n xs) (hk : Kp (fun q => q = b ∨ bt ≤ q) w w') (h1 : ∀ k,v.ownBlock = some k → k < bt ∧ k ≠ b) : w'.ownsRow base e s v n xs := MsP.kp.own_kpT2 h hk fun k e1 e2 => by
 have := h1 k e2
 rcases e1 with e1 | e1
 ·exact this.2 e1
 ·omega
theorem pown_more {w : World} {B B' e s n : Nat} {v : Value} {xs : List Value} (h : w.ownsRow B e s v n xs) (hb : B' ≤ B) : w.ownsRow B' e s v n xs := ⟨h.1,h.2.imp id fun ⟨g,cap,cur,h1,h2,h3⟩ => ⟨g,cap,cur,h1,Nat.le_trans hb h2,h3⟩⟩
theorem ptake_fm {α β : Type} {f : α → Option β} {l : List α} {i : Nat} {x : α} (h : l[i]? = some x) : (l.take (i + 1)).filterMap f = (l.take i).filterMap f ++ (f x).toList := by
 obtain ⟨hl,rfl⟩ := List.getElem?_eq_some_iff.1 h;rw [List.take_succ_eq_append_getElem hl,List.filterMap_append]
 congr 1
theorem pmsg_step {s : ScS} {W0 : World} {n : Nat} {sn : ByteArray} {ma ea ta : Option Addr} {mn mc en ec tn tc : Nat} (hks : ∀ nm m,msgOf s nm = some m → ∀ f ∈ m.fields,1 ≤ f.kind ∧ f.kind ≤ 7) (hms : MsIn W0 (.slice ma mn mc) s.msgs) (hfl : ∀ m ∈ s.msgs,m.fields.length ≤ 20 ∧ m.reserved.length ≤ 40) (IH : MsgC s W0 n sn ma ea ta mn mc en ec tn tc) : MsgC s W0 (n + 1) sn ma ea ta mn mc en ec tn tc := by
 intro b F nm t K N S a1 a2 n1 c1 n2 c2 w hKn hx hk3 hok hsm;obtain ⟨hen,hch⟩ := pmsg_ents hok hk3;obtain ⟨-, -,he40, -,hsub⟩ := hsm;have HJ : Hid (TrK (n + 1) W0 (plOf (.slice a1 n1 c1),plOf (.slice a2 n2 c2)) t) := hx.trK;obtain ⟨m',a1',c1',a2',c2',hmn,hv, -, -, -,u1,u2,x1,x2,x3,x4, -,hes, -, -⟩ := hx.open;simp only [Value.agg.injEq,Array.mk.injEq,List.cons.injEq,Value.int.injEq,Value.string.injEq,Value.slice.injEq,and_true,true_and] at hv;obtain ⟨-, -, -,⟨rfl,hn1,rfl⟩,rfl,hn2,rfl⟩ := hv
 obtain rfl : m' = n := by omega
 rw [← hn1] at u1 x3 hes;rw [← hn2] at x1 x4;have HES : Hid (EnsR m' W0 (.slice a1 n1 c1) t.es ∧ t.es.length = n1) := ⟨hes,hn1.symm⟩
 have hnn : n1 ≤ 500 := by rw [hn1]; exact he40
 have hI := fun W => pidentity_any K N S a1 a2 n1 c1 n2 c2 W u1 u2 x3 x1 x2 x4
 obtain ⟨⟨p1,m1⟩,hp1⟩ : ∃ z,plOf (.slice a1 n1 c1) = z := ⟨_,rfl⟩;obtain ⟨⟨p2,m2⟩,hp2⟩ : ∃ z,plOf (.slice a2 n2 c2) = z := ⟨_,rfl⟩;rw [hp1,hp2] at HJ hI;have HI : Hid (∀ W,Calls Tryz.prog 45 #[.agg #[.int .i64 K,.int .i64 N,.string S,.slice a1 n1 c1,.slice a2 n2 c2]] W fun e w' => e = .returned (.agg #[.pointer p1,.int .i64 (m1 : Int),.pointer p2,.int .i64 (m2 : Int)]) ∧ Below W.heap.size W w') := hI;have HKN : Hid (KnP s W0 w b F) := hKn;have HCH : Hid (∀ e ∈ t.es,1 ≤ e.2.length ∧ e.2.length ≤ 70 ∧ ∀ x ∈ e.2,okN m' x = true ∧ SmN m' x) := fun e he => ⟨ents_one _ _ hen e he,(hsub e he).1,fun x hx => ⟨hch e he x hx,(hsub e he).2 x hx⟩⟩
 obtain ⟨M,hM⟩ : ∃ M,(msgOf s nm).getD zMs = M := ⟨_,rfl⟩;have HKS : Hid (∀ tag f,fldOf M.fields tag = some f → 1 ≤ f.kind ∧ f.kind ≤ 7) := fun tag f h => pfld_kinds hks (by rw [hM]; exact h)
 have HMC : Hid (∀ W,Below W0.heap.size W0 W → Calls Tryz.prog 21 #[.agg #[.string sn,.slice ma mn mc,.slice ea en ec,.slice ta tn tc],.string nm] W fun e w' => ∃ vf vr,e = .returned (.tuple #[.agg #[.string M.name,vf,vr],.bool (msgOf s nm).isSome]) ∧ w'.ownsRow W.heap.size 56 5 vf M.fields.length (flRows M.fields).flatten ∧ w'.ownsRow W.heap.size 3 1 vr M.reserved.length (inRows M.reserved).flatten ∧ Below W.heap.size W w') := (fun W hW => by
  have h1 := cmessage_any (w := W) (snm := sn) (nm := nm) (ae := ea) (at' := ta) (E := en) (ce := ec) (T := tn) (ct := tc) (hms.below hW) hfl;have h2 : ((s.msgs.find? fun m => decide (m.name = nm)).getD zeroM) = M := hM;rw [h2] at h1
  exact h1 : ∀ W,_ → Calls Tryz.prog _ _ W _)
 have HT : Hid (prM (m' + 1) s nm t = ⟨3,0,⟨#[]⟩,t.es.filterMap (entP (prM m' s) M.fields),[]⟩) := (by rw [← hM]; rfl : prM (m' + 1) s nm t = _);have HIH : Hid (MsgC s W0 m' sn ma ea ta mn mc en ec tn tc) := IH;obtain ⟨T,hT⟩ : ∃ T,prM (m' + 1) s nm t = T := ⟨_,rfl⟩
 have HTL : Hid (∀ (W : World) (F2 : Nat → Prop),KnP s W0 W b F2 → (∃ r,(Instr.lookup 72 (.map (some b)) (.agg #[.string nm,.pointer p1,.int .i64 (m1 : Int),.pointer p2,.int .i64 (m2 : Int)]) true).run Tryz.prog W = .ok (.tuple #[.agg r.toArray,.bool true]) W ∧ SeeG (m' + 1) W r T F2) ∨ (Instr.lookup 72 (.map (some b)) (.agg #[.string nm,.pointer p1,.int .i64 (m1 : Int),.pointer p2,.int .i64 (m2 : Int)]) true).run Tryz.prog W = .ok (.tuple #[.agg #[.int .i64 0,.int .i64 0,.string ⟨#[]⟩,.slice none 0 0,.slice none 0 0],.bool false]) W) := fun W F2 hK => by
  have h1 := hK.look (x := (nm,((p1,m1),(p2,m2)))) HJ.out;rw [hT] at h1;exact h1
 have HTU : Hid (∀ (W : World) (F2 : Nat → Prop) (r : List Value),KnP s W0 W b F2 → SeeG (m' + 1) W r T F2 → ∃ w',(Instr.mapUpdate 72 (.map (some b)) (.agg #[.string nm,.pointer p1,.int .i64 (m1 : Int),.pointer p2,.int .i64 (m2 : Int)]) (.agg r.toArray)).run Tryz.prog W = .ok () w' ∧ KnP s W0 w' b F2 ∧ Kp (fun q => q = b) W w' ∧ Stay F2 W w') := fun W F2 r hK hr => by
  rw [← hT] at hr;exact hK.update (x := (nm,((p1,m1),(p2,m2)))) HJ.out hr
 rw [hT] at HT ⊢;clear hI hp1 hp2 hKn hx hk3 hok hen hch he40 hsub hes hn1 hn2 hmn u1 u2 x1 x2 x3 x4 IH hks hms hfl HJ hT;generalize (msgOf s nm).isSome = QB at *;obtain ⟨qn,fs,rs⟩ := M;simp only at HKS HMC HT;clear hM;obtain ⟨BS,BT,BR,hbw⟩ := p3blk w #[.string sn,.slice ma mn mc,.slice ea en ec,.slice ta tn tc,.map (some b)] #[.int .i64 K,.int .i64 N,.string S,.slice a1 n1 c1,.slice a2 n2 c2] #[.int .i64 0,.int .i64 0,.string ⟨#[]⟩,.slice none 0 0,.slice none 0 0] 74 30 30
 go_enter Tryz.func23,Tryz.ntmps23
 go_upto_region 1 with fail
 generalize (((w.alloc (Obj.cells #[.string sn,.slice ma mn mc,.slice ea en ec,.slice ta tn tc,.map (some b)] 74)).alloc (Obj.cells #[.int .i64 K,.int .i64 N,.string S,.slice a1 n1 c1,.slice a2 n2 c2] 30)).alloc (Obj.cells #[.int .i64 0,.int .i64 0,.string ⟨#[]⟩,.slice none 0 0,.slice none 0 0] 30)) = U0 at *;obtain ⟨b0,hb0⟩ : ∃ z,w.heap.size = z := ⟨_,rfl⟩;have HBZ : Hid (w.heap.size = b0) := hb0;rw [hb0] at BS BT BR
 try simp only [hb0]
 clear hb0;have t0 := (BT.cell 0).trans rfl;have t1 := (BT.cell 1).trans rfl;have t2 := (BT.cell 2).trans rfl;have t3 := (BT.cell 3).trans rfl;have t4 := (BT.cell 4).trans rfl;go_wp2_with fail;refine (HI.out _).mono ?_;rintro e w1 ⟨rfl,hb1⟩;have hbw1 := hbw.trans (hb1.mono hbw.size);have BS1 := BS.below hb1;have BT1 := BT.below hb1;have BR1 := BR.below hb1;clear t0 t1 t2 t3 t4 BS BT BR hb1 hbw HI
 go_upto_region 2 with fail
 have al1 : Below w1.heap.size w1 (w1.alloc (Obj.cells #[.string nm,.pointer p1,.int .i64 (m1 : Int),.pointer p2,.int .i64 (m2 : Int)] 108)) := (Below.refl _ _).alloc (Nat.le_refl _) _;have BV2 : Blk (w1.alloc (Obj.cells #[.string nm,.pointer p1,.int .i64 (m1 : Int),.pointer p2,.int .i64 (m2 : Int)] 108)) w1.heap.size #[.string nm,.pointer p1,.int .i64 (m1 : Int),.pointer p2,.int .i64 (m2 : Int)] 108 := Blk.new w1 _ _;have hbw2 := hbw1.trans (al1.mono hbw1.size);have BS2 := BS1.below al1;have BT2 := BT1.below al1;have BR2 := BR1.below al1;have HL1 : Hid (b0 + 2 < w1.heap.size) := BR1.lt;clear al1 hbw1 BS1 BT1 BR1;generalize (w1.alloc (Obj.cells #[.string nm,.pointer p1,.int .i64 (m1 : Int),.pointer p2,.int .i64 (m2 : Int)] 108)) = W2 at *;obtain ⟨bv,hbv⟩ : ∃ z,w1.heap.size = z := ⟨_,rfl⟩;rw [hbv] at BV2 HL1
 try simp only [hbv]
 clear hbv;have hK2 := HKN.out.mk_below hbw2;have s4 := (BS2.cell 4).trans rfl;have v0 := (BV2.cell 0).trans rfl;have v1 := (BV2.cell 1).trans rfl;have v2 := (BV2.cell 2).trans rfl;have v3 := (BV2.cell 3).trans rfl;have v4 := (BV2.cell 4).trans rfl
 rcases HTL.out W2 F hK2 with ⟨r,hlk,hse⟩ | hlk
 ·skip
  obtain ⟨q1,q2,q3,q4,q5,q6,rfl⟩ := trC_open hse.now.trQ.trC
  have hnF : ¬ F (b0 + 2) := fun e => by have h1 := (HKN.out.new _ e).2; have h2 := HBZ.out; omega
  have hbl : b0 + 2 < W2.heap.size := BR2.lt;clear HTU HT HIH HMC HKS HCH HES hK2;have HLK : Hid ((Instr.lookup 72 (.map (some b)) (.agg #[.string nm,.pointer p1,.int .i64 (m1 : Int),.pointer p2,.int .i64 (m2 : Int)]) true).run Tryz.prog W2 = .ok (.tuple #[.agg #[.int .i64 T.kind,.int .i64 T.n,.string T.s,.slice q1 q2 q3,.slice q4 q5 q6],.bool true]) W2) := hlk
  have HFIN : Hid (∀ o,SeenP s W0 b F (m' + 1) T w (.returned (.agg #[.int .i64 T.kind,.int .i64 T.n,.string T.s,.slice q1 q2 q3,.slice q4 q5 q6])) ((set5 W2 (b0 + 2) 0 (.int .i64 T.kind) (.int .i64 T.n) (.string T.s) (.slice q1 q2 q3) (.slice q4 q5 q6)).alloc o)) := fun o => by
   have hk5 := (set5_kp W2 (b0 + 2) 0 (.int .i64 T.kind) (.int .i64 T.n) (.string T.s) (.slice q1 q2 q3) (.slice q4 q5 q6)).alloc o;exact ⟨_,F,rfl,Grw.below HKN.out (hbw2.trans (hk5.toBelow hbw2.size fun q e => by rw [e,HBZ.out]; omega)),hse.stay (Stay.kp hk5 (fun k e => Nat.lt_of_lt_of_le (HKN.out.new k e).2 hbw2.size) fun k e e2 => hnF (e2 ▸ e))⟩
  unfold set5 at HFIN;clear hlk hse hnF hbw2 HKN HTL BS2 BV2 BT2;have r0 := (BR2.cell 0).trans rfl;have rz0 := BR2.froz 0;have r1 := (BR2.cell 1).trans rfl;have rz1 := BR2.froz 1;have r2 := (BR2.cell 2).trans rfl;have rz2 := BR2.froz 2;have r3 := (BR2.cell 3).trans rfl;have rz3 := BR2.froz 3;have r4 := (BR2.cell 4).trans rfl;have rz4 := BR2.froz 4;generalize T.kind = TK at *;generalize T.n = TN at *;generalize T.s = TS at *
  go_wp2_with (first | (at_lookup; refine wpList_lookup_pl rfl _ _ rfl rfl rfl HLK.out ?_) | fail)
  exact bodyPost_ret (results_cell rfl _ _ _ ⟨b0 + 2,0,none⟩ (.agg #[.int .i64 TK,.int .i64 TN,.string TS,.slice q1 q2 q3,.slice q4 q5 q6]) (by go_simp) (by go_simp)) rfl (HFIN.out _)
 ·skip
  have HLK : Hid ((Instr.lookup 72 (.map (some b)) (.agg #[.string nm,.pointer p1,.int .i64 (m1 : Int),.pointer p2,.int .i64 (m2 : Int)]) true).run Tryz.prog W2 = .ok (.tuple #[.agg #[.int .i64 0,.int .i64 0,.string ⟨#[]⟩,.slice none 0 0,.slice none 0 0],.bool false]) W2) := hlk;have al3 : Below W2.heap.size W2 (W2.alloc (Obj.cells #[.int .i64 0,.int .i64 0,.string ⟨#[]⟩,.slice none 0 0,.slice none 0 0] 30)) := (Below.refl _ _).alloc (Nat.le_refl _) _;have hbw3 := hbw2.trans (al3.mono hbw2.size);have BS3 := BS2.below al3;have BT3 := BT2.below al3;have BR3 := BR2.below al3;have BV3 := BV2.below al3;have hMW := HMC.out _ (HKN.out.below.trans (hbw3.mono HKN.out.below.size));have HMW : Hid _ := hMW;have hbl0 : b0 < W2.heap.size := BS2.lt;have hbl2 : bv < W2.heap.size := BV2.lt;have s0 := (BS2.cell 0).trans rfl;have s1 := (BS2.cell 1).trans rfl;have s2 := (BS2.cell 2).trans rfl;have s3 := (BS2.cell 3).trans rfl;clear hlk hMW HMC HTL al3 hbw2 BS2 BT2 BR2 BV2 hK2
  go_wp2_with (first | (at_lookup; refine wpList_lookup_pl rfl _ _ rfl rfl rfl HLK.out ?_) | fail)
  refine Calls.mono HMW.out ?_;rintro e w4 ⟨vf,vr,rfl,ho1,ho2,hb4⟩;obtain ⟨fa,fc,rfl⟩ := own_form ho1;obtain ⟨ra,rc,rfl⟩ := own_form ho2;have hbw4 := hbw3.trans (hb4.mono hbw3.size);have BS4 := BS3.below hb4;have BT4 := BT3.below hb4;have BR4 := BR3.below hb4;have BV4 := BV3.below hb4;clear HLK HMW hb4 hbw3 BS3 BT3 BR3 BV3 s0 s1 s2 s3 s4 v0 v1 v2 v3 v4 ho2
  go_upto_region 7 with fail
  have alm : Below w4.heap.size w4 ((w4.alloc (Obj.cells #[.string qn,.slice fa fs.length fc,.slice ra rs.length rc] 52)).alloc (Obj.cells #[.int .i64 3,.int .i64 0,.string ⟨#[]⟩,.slice none 0 0,.slice none 0 0] 30)) := ((Below.refl _ _).alloc (Nat.le_refl _) _).alloc (by simp) _;have BM6 : Blk ((w4.alloc (Obj.cells #[.string qn,.slice fa fs.length fc,.slice ra rs.length rc] 52)).alloc (Obj.cells #[.int .i64 3,.int .i64 0,.string ⟨#[]⟩,.slice none 0 0,.slice none 0 0] 30)) w4.heap.size #[.string qn,.slice fa fs.length fc,.slice ra rs.length rc] 52 := (Blk.new w4 _ _).below ((Below.refl _ _).alloc (Nat.le_refl _) _);have BO6 : Blk ((w4.alloc (Obj.cells #[.string qn,.slice fa fs.length fc,.slice ra rs.length rc] 52)).alloc (Obj.cells #[.int .i64 3,.int .i64 0,.string ⟨#[]⟩,.slice none 0 0,.slice none 0 0] 30)) (w4.heap.size + 1) #[.int .i64 3,.int .i64 0,.string ⟨#[]⟩,.slice none 0 0,.slice none 0 0] 30 := blk_new2T _ _ _ _;have hbw6 := hbw4.trans (alm.mono hbw4.size);have BS6 := BS4.below alm;have BT6 := BT4.below alm;have BR6 := BR4.below alm;have BV6 := BV4.below alm;have ho6 := own_below ho1 alm;have hvl : ∀ k,(Value.slice fa fs.length fc).ownBlock = some k → k < w4.heap.size := fun k e => (own_lt ho1 e).2
  have hbv4 : bv < w4.heap.size := BV4.lt;generalize ((w4.alloc (Obj.cells #[.string qn,.slice fa fs.length fc,.slice ra rs.length rc] 52)).alloc (Obj.cells #[.int .i64 3,.int .i64 0,.string ⟨#[]⟩,.slice none 0 0,.slice none 0 0] 30)) = W6 at *;obtain ⟨bm,hbm⟩ : ∃ z,w4.heap.size = z := ⟨_,rfl⟩;rw [hbm] at BM6 BO6 hvl hbv4
  try simp only [hbm]
  have hbwm : w.heap.size ≤ bm := by rw [← hbm]; exact hbw4.size
  clear hbm alm BS4 BT4 BR4 BV4 ho1 hbw4 hbl0 hbl2;obtain ⟨fl,hfl⟩ : ∃ z,fs.length = z := ⟨_,rfl⟩;obtain ⟨rl,hrl⟩ : ∃ z,rs.length = z := ⟨_,rfl⟩;have hK6 := HKN.out.mk_below hbw6
  have HOW : Hid (W6.ownsRow W2.heap.size 56 5 (.slice fa fl fc) fl (flRows fs).flatten ∧ ∀ k,(Value.slice fa fl fc).ownBlock = some k → k < bm + 1 ∧ k ≠ b) := (by
   rw [← hfl];refine ⟨pown_more ho6 (by simp),fun k e => ⟨Nat.lt_succ_of_lt (hvl k e),?_⟩⟩
   rcases ho6.2 with ⟨e9,_⟩ | ⟨g,cap,cur,e9,g1,g2,_⟩
   ·rw [e9] at e; cases e
   ·rw [e9] at e
    obtain rfl : g = k := by simpa [Value.ownBlock] using e
    exact hK6.neB g2 : _ ∧ _)
  rw [hfl,hrl] at BM6
  try simp only [hfl,hrl]
  clear hfl hrl ho6 hvl;have HNB : Hid (b0 ≠ b ∧ bm ≠ b ∧ bv ≠ b ∧ b0 + 2 ≠ b ∧ bm + 1 ≠ b) := ⟨hK6.neB BS6,hK6.neB BM6,hK6.neB BV6,hK6.neB BR6,hK6.neB BO6⟩;have HFX : Hid (Blk W6 b0 #[.string sn,.slice ma mn mc,.slice ea en ec,.slice ta tn tc,.map (some b)] 74 ∧ Blk W6 bm #[.string qn,.slice fa fl fc,.slice ra rl rc] 52 ∧ Blk W6 bv #[.string nm,.pointer p1,.int .i64 (m1 : Int),.pointer p2,.int .i64 (m2 : Int)] 108 ∧ Blk W6 (b0 + 2) #[.int .i64 0,.int .i64 0,.string ⟨#[]⟩,.slice none 0 0,.slice none 0 0] 30) := ⟨BS6,BM6,BV6,BR6⟩
  have HFK : Hid (∀ W,Kp (fun q => q = b ∨ bm + 1 ≤ q) W6 W → Blk W b0 #[.string sn,.slice ma mn mc,.slice ea en ec,.slice ta tn tc,.map (some b)] 74 ∧ Blk W bm #[.string qn,.slice fa fl fc,.slice ra rl rc] 52 ∧ Blk W bv #[.string nm,.pointer p1,.int .i64 (m1 : Int),.pointer p2,.int .i64 (m2 : Int)] 108 ∧ Blk W (b0 + 2) #[.int .i64 0,.int .i64 0,.string ⟨#[]⟩,.slice none 0 0,.slice none 0 0] 30 ∧ RowG W (.slice fa fl fc) 5 (flRows fs)) := (fun W hk => by
   obtain ⟨f1,f2,f3,f4⟩ := HFX.out;obtain ⟨n1,n2,n3,n4,n5⟩ := HNB.out
   have hn : ∀ q,q ≠ b → q < bm + 1 → ¬ (q = b ∨ bm + 1 ≤ q) := fun q h1 h2 h3 => by rcases h3 with h3 | h3 <;> omega
   have h0 := HL1.out;refine ⟨f1.kp hk (hn _ n1 (by omega)),f2.kp hk (hn _ n2 (by omega)),f3.kp hk (hn _ n3 (by omega)),f4.kp hk (hn _ n4 (by omega)),?_⟩
   exact (RowG.own (flr_len fs) (by decide) (pown_at HOW.out.1 hk HOW.out.2)).1 : ∀ W,_ → _)
  have HWW : Hid (w.heap.size ≤ bm ∧ b0 + 2 < bv ∧ bv < bm) := ⟨hbwm,HL1.out,hbv4⟩
  have HMS0 : Hid (MsP m' (bm + 1) F (.slice none 0 0) [] W6) := MsP.nil BO6 fun e => by
   have h1 := (HKN.out.new _ e).2
   omega
  have HG0 : Hid (Grw s W0 b F w W6 F) := Grw.below HKN.out hbw6;have HNF0 : Hid (¬ F (b0 + 2)) := (fun e => by have h1 := (HKN.out.new _ e).2; have h2 := HBZ.out; omega : ¬ F (b0 + 2));have t3 := (BT6.cell 3).trans rfl;clear BS6 BM6 BV6 BR6 BO6 hK6 hbw6 hbwm hbv4 HL1 HFX;go_wp2_with fail;clear t3 BT6
  go_loopw [41] (fun iv wr => ∃ (i j : Nat) (va : Option Addr) (vc : Nat) (G : Nat → Prop),iv = .int .i64 (i : Int) ∧ i ≤ n1 ∧ j ≤ i ∧ Hid (MsP m' (bm + 1) G (.slice va j vc) ((t.es.take i).filterMap (entP (prM m' s) fs)) wr ∧ ((t.es.take i).filterMap (entP (prM m' s) fs)).length = j) ∧ Hid (Grw s W0 b F w wr G ∧ ¬ G (b0 + 2)) ∧ Hid (Kp (fun q => q = b ∨ bm + 1 ≤ q) W6 wr)) (fun iv _ => n1 - (intOf iv).toNat)
  case atStart => exact ⟨0,0,none,0,F,rfl,by omega,by omega,⟨HMS0.out,rfl⟩,⟨HG0.out,HNF0.out⟩,Kp.refl _ _⟩
  case round =>
   clear HMS0 HG0 HNF0;obtain ⟨i,j,va,vc,G,rfl,hi,hj,HMS,HG,HKW⟩ := hrel
   by_cases hlt : i < n1
   ·obtain ⟨x,hx⟩ : ∃ r,t.es[i]? = some r := ⟨_,List.getElem?_eq_getElem (by rw [HES.out.2]; exact hlt)⟩;obtain ⟨g,off,rfl,r,⟨vt,rfl,h64,hrow⟩,hc⟩ := RowP.get HES.out.1 hx;obtain ⟨pt,ct,rfl, -⟩ := RowP.open hrow;have HX : Hid (t.es[i]? = some x) := hx;have HSX := HCH.out x (List.mem_of_getElem? hx);obtain ⟨xt,xl⟩ := x;simp only at hrow h64 HSX hc;obtain ⟨Kt,hKt⟩ : ∃ z,xl.length = z := ⟨_,rfl⟩;rw [hKt] at hrow hc;clear hKt hx;have hcl := fun {p : Addr} {v : Value} (h : W0.cell? p = some v) => Cel.cell (Cel.ofBelow HG.out.1.kn.below) h
    have y0 := hcl (hc 0 _ rfl);have y1 := hcl (hc 1 _ rfl);simp only [Nat.add_zero] at y0;have H64 : Hid (Is64 xt) := h64;have HEC : Hid (∀ W,Below wr.heap.size wr W → Calls Tryz.prog 46 #[.agg #[.string sn,.slice ma mn mc,.slice ea en ec,.slice ta tn tc,.map (some b)],.agg #[.string qn,.slice fa fl fc,.slice ra rl rc],.agg #[.int .i64 xt,.slice pt Kt ct]] W (EntP s W0 b G m' (entP (prM m' s) fs (xt,xl)) W)) := fun W hW => pentry_any HIH.out b G fs xt xl qn _ ra pt rl rc Kt ct W ((HFK.out wr HKW.out).2.2.2.2.below hW) (HG.out.1.kn.mk_below hW) (fun f h => HKS.out xt f h) hrow HSX.1 HSX.2.1 (fun y hy => (HSX.2.2 y hy).1) fun y hy => (HSX.2.2 y hy).2
    obtain ⟨BSr,BMr, -, -, -⟩ := HFK.out wr HKW.out;have hl1 : b0 < wr.heap.size := BSr.lt;have hl2 : bm < wr.heap.size := BMr.lt;have hl3 : bm + 1 < wr.heap.size := HMS.out.1.size;have s0 := (BSr.cell 0).trans rfl;have s1 := (BSr.cell 1).trans rfl;have s2 := (BSr.cell 2).trans rfl;have s3 := (BSr.cell 3).trans rfl;have s4 := (BSr.cell 4).trans rfl;have z0 := (BMr.cell 0).trans rfl;have z1 := (BMr.cell 1).trans rfl;have z2 := (BMr.cell 2).trans rfl;have al : Below wr.heap.size wr (wr.alloc (Obj.cells #[.int .i64 xt,.slice pt Kt ct] 69)) := (Below.refl _ _).alloc (Nat.le_refl _) _;have HE2 : Hid _ := HEC.out _ al;clear hcl hc hrow h64 HSX HEC BSr BMr;go_wp2_with fail;refine Calls.mono HE2.out ?_;rintro e w8 ⟨ya,yc,G2,tg,xs,okk,rfl,hg,hse,hR⟩;clear HE2 s0 s1 s2 s3 s4 z0 z1 z2 y0 y1;have hgT : Grw s W0 b F w w8 G2 := HG.out.1.trans (hg.before al);have hgw : Grw s W0 b G wr w8 G2 := hg.before al
    have hnR : ¬ G2 (b0 + 2) := fun e => by
     rcases hgw.new _ e with e | e
     ·exact HG.out.2 e
     ·have := HWW.out; omega
    have hMS8 : MsP m' (bm + 1) G2 (.slice va j vc) ((t.es.take i).filterMap (entP (prM m' s) fs)) w8 := HMS.out.1.call HG.out.1.kn hgw.kp hgw.sub hgw.new;have hkw8 : Kp (fun q => q = b ∨ bm + 1 ≤ q) W6 w8 := HKW.out.trans2 hgw.kp fun _ _ e => .inl e
    have HLE : Hid (((t.es.take i).filterMap (entP (prM m' s) fs)).length = j) := HMS.out.2;have HTK : Hid ((t.es.take (i + 1)).filterMap (entP (prM m' s) fs) = (t.es.take i).filterMap (entP (prM m' s) fs) ++ (entP (prM m' s) fs (xt,xl)).toList) := ptake_fm HX.out;have HWB : Hid (w.heap.size ≤ bm + 1) := (by have := HWW.out; omega : w.heap.size ≤ bm + 1);obtain ⟨xn,hxn⟩ : ∃ z,xs.length = z := ⟨_,rfl⟩;have HXN : Hid (xs.length = xn) := hxn
    have hse' : SeeL m' w8 (.slice ya xn yc) xs G2 := by rw [← hxn]; exact hse
    simp only [hxn];clear hxn hse;have al9 : Below w8.heap.size w8 (w8.alloc (Obj.cells #[.int .i64 tg,.slice ya xn yc] 69)) := (Below.refl _ _).alloc (Nat.le_refl _) _;have hMS9 := hMS8.below al9 fun k e => (hgT.kn.new k e).2
    rcases hR with ⟨hRn,rfl⟩ | ⟨hRs,rfl⟩
    ·have HMS9 : Hid (MsP m' (bm + 1) G2 (.slice va j vc) ((t.es.take (i + 1)).filterMap (entP (prM m' s) fs)) (w8.alloc (Obj.cells #[.int .i64 tg,.slice ya xn yc] 69)) ∧ ((t.es.take (i + 1)).filterMap (entP (prM m' s) fs)).length = j) := (by
      rw [HTK.out,hRn];simp only [Option.toList_none,List.append_nil]
      exact ⟨hMS9,HLE.out⟩ : _ ∧ _)
     have HG9 : Hid (Grw s W0 b F w (w8.alloc (Obj.cells #[.int .i64 tg,.slice ya xn yc] 69)) G2 ∧ ¬ G2 (b0 + 2)) := ⟨hgT.trans (Grw.below hgT.kn al9),hnR⟩;have HKW9 : Hid (Kp (fun q => q = b ∨ bm + 1 ≤ q) W6 (w8.alloc (Obj.cells #[.int .i64 tg,.slice ya xn yc] 69))) := hkw8.below al9;clear hgT hgw hnR hMS8 hkw8 hse' al9 hMS9 hRn hg al HMS HG HKW HTK HX HLE hl1 hl2 hl3;go_wp2_with fail
     go_roundw
     case rel => exact ⟨i + 1,j,va,vc,G2,by go_num,by omega,by omega,HMS9,HG9,HKW9⟩
     case measure => simp [intOf]; omega
    ·have hb10 : Below w8.heap.size w8 ((w8.alloc (Obj.cells #[.int .i64 tg,.slice ya xn yc] 69)).alloc (Obj.cells #[.int .i64 tg,.slice ya xn yc] 69)) := ((Below.refl _ _).alloc (Nat.le_refl _) _).alloc (by simp) _;have BZ : Blk ((w8.alloc (Obj.cells #[.int .i64 tg,.slice ya xn yc] 69)).alloc (Obj.cells #[.int .i64 tg,.slice ya xn yc] 69)) (w8.heap.size + 1) #[.int .i64 tg,.slice ya xn yc] 69 := blk_new2T _ _ _ _;have hMS10 := hMS8.below hb10 fun k e => (hgT.kn.new k e).2
     have hg10 := hgT.trans (Grw.below hgT.kn hb10)
     have htg : tg = xt := by
      obtain ⟨f,q1, -, -,q4⟩ := entP_some hRs;rw [Prod.mk.injEq] at q4;exact q4.1.trans (fldP q1).1
     have hBO := hMS8.blk;have o3 := (hBO.cell 3).trans rfl;have hl8 : bm + 1 < w8.heap.size := hBO.lt;obtain ⟨a',c',W',p1',B',hMS',hKn',hkq,hkq2⟩ := hMS10.push (ts := xs) hg10.kn (Nat.le_trans HKN.out.below.size HWB.out) (hse'.stay (Stay.kp (S := fun _ => False) (Kp.ofBelow hb10) (fun k e => (hgT.kn.new k e).2) fun _ _ e => e)) (by rw [htg]; exact H64.out) BZ rfl (by rw [HLE.out]; omega);rw [HLE.out] at p1' hMS' hKn' hkq;have HAP : Hid ((Builtin.append_ #[27,27] 27 #[.slice va j vc,.slice (some ⟨w8.heap.size + 1,0,none⟩) 1 1]).run Tryz.prog ((w8.alloc (Obj.cells #[.int .i64 tg,.slice ya xn yc] 69)).alloc (Obj.cells #[.int .i64 tg,.slice ya xn yc] 69)) = .ok (.slice a' (j + 1) c') W') := p1';have hsq : ∀ q,(bm + 1 ≤ q ∧ ¬ G2 q ∧ q ≠ b) → w.heap.size ≤ q ∧ ¬ G2 q ∧ q ≠ b := fun q e => ⟨Nat.le_trans HWB.out e.1,e.2⟩
     have HMS9 : Hid (MsP m' (bm + 1) G2 (.slice a' (j + 1) c') ((t.es.take (i + 1)).filterMap (entP (prM m' s) fs)) (W'.setCell ⟨bm + 1,3,none⟩ (.slice a' (j + 1) c')) ∧ ((t.es.take (i + 1)).filterMap (entP (prM m' s) fs)).length = j + 1) := (by
      rw [HTK.out,hRs];simp only [Option.toList_some]
      exact ⟨hMS',by rw [List.length_append,HLE.out]; rfl⟩ : _ ∧ _)
     have HG9 : Hid (Grw s W0 b F w (W'.setCell ⟨bm + 1,3,none⟩ (.slice a' (j + 1) c')) G2 ∧ ¬ G2 (b0 + 2)) := ⟨hg10.after HKN.out.below.size hkq hsq,hnR⟩;have HKW9 : Hid (Kp (fun q => q = b ∨ bm + 1 ≤ q) W6 (W'.setCell ⟨bm + 1,3,none⟩ (.slice a' (j + 1) c'))) := (hkw8.below hb10).trans2 hkq fun _ _ e => .inr e.1
     have k3 := (B'.cell 3).trans rfl;have kz3 := B'.froz 3;clear hgT hgw hnR hMS8 hkw8 hse' al9 hMS9 hRs hg al HMS HG HKW HTK HX HLE hl1 hl2 hl3 hb10 BZ hMS10 hg10 htg hBO p1' B' hMS' hKn' hkq hkq2 hsq HXN
     go_wp2_with (first | (at_builtin; refine wpList_appP rfl _ _ rfl rfl rfl HAP.out ?_) | fail)
     clear k3 kz3 o3
     go_roundw
     case rel => exact ⟨i + 1,j + 1,a',c',G2,by go_num,by omega,by omega,HMS9,HG9,HKW9⟩
     case measure => simp [intOf]; omega
   ·have hin : i = n1 := by omega
    have dlt : decide ((i : Int) < (n1 : Int)) = false := by simp; omega
    obtain ⟨hm1,hm2⟩ := HMS.out;have htk : t.es.take i = t.es := List.take_of_length_le (by rw [HES.out.2,hin]; exact Nat.le_refl _);rw [htk] at hm1 hm2
    have hWB : w.heap.size ≤ bm + 1 := by have := HWW.out; omega
    obtain ⟨hd1,hd2⟩ := hm1.done HG.out.1.kn.new (Nat.le_trans HKN.out.below.size hWB);rw [← HT.out] at hd1;obtain ⟨rows,ho, -⟩ := hm1.row
    have hvb : ∀ k,(Value.slice va j vc).ownBlock = some k → k ≠ b ∧ bm + 1 < k ∧ k < wr.heap.size := fun k e => by
     refine ⟨?_,(own_lt ho e).1,(own_lt ho e).2⟩
     rcases ho.2 with ⟨e9,_⟩ | ⟨g,cap,cur,e9,g1,g2,_⟩
     ·rw [e9] at e; cases e
     ·rw [e9] at e
      obtain rfl : g = k := by simpa [Value.ownBlock] using e
      exact HG.out.1.kn.neB g2
    have hg2 : Grw s W0 b F w wr (fun k => G k ∨ (Value.slice va j vc).ownBlock = some k) := HG.out.1.more (fun k e => .inl e) (fun k e => e.imp id fun e => ⟨by have := (hvb k e).2.1; omega,(hvb k e).2.2⟩) HKN.out.below.size (fun e => by
     rcases e with e | e
     ·exact HG.out.1.kn.nb e
     ·exact (hvb b e).1 rfl)
    have hnR : ¬ (G (b0 + 2) ∨ (Value.slice va j vc).ownBlock = some (b0 + 2)) := fun e => by
     rcases e with e | e
     ·exact HG.out.2 e
     ·have h1 := (hvb _ e).2.1; have h2 := HWW.out; omega
    obtain ⟨W9,hup,hkn9,hkp9,hst9⟩ := HTU.out wr _ _ hg2.kn hd1;have HUP : Hid ((Instr.mapUpdate 72 (.map (some b)) (.agg #[.string nm,.pointer p1,.int .i64 (m1 : Int),.pointer p2,.int .i64 (m2 : Int)]) (.agg #[.int .i64 3,.int .i64 0,.string ⟨#[]⟩,.slice va j vc,.slice none 0 0])).run Tryz.prog wr = .ok () W9) := hup;have hg9 := hg2.upd hkn9 hkp9;obtain ⟨BSr, -,BVr,BRr, -⟩ := HFK.out wr HKW.out;have hBO := hm1.blk;have BR9 := BRr.kp hkp9 HNB.out.2.2.2.1;have BO9 := hBO.kp hkp9 HNB.out.2.2.2.2;have hk5 := set5_kp W9 (b0 + 2) 0 (.int .i64 3) (.int .i64 0) (.string ⟨#[]⟩) (.slice va j vc) (.slice none 0 0)
    have hs5 : ∀ q,q = b0 + 2 → w.heap.size ≤ q ∧ ¬ (G q ∨ (Value.slice va j vc).ownBlock = some q) ∧ q ≠ b := fun q e => by subst e; exact ⟨by rw [HBZ.out]; omega,hnR,HNB.out.2.2.2.1⟩
    have HFIN : Hid (SeenP s W0 b F (m' + 1) T w (.returned (.agg #[.int .i64 3,.int .i64 0,.string ⟨#[]⟩,.slice va j vc,.slice none 0 0])) (set5 W9 (b0 + 2) 0 (.int .i64 3) (.int .i64 0) (.string ⟨#[]⟩) (.slice va j vc) (.slice none 0 0))) := ⟨_,_,rfl,hg9.after HKN.out.below.size hk5 hs5,(hd1.stay hst9).stay (hg9.stay hk5 hs5)⟩;unfold set5 at HFIN;have s4 := (BSr.cell 4).trans rfl;have v0 := (BVr.cell 0).trans rfl;have v1 := (BVr.cell 1).trans rfl;have v2 := (BVr.cell 2).trans rfl;have v3 := (BVr.cell 3).trans rfl;have v4 := (BVr.cell 4).trans rfl;have o0 := (hBO.cell 0).trans rfl;have o1 := (hBO.cell 1).trans rfl;have o2 := (hBO.cell 2).trans rfl;have o3 := (hBO.cell 3).trans rfl;have o4 := (hBO.cell 4).trans rfl;have u0 := (BO9.cell 0).trans rfl;have u1 := (BO9.cell 1).trans rfl;have u2 := (BO9.cell 2).trans rfl;have u3 := (BO9.cell 3).trans rfl;have u4 := (BO9.cell 4).trans rfl;have r0 := (BR9.cell 0).trans rfl;have rz0 := BR9.froz 0;have r1 := (BR9.cell 1).trans rfl;have rz1 := BR9.froz 1;have r2 := (BR9.cell 2).trans rfl;have rz2 := BR9.froz 2;have r3 := (BR9.cell 3).trans rfl;have rz3 := BR9.froz 3;have r4 := (BR9.cell 4).trans rfl;have rz4 := BR9.froz 4;clear hm1 hm2 htk hWB hd1 hd2 ho hvb hg2 hnR hup hkn9 hkp9 hst9 hg9 BSr BVr BRr hBO BO9 BR9 hk5 hs5 HMS HG HKW HTU hin
    go_wp2_with (first | (at_mapUpdate; refine wpList_update_pl rfl _ _ _ rfl rfl rfl rfl HUP.out ?_) | fail)
    exact bodyPost_ret (results_cell rfl _ _ _ ⟨b0 + 2,0,none⟩ (.agg #[.int .i64 3,.int .i64 0,.string ⟨#[]⟩,.slice va j vc,.slice none 0 0]) (by go_simp) (by go_simp)) rfl HFIN.out
end
section
theorem typeB_kindJ {mn en : List ByteArray} {k : Int} {t : ByteArray} (h : typeB mn en k t = true) : 1 ≤ k ∧ k ≤ 7 := by
 unfold typeB at h
 by_cases h1 : 1 ≤ k ∧ k ≤ 7
 ·exact h1
 ·exfalso
  revert h
  simp
  intros
  omega
theorem ok_kindsJ {s : ScS} (h : OkS s) : ∀ nm m,msgOf s nm = some m → ∀ f ∈ m.fields,1 ≤ f.kind ∧ f.kind ≤ 7 := fun nm m hm f hf => typeB_kindJ ((h.msgs m (List.mem_of_find?_eq_some hm)).2.2.2.2.1 f hf).1.2.2.2
end
section
open Go.ChangeShapes Go.WideShapes Go.ChangeAt Go.RowKit
def cmpI (a b : Int) : Int := if a < b then -1 else if b < a then 1 else 0
theorem nan_any (a : Int) (w : World) : Calls Tryz.prog 128 #[.int .i64 a] w fun e w' => e = .returned (.bool false) ∧ w' = w := by
 go_enter Tryz.func128,Tryz.ntmps128
 go_wp2
 go_ret;exact ⟨rfl,rfl⟩
theorem compare_any (a b : Int) (w : World) : Calls Tryz.prog 126 #[.int .i64 a,.int .i64 b] w fun e w' => e = .returned (.int .i64 (cmpI a b)) ∧ w' = w := by
 by_cases h1 : a < b
 ·go_enter Tryz.func126,Tryz.ntmps126
  go_wp2_with (first | (go_at_call 128; refine (nan_any _ _).mono ?_; rintro e w' ⟨rfl,rfl⟩) | fail)
  go_ret;exact ⟨by simp [cmpI,h1],rfl⟩
 ·by_cases h2 : b < a
  ·go_enter Tryz.func126,Tryz.ntmps126
   go_wp2_with (first | (go_at_call 128; refine (nan_any _ _).mono ?_; rintro e w' ⟨rfl,rfl⟩) | fail)
   go_ret;exact ⟨by simp [cmpI,h1,h2],rfl⟩
  ·have HC : Hid (cmpI a b = 0) := (by simp [cmpI,h1,h2] : cmpI a b = 0);rw [HC.out]
   go_enter Tryz.func126,Tryz.ntmps126
   go_wp2_with (first | (go_at_call 128; refine (nan_any _ _).mono ?_; rintro e w' ⟨rfl,rfl⟩) | fail)
   go_ret;exact ⟨rfl,rfl⟩
theorem tagc_any (a b : Int) (p : Option Addr) (n c : Nat) (w : World) : Calls Tryz.prog 125 #[.agg #[.int .i64 a,.slice p n c],.int .i64 b] w fun e w' => e = .returned (.int .i64 (cmpI a b)) ∧ Below w.heap.size w w' := by
 go_enter Tryz.func125,Tryz.ntmps125
 go_wp2_with (first | (go_at_call 126; refine (compare_any _ _ _).mono ?_; rintro e w' ⟨rfl,rfl⟩) | fail)
 go_ret;exact ⟨rfl,(Below.refl _ _).alloc (Nat.le_refl _) _⟩
def RisT (es : List (Int × List Tr)) : Prop := ∀ (i j : Nat) (x y : Int × List Tr),i < j → es[i]? = some x → es[j]? = some y → x.1 < y.1
theorem cmp_lt (a b : Int) : cmpI a b < 0 ↔ a < b := by
 unfold cmpI
 by_cases h1 : a < b
 ·simp [h1]
 ·by_cases h2 : b < a
  ·simp [h1,h2]
  ·simp [h1,h2]
theorem cmp_eq (a b : Int) : cmpI a b = 0 ↔ a = b := by
 unfold cmpI
 by_cases h1 : a < b
 ·simp [h1]; omega
 ·by_cases h2 : b < a
  ·simp [h1,h2]; omega
  ·simp [h1,h2]; omega
theorem ents_low : ∀ (es : List (Int × List Tr)) (last : Int),entsB last es = true → ∀ x ∈ es,last < x.1
 | [],_,_,x,hx => by cases hx
 | e :: l,last,h,x,hx => by
  simp only [entsB,Bool.and_eq_true,decide_eq_true_eq] at h
  rcases List.mem_cons.1 hx with rfl | hx
  ·exact h.1.1.1.1.1
  ·exact Int.lt_trans h.1.1.1.1.1 (ents_low l e.1 h.2 x hx)
theorem ents_ris : ∀ (es : List (Int × List Tr)) (last : Int),entsB last es = true → RisT es
 | [],_,_ => by intro i j x y _ h; simp at h
 | e :: l,last,h => by
  simp only [entsB,Bool.and_eq_true,decide_eq_true_eq] at h;intro i j x y hij hx hy
  cases j with
  | zero => omega
  | succ j =>
   simp only [List.getElem?_cons_succ] at hy
   cases i with
   | zero =>
    obtain rfl : e = x := by simpa using hx
    exact ents_low l e.1 h.2 y (List.mem_of_getElem? hy)
   | succ i => exact ents_ris l e.1 h.2 i j x y (by omega) (by simpa using hx) hy
theorem bin_any (n : Nat) (v : Value) (es : List (Int × List Tr)) (tag : Int) (w : World) (h : EnsQ n w v es) (hr : RisT es) (hl : es.length ≤ 1000000) :
  Calls Tryz.prog 124 #[v,.int .i64 tag,.func (.func 125) #[] #[]] w fun e w' => (∃ k : Int,e = .returned (.tuple #[.int .i64 k,.bool (hasB es tag)])) ∧ Below w.heap.size w w' := by
 obtain ⟨a,cap,rfl,h1,h2, -⟩ := RowP.open h;obtain ⟨N,hN⟩ : ∃ N,es.length = N := ⟨_,rfl⟩;rw [hN] at h1 hl ⊢;have HH : Hid (EnsQ n w (.slice a N cap) es) := (by rw [← hN]; exact h : EnsQ n w (.slice a N cap) es);have HN : Hid (es.length = N) := hN;have HR : Hid (RisT es) := hr;unfold maxLen at h2;obtain ⟨R0,hR0⟩ : ∃ R0,hasB es tag = R0 := ⟨_,rfl⟩;have HR0 : Hid (hasB es tag = R0) := hR0;rw [hR0];clear h hN hr hR0
 go_enter Tryz.func124,Tryz.ntmps124
 go_wp2_with fail
 go_loopw [9,10] (fun iv jv wr => ∃ i j : Nat,iv = .int .i64 (i : Int) ∧ jv = .int .i64 (j : Int) ∧ i ≤ j ∧ j ≤ N ∧ Hid (∀ (k : Nat) (x : Int × List Tr),k < i → es[k]? = some x → x.1 < tag) ∧ Hid (∀ (k : Nat) (x : Int × List Tr),j ≤ k → es[k]? = some x → tag ≤ x.1) ∧ Below w.heap.size w wr) (fun iv jv _ => (intOf jv - intOf iv).toNat)
 case atStart => exact ⟨0,N,rfl,rfl,by omega,by omega,(fun k x hk => absurd hk (by omega) : ∀ (k : Nat) (x : Int × List Tr),k < 0 → es[k]? = some x → x.1 < tag),(fun k x hk hx => by have := (List.getElem?_eq_some_iff.1 hx).1; rw [HN.out] at this; omega : ∀ (k : Nat) (x : Int × List Tr),N ≤ k → es[k]? = some x → tag ≤ x.1),Below.refl _ _⟩
 case round =>
  obtain ⟨i,j,rfl,rfl,hij,hjN,HI,HJ,hbel⟩ := hrel
  by_cases hlt : i < j
  ·obtain ⟨q,hq⟩ : ∃ q : Nat,q = (i + j) / 2 := ⟨_,rfl⟩
   have hq1 : i ≤ q := by omega
   have hq2 : q < j := by omega
   obtain ⟨x,hx⟩ : ∃ r,es[q]? = some r := ⟨_,List.getElem?_eq_getElem (by rw [HN.out]; omega)⟩;obtain ⟨g,off,rfl,r,⟨vt,rfl, -,ht⟩,hc⟩ := (HH.out.belowEQ hbel).get hx;obtain ⟨ta,tc,rfl, -⟩ := RowP.open ht;have c0 := hc 0 _ rfl;have c1 := hc 1 _ rfl;simp only [Nat.add_zero] at c0
   have hqi : ((i : Int) + (j : Int)) / 2 = (q : Int) := by omega
   have HX : Hid (es[q]? = some x) := hx;clear hc ht hx;generalize x.2.length = Xl at *;obtain ⟨xt,hxt⟩ : ∃ z,x.1 = z := ⟨_,rfl⟩;rw [hxt] at c0;have HXT : Hid (x.1 = xt) := hxt;clear hxt hq;obtain ⟨c,hcc⟩ : ∃ c,cmpI xt tag = c := ⟨_,rfl⟩
   have HCA : Hid (∀ W,Calls Tryz.prog 125 #[.agg #[.int .i64 xt,.slice ta Xl tc],.int .i64 tag] W fun e w' => e = .returned (.int .i64 c) ∧ Below W.heap.size W w') := fun W => by
    rw [← hcc]; exact tagc_any xt tag ta Xl tc W
   have hc0 : c < 0 ↔ xt < tag := by rw [← hcc]; exact cmp_lt xt tag
   clear hcc
   by_cases hxl : xt < tag
   ·have hdc : decide (c < 0) = true := by simp [hc0,hxl]
    clear hc0;go_wp2_with fail;refine (HCA.out _).mono ?_;rintro e w2 ⟨rfl,hb2⟩;have hbw : Below w.heap.size w w2 := hbel.trans (hb2.mono hbel.size);clear hb2 hbel c0 c1 HCA;go_wp2_with fail
    go_roundw
    case rel => exact ⟨q + 1,j,by go_num,rfl,by omega,hjN,(fun k y hk hy => by
     rcases Nat.lt_or_eq_of_le (Nat.le_of_lt_succ hk) with h | h
     ·exact Int.lt_trans (HR.out k q y x h hy HX.out) (by rw [HXT.out]; exact hxl)
     ·subst h; rw [HX.out] at hy; cases hy; rw [HXT.out]; exact hxl : ∀ (k : Nat) (x : Int × List Tr),k < q + 1 → es[k]? = some x → x.1 < tag),HJ,hbw⟩
    case measure => simp [intOf]; omega
   ·have hdc : decide (c < 0) = false := by simp; exact Int.not_lt.1 (fun h => hxl (hc0.1 h))
    clear hc0;go_wp2_with fail;refine (HCA.out _).mono ?_;rintro e w2 ⟨rfl,hb2⟩;have hbw : Below w.heap.size w w2 := hbel.trans (hb2.mono hbel.size);clear hb2 hbel c0 c1 HCA;go_wp2_with fail
    go_roundw
    case rel => exact ⟨i,q,rfl,rfl,by omega,by omega,HI,(fun k y hk hy => by
     rcases Nat.lt_or_eq_of_le hk with h | h
     ·have := HR.out q k x y h HX.out hy;rw [HXT.out] at this
      omega
     ·subst h; rw [HX.out] at hy; cases hy; rw [HXT.out]; omega : ∀ (k : Nat) (x : Int × List Tr),q ≤ k → es[k]? = some x → tag ≤ x.1),hbw⟩
    case measure => simp [intOf]; omega
  ·obtain rfl : i = j := by omega
   by_cases hiN : i < N
   ·obtain ⟨x,hx⟩ : ∃ r,es[i]? = some r := ⟨_,List.getElem?_eq_getElem (by rw [HN.out]; omega)⟩;obtain ⟨g,off,rfl,r,⟨vt,rfl, -,ht⟩,hc⟩ := (HH.out.belowEQ hbel).get hx;obtain ⟨ta,tc,rfl, -⟩ := RowP.open ht;have c0 := hc 0 _ rfl;have c1 := hc 1 _ rfl;simp only [Nat.add_zero] at c0;have HX : Hid (es[i]? = some x) := hx;clear hc ht hx;generalize x.2.length = Xl at *;obtain ⟨xt,hxt⟩ : ∃ z,x.1 = z := ⟨_,rfl⟩;rw [hxt] at c0;have HXT : Hid (x.1 = xt) := hxt;clear hxt;obtain ⟨c,hcc⟩ : ∃ c,cmpI xt tag = c := ⟨_,rfl⟩
    have HCA : Hid (∀ W,Calls Tryz.prog 125 #[.agg #[.int .i64 xt,.slice ta Xl tc],.int .i64 tag] W fun e w' => e = .returned (.int .i64 c) ∧ Below W.heap.size W w') := fun W => by
     rw [← hcc]; exact tagc_any xt tag ta Xl tc W
    have hc0 : c = 0 ↔ xt = tag := by rw [← hcc]; exact cmp_eq xt tag
    have hB : hasB es tag = decide (xt = tag) := by
     by_cases he : xt = tag
     ·rw [decide_eq_true he];exact List.any_eq_true.2 ⟨x,List.mem_of_getElem? HX.out,by rw [HXT.out,he]; simp⟩
     ·rw [decide_eq_false he];refine List.any_eq_false.2 fun y hy => ?_
      obtain ⟨k,hk,ek⟩ := List.getElem_of_mem hy
      have hyk : es[k]? = some y := by rw [List.getElem?_eq_getElem hk,ek]
      have hge := HJ.out i x (Nat.le_refl _) HX.out;rw [HXT.out] at hge
      rcases Nat.lt_trichotomy k i with h | h | h
      ·have := HI.out k y h hyk; simp; omega
      ·subst h; rw [HX.out] at hyk; cases hyk; rw [HXT.out]; simp; omega
      ·have := HR.out i k x y h HX.out hyk; rw [HXT.out] at this; simp; omega
    have hdc : (c == 0) = R0 := by
     rw [← HR0.out,hB,Bool.eq_iff_iff]; simp [hc0]
    clear hcc hc0 hB;go_wp2_with fail;refine (HCA.out _).mono ?_;rintro e w2 ⟨rfl,hb2⟩;have hbw : Below w.heap.size w w2 := hbel.trans (hb2.mono hbel.size);clear hb2 hbel c0 c1 HCA;go_wp2_with fail
    go_ret2
    exact ⟨⟨_,rfl⟩,hbw⟩
   ·have hB : hasB es tag = false := by
     refine List.any_eq_false.2 fun y hy => ?_
     obtain ⟨k,hk,ek⟩ := List.getElem_of_mem hy
     have hyk : es[k]? = some y := by rw [List.getElem?_eq_getElem hk,ek]
     have := HI.out k y (by rw [HN.out] at hk; omega) hyk
     simp; omega
    obtain rfl : R0 = false := by rw [← HR0.out,hB]
    clear hB;go_wp2_with fail
    go_ret2
    exact ⟨⟨_,rfl⟩,hbel⟩
theorem hasTag_any (n : Nat) (v : Value) (es : List (Int × List Tr)) (tag : Int) (w : World) (h : EnsQ n w v es) (hr : RisT es) (hl : es.length ≤ 1000000) :
  Calls Tryz.prog 109 #[v,.int .i64 tag] w fun e w' => e = .returned (.bool (hasB es tag)) ∧ Below w.heap.size w w' := by
 have HI : Hid _ := bin_any n v es tag w h hr hl;obtain ⟨a,cap,rfl, -⟩ := RowP.open h;clear h hr hl;generalize es.length = N at *;generalize hasB es tag = R at *
 go_enter Tryz.func109,Tryz.ntmps109
 go_wp2_with fail;refine Calls.mono HI.out ?_;rintro e w2 ⟨⟨k,rfl⟩,hb⟩;clear HI;go_wp2_with fail;go_ret;exact ⟨rfl,hb⟩
theorem kindc_any (n : Nat) (x : Tr) (r : List Value) (b g off Kt tc : Nat) (k0 : Int) (W : World) (h : TrQ n W r x) (hB : Blk W b #[.slice (some ⟨g,off,none⟩) Kt tc] 67) (hc : W.cell? ⟨g,off,none⟩ = some (.int .i64 k0)) (hk : 0 < Kt) :
  Calls Tryz.prog 123 #[.agg r.toArray,.pointer (some ⟨b,0,none⟩)] W fun e w' => e = .returned (.bool (x.kind != k0)) ∧ Below W.heap.size W w' := by
 obtain ⟨ea,el,ec,ra,rl,rc,e1, -⟩ := TrV2.open ⟨_,rfl,h⟩;rw [e1];clear e1 h;have q0 := (hB.cell 0).trans rfl;have hb := hB.lt;have hg : g < W.heap.size := World.block_lt_of_cell? _ _ hc;clear hB;generalize x.kind = K at *;generalize x.n = N at *;generalize x.s = S at *
 go_enter Tryz.func123,Tryz.ntmps123
 go_wp2_with fail
 go_quiet (fail)
 go_wp2_with fail;go_ret;exact ⟨rfl,below_drewN nq ((Below.refl _ _).alloc (Nat.le_refl _) _)⟩
def okB (ts : List Tr) : Bool := decide (1 ≤ ts.length) && decide (ts.length ≤ 64) && (ts.all fun x => x.kind == (ts.head?.map Tr.kind).getD 0)
theorem oneKind_any (n : Nat) (v : Value) (ts : List Tr) (w : World) (h : TrsQ n w v ts) :
  Calls Tryz.prog 107 #[v] w fun e w' => e = .returned (.bool (okB ts)) ∧ Below w.heap.size w w' := by
 have hmf : ∀ (fn : Fn) (first cap : Array Value) (w : World),(Instr.makeFunc fn first cap).run Tryz.prog w = .ok (.func fn first cap) w := fun _ _ _ _ => rfl
 obtain ⟨a,cap,rfl,h1,h2,h3, -, -⟩ := RowP.open h;obtain ⟨N,hN⟩ : ∃ N,ts.length = N := ⟨_,rfl⟩;obtain ⟨R,hR⟩ : ∃ R,okB ts = R := ⟨_,rfl⟩;rw [hR];rw [hN] at h1 ⊢;have HH : Hid (TrsQ n w (.slice a N cap) ts) := (by rw [← hN]; exact h : TrsQ n w (.slice a N cap) ts);have HN : Hid (ts.length = N) := hN;have HR : Hid (okB ts = R) := hR;unfold maxLen at h2;clear h hN hR h3
 by_cases l1 : 1 ≤ N
 ·have d1 : decide ((N : Int) < 1) = false := by simp; omega
  by_cases l2 : N ≤ 64
  ·have d2 : decide (64 < (N : Int)) = false := by simp; omega
   obtain ⟨t0,ht0⟩ : ∃ t,ts[0]? = some t := ⟨_,List.getElem?_eq_getElem (by rw [HN.out]; omega)⟩;obtain ⟨g,off,rfl,r,hr,hc⟩ := HH.out.get ht0;obtain ⟨ea,el,ec,ra,rl,rc,e1, -⟩ := TrV2.open ⟨_,rfl,hr⟩
   have hcell : w.cell? ⟨g,off,none⟩ = some (.int .i64 t0.kind) := by
    have := hc 0 (.int .i64 t0.kind) (by
     have h9 : r.toArray = #[.int .i64 t0.kind,.int .i64 t0.n,.string t0.s,.slice ea el ec,.slice ra rl rc] := by simpa using e1
     have h8 : r = [.int .i64 t0.kind,.int .i64 t0.n,.string t0.s,.slice ea el ec,.slice ra rl rc] := by simpa using congrArg Array.toList h9
     rw [h8]; rfl)
    simpa using this
   have hw1 : Below w.heap.size w (w.alloc (Obj.cells #[.slice (some ⟨g,off,none⟩) N cap] 67)) := (Below.refl _ _).alloc (Nat.le_refl _) _;have BX : Blk (w.alloc (Obj.cells #[.slice (some ⟨g,off,none⟩) N cap] 67)) w.heap.size #[.slice (some ⟨g,off,none⟩) N cap] 67 := Blk.new w _ _
   have HC : Hid (Calls Tryz.prog 43 #[.slice (some ⟨g,off,none⟩) N cap,.func (.func 123) #[] #[.pointer (some ⟨w.heap.size,0,none⟩)]] (w.alloc (Obj.cells #[.slice (some ⟨g,off,none⟩) N cap] 67)) fun e w' => e = .returned (.bool (!R)) ∧ Below (w.alloc (Obj.cells #[.slice (some ⟨g,off,none⟩) N cap] 67)).heap.size (w.alloc (Obj.cells #[.slice (some ⟨g,off,none⟩) N cap] 67)) w') := by
    have hh : ts.head? = some t0 := by rw [List.head?_eq_getElem?]; exact ht0
    have hb : (!R) = ts.any (fun x => x.kind != t0.kind) := by
     rw [← HR.out,okB,HN.out,decide_eq_true l1,decide_eq_true l2,hh];simp only [Option.map_some,Option.getD_some,Bool.true_and,List.not_all_eq_any_not]
     rfl
    rw [hb];refine containsK_any w.heap.size n _ ts _ (fun x => x.kind != t0.kind) (HH.out.belowTQ hw1) fun W x r' hW hx hr' => ?_
    exact kindc_any n x r' w.heap.size g off N cap t0.kind W hr' (BX.below hW) ((hW.cell (by have hg9 : g < w.heap.size := World.block_lt_of_cell? _ _ hcell; simp; omega)).trans ((hw1.cell (World.block_lt_of_cell? _ _ hcell)).trans hcell)) (by omega)
   clear hcell hc e1 hr ht0 HH HR BX
   go_enter Tryz.func107,Tryz.ntmps107
   go_wp2_with fail;refine HC.out.mono ?_;rintro e w2 ⟨rfl,hb2⟩;have hbw : Below w.heap.size w w2 := hw1.trans (hb2.mono hw1.size);clear HC hb2 hw1;go_wp2_with fail;go_ret;exact ⟨by simp,hbw⟩
  ·have d2 : decide (64 < (N : Int)) = true := by simp; omega
   obtain rfl : R = false := by rw [← HR.out,okB,HN.out]; simp; omega
   go_enter Tryz.func107,Tryz.ntmps107
   go_wp2_with fail;go_ret;exact ⟨rfl,(Below.refl _ _).alloc (Nat.le_refl _) _⟩
 ·have d1 : decide ((N : Int) < 1) = true := by simp; omega
  obtain rfl : R = false := by rw [← HR.out,okB,HN.out]; simp; omega
  go_enter Tryz.func107,Tryz.ntmps107
  go_wp2_with fail;go_ret;exact ⟨rfl,(Below.refl _ _).alloc (Nat.le_refl _) _⟩
theorem ents_cons (last : Int) (e : Int × List Tr) (l : List (Int × List Tr)) : entsB last (e :: l) = (decide (last < e.1) && decide (e.1 ≤ 500) && okB e.2 && entsB e.1 l) := by
 simp only [entsB,okB,Bool.and_assoc]
theorem entries_any (n : Nat) (v : Value) (es : List (Int × List Tr)) (w : World) (h : EnsQ n w v es) :
  Calls Tryz.prog 77 #[v] w fun e w' => e = .returned (.bool (entsB 0 es)) ∧ Below w.heap.size w w' := by
 obtain ⟨a,cap,rfl,h1,h2, -⟩ := RowP.open h;obtain ⟨N,hN⟩ : ∃ N,es.length = N := ⟨_,rfl⟩;obtain ⟨R,hR⟩ : ∃ R,entsB 0 es = R := ⟨_,rfl⟩;rw [hR];rw [hN] at h1 ⊢;have HH : Hid (EnsQ n w (.slice a N cap) es) := (by rw [← hN]; exact h : EnsQ n w (.slice a N cap) es);have HN : Hid (es.length = N) := hN;have HR0 : Hid (entsB 0 (es.drop 0) = R) := hR;unfold maxLen at h2;clear h hN hR
 go_enter Tryz.func77,Tryz.ntmps77
 go_wp2_with fail
 go_loopw [3,8] (fun av iv wr => ∃ (i : Nat) (last : Int),iv = .int .i64 (i : Int) ∧ av = .int .i64 last ∧ i ≤ N ∧ Hid (entsB last (es.drop i) = R) ∧ Below w.heap.size w wr) (fun _ iv _ => N - (intOf iv).toNat)
 case atStart => exact ⟨0,0,rfl,rfl,by omega,HR0,Below.refl _ _⟩
 case round =>
  clear HR0;obtain ⟨i,last,rfl,rfl,hi,HR,hbel⟩ := hrel
  by_cases hlt : i < N
  ·obtain ⟨x,hx⟩ : ∃ r,es[i]? = some r := ⟨_,List.getElem?_eq_getElem (by rw [HN.out]; exact hlt)⟩;obtain ⟨g,off,rfl,r,⟨vt,rfl, -,ht⟩,hc⟩ := (HH.out.belowEQ hbel).get hx;obtain ⟨ta,tc,rfl, -⟩ := RowP.open ht;have c0 := hc 0 _ rfl;have c1 := hc 1 _ rfl;simp only [Nat.add_zero] at c0
   have hdr : es.drop i = x :: es.drop (i + 1) := by
    obtain ⟨hl',e⟩ := List.getElem?_eq_some_iff.1 hx;rw [List.drop_eq_getElem_cons hl',e]
   have HR1 : Hid ((decide (last < x.1) && decide (x.1 ≤ 500) && okB x.2 && entsB x.1 (es.drop (i + 1))) = R) := (by rw [← ents_cons,← hdr]; exact HR.out : (decide (last < x.1) && decide (x.1 ≤ 500) && okB x.2 && entsB x.1 (es.drop (i + 1))) = R);have HOK : Hid (∀ W,Below wr.heap.size wr W → Calls Tryz.prog 107 #[.slice ta x.2.length tc] W fun e w' => e = .returned (.bool (okB x.2)) ∧ Below W.heap.size W w') := fun W hW => oneKind_any n _ x.2 W (RowP.belowTQ ht hW)
   clear hc ht hx hdr HR;generalize x.2.length = Xl at *;generalize okB x.2 = O at *;generalize x.1 = xt at *
   by_cases k1 : last < xt
   ·by_cases k2 : xt ≤ 500
    ·have d1 : decide (xt ≤ last) = false := by simp; omega
     have d2 : decide (500 < xt) = false := by simp; omega
     have hal : Below wr.heap.size wr (wr.alloc (Obj.cells #[.int .i64 xt,.slice ta Xl tc] 69)) := (Below.refl _ _).alloc (Nat.le_refl _) _;have BE : Blk (wr.alloc (Obj.cells #[.int .i64 xt,.slice ta Xl tc] 69)) wr.heap.size #[.int .i64 xt,.slice ta Xl tc] 69 := Blk.new wr _ _;go_wp2_with fail;refine (HOK.out _ hal).mono ?_;rintro e w2 ⟨rfl,hb2⟩;have hb3 : Below wr.heap.size wr w2 := hal.trans (hb2.mono hal.size);have hbw : Below w.heap.size w w2 := hbel.trans (hb3.mono hbel.size);have q0 := ((BE.below hb2).cell 0).trans rfl;generalize wr.heap.size = bw at *;clear hb2 hb3 hbel c0 c1 HOK hal BE
     cases O with
     | true =>
      go_wp2_with fail
      go_roundw
      case rel => exact ⟨i + 1,xt,by go_num,rfl,by omega,(by have := HR1.out; rw [decide_eq_true k1,decide_eq_true k2] at this; simpa using this : entsB xt (es.drop (i + 1)) = R),hbw⟩
      case measure => simp [intOf]; omega
     | false =>
      obtain rfl : R = false := by rw [← HR1.out]; simp
      go_wp2_with fail;go_ret;exact ⟨rfl,hbw⟩
    ·have d1 : decide (xt ≤ last) = false := by simp; omega
     have d2 : decide (500 < xt) = true := by simp; omega
     obtain rfl : R = false := by rw [← HR1.out,decide_eq_false k2]; simp
     go_wp2_with fail;go_ret;exact ⟨rfl,hbel.alloc hbel.size _⟩
   ·have d1 : decide (xt ≤ last) = true := by simp; omega
    obtain rfl : R = false := by rw [← HR1.out,decide_eq_false k1]; simp
    go_wp2_with fail;go_ret;exact ⟨rfl,hbel.alloc hbel.size _⟩
  ·obtain rfl : R = true := by rw [← HR.out,List.drop_eq_nil_of_le (by rw [HN.out]; omega)]; rfl
   go_wp2_with fail;go_ret;exact ⟨rfl,hbel⟩
theorem ret_boolF {a b : Bool} (h : a = b) : Ending.returned (.bool a) = .returned (.bool b) := by rw [h]
theorem checkV_any (t k n : Int) (b : ByteArray) (w : World) :
  Calls Tryz.prog 108 #[.agg #[.int .i64 t,.int .i64 k,.int .i64 n,.string b]] w fun e w' => e = .returned (.bool (okV t k n b)) ∧ Below w.heap.size w w' := by
 by_cases h1 : 1 ≤ t
 ·by_cases h2 : t ≤ 500
  ·by_cases hk : k = 0
   ·subst hk
    go_enter Tryz.func108,Tryz.ntmps108
    go_wp2_with fail
    all_goals
     go_ret;exact ⟨ret_boolF (by simp [okV,h1,h2]),(Below.refl _ _).alloc (Nat.le_refl _) _⟩
   ·by_cases hk1 : k = 1
    ·subst hk1
     by_cases hn : n = 0
     ·subst hn
      go_enter Tryz.func108,Tryz.ntmps108
      go_wp2_with fail
      all_goals
       go_ret;exact ⟨ret_boolF (by simp [okV,h1,h2]),(Below.refl _ _).alloc (Nat.le_refl _) _⟩
     ·go_enter Tryz.func108,Tryz.ntmps108
      go_wp2_with fail
      all_goals
       go_ret;exact ⟨ret_boolF (by simp [okV,hn]),(Below.refl _ _).alloc (Nat.le_refl _) _⟩
    ·have e0 : (k == 0) = false := by simp [hk]
     have e1 : (k == 1) = false := by simp [hk1]
     go_enter Tryz.func108,Tryz.ntmps108
     go_wp2_with fail
     all_goals
      go_ret;exact ⟨ret_boolF (by simp [okV,hk,hk1]),(Below.refl _ _).alloc (Nat.le_refl _) _⟩
  ·have hok : okV t k n b = false := by simp [okV]; omega
   rw [hok];clear hok
   have hd : decide (t < 1) = false := by simp; omega
   have hd5 : decide (500 < t) = true := by simp; omega
   go_enter Tryz.func108,Tryz.ntmps108
   go_wp2_with fail
   all_goals
    go_ret;exact ⟨rfl,(Below.refl _ _).alloc (Nat.le_refl _) _⟩
 ·have hok : okV t k n b = false := by simp [okV]; omega
  rw [hok];clear hok
  have hd : decide (t < 1) = true := by simp; omega
  go_enter Tryz.func108,Tryz.ntmps108
  go_wp2_with fail
  all_goals
   go_ret;exact ⟨rfl,(Below.refl _ _).alloc (Nat.le_refl _) _⟩
theorem rising_any (a : Option Addr) (rs : List Fd) (N cap : Nat) (w : World) (hN : rs.length = N) (hadr : rs = [] ∨ ∃ g off,a = some ⟨g,off,none⟩) (hc : N ≤ cap) (hm : cap ≤ maxLen) (hh : HoldsR w a rs) :
  Calls Tryz.prog 110 #[.slice a N cap] w fun e w' => e = .returned (.bool (risesB rs)) ∧ Below w.heap.size w w' := by
 have HN : Hid (rs.length = N) := hN;have HA : Hid (rs = [] ∨ ∃ g off,a = some ⟨g,off,none⟩) := hadr;have HH : Hid (HoldsR w a rs) := hh;obtain ⟨R,hR⟩ : ∃ R,risesB rs = R := ⟨_,rfl⟩;rw [hR];have HR : Hid (risesB rs = R) := hR;unfold maxLen at hm;clear hN hadr hh hR
 go_enter Tryz.func110,Tryz.ntmps110
 go_wp2_with fail
 go_loopw [3] (fun iv wr => ∃ i : Nat,iv = .int .i64 ((i : Int) + 1) ∧ i ≤ N ∧ Hid (∀ j x y,j < i → rs[j]? = some x → rs[j + 1]? = some y → x.tag ≤ y.tag) ∧ Below w.heap.size w wr) (fun iv _ => N + 1 - (intOf iv).toNat)
 case atStart => exact ⟨0,rfl,by omega,(fun j x y hj => absurd hj (by omega) : ∀ j x y,j < 0 → rs[j]? = some x → rs[j + 1]? = some y → x.tag ≤ y.tag),Below.refl _ _⟩
 case round =>
  obtain ⟨i,rfl,hi,HT,hbel⟩ := hrel
  by_cases hlt : i + 1 < N
  ·have hr : rs[i]? = some (rs[i]'(by rw [HN.out]; omega)) := List.getElem?_eq_getElem _;generalize rs[i]'(by rw [HN.out]; omega) = r at hr;have hs : rs[i + 1]? = some (rs[i + 1]'(by rw [HN.out]; exact hlt)) := List.getElem?_eq_getElem _;generalize rs[i + 1]'(by rw [HN.out]; exact hlt) = s at hs
   rcases HA.out with h0 | ⟨g,off,rfl⟩
   ·exact absurd hlt (by have := HN.out; rw [h0] at this; simp at this; omega)
   obtain ⟨p0, -, -, -⟩ := (HH.out.below hbel).at hr;obtain ⟨q0, -, -, -⟩ := (HH.out.below hbel).at hs;have HK : Hid (rs[i]? = some r) := hr;have HK2 : Hid (rs[i + 1]? = some s) := hs;obtain ⟨x,hx⟩ : ∃ q,r.tag = q := ⟨_,rfl⟩;obtain ⟨y,hy⟩ : ∃ q,s.tag = q := ⟨_,rfl⟩;rw [hx] at p0;rw [hy] at q0;have HX : Hid (r.tag = x) := hx;have HY : Hid (s.tag = y) := hy
   have hlti : (i : Int) + 1 < (N : Int) := by omega
   clear hr hs hx hy
   by_cases hle : y < x
   ·have hd : decide (y < x) = true := by simp [hle]
    obtain rfl : R = false := by rw [← HR.out]; exact rises_break i r s HK.out HK2.out (by rw [HX.out,HY.out]; exact hle)
    clear HT HK HK2 HX HY HR;go_wp2_with fail
    go_quiet (fail)
    have hbn := below_drewN nq hbel;clear p0 q0 hbel;go_wp2_with fail;go_ret;exact ⟨rfl,hbn⟩
   ·have hd : decide (y < x) = false := by simp; omega
    have HT2 : Hid (∀ j u v,j < i + 1 → rs[j]? = some u → rs[j + 1]? = some v → u.tag ≤ v.tag) := fun j u v hj hu hv => by
     by_cases hji : j = i
     ·subst hji;rw [HK.out] at hu;rw [HK2.out] at hv
      obtain rfl : r = u := by simpa using hu
      obtain rfl : s = v := by simpa using hv
      rw [HX.out,HY.out]; omega
     ·exact HT.out j u v (by omega) hu hv
    clear HT HK HK2 HX HY;go_wp2_with fail
    go_quiet (fail)
    have hbn := below_drewN nq hbel;clear p0 q0 hbel;go_wp2_with fail
    go_roundw
    case rel => exact ⟨i + 1,by go_num,by omega,HT2,hbn⟩
    case measure => simp [intOf]; omega
  ·obtain rfl : R = true := by
    rw [← HR.out];refine rises_steps fun j x y hx hy => HT.out j x y ?_ hx hy
    have := (List.getElem?_eq_some_iff.1 hy).1;rw [HN.out] at this
    omega
   have hnl : ¬ (i : Int) + 1 < (N : Int) := by omega
   clear HT HR;go_wp2_with fail;go_ret;exact ⟨rfl,hbel⟩
theorem rowG_holdsR {w : World} {a : Option Addr} {N cap : Nat} {l : List Fd} (h : RowG w (.slice a N cap) 4 (fdRows l)) : HoldsR w a l := by
 obtain ⟨a',cap',e,_,_,_,h4⟩ := h.form;simp only [Value.slice.injEq] at e;obtain ⟨rfl,_,_⟩ := e;intro b hb j u hu;rw [rawCells_flat] at hu;obtain ⟨i,c,k,h1,h2,rfl⟩ := flat_inv (fdRows l) (fdr_len l) j u hu;obtain ⟨g,off,e,hc⟩ := h4 (by intro e; rw [e] at h1; simp at h1);rw [hb] at e
 cases e
 have := hc i c u k h1 h2;rw [Nat.add_assoc] at this;rw [Addr.add_lit];exact this
theorem rest_all {l : List Fd} {p : Fd → Bool} {i : Nat} {f : Fd} (h : ∀ x ∈ l.take i,p x = true) (hf : l[i]? = some f) (hp : p f = true) : ∀ x ∈ l.take (i + 1),p x = true := by
 rw [take_atQ hf];intro x hx
 rcases List.mem_append.1 hx with hx | hx
 ·exact h x hx
 ·obtain rfl : x = f := by simpa using hx
  exact hp
theorem restMayBe_any (n : Nat) (v ve : Value) (l : List Fd) (es : List (Int × List Tr)) (w : World) (h : RowG w v 4 (fdRows l)) (he : EnsQ n w ve es) (hr : RisT es) (hl : es.length ≤ 1000000) :
  Calls Tryz.prog 78 #[v,ve] w fun e w' => e = .returned (.bool (restB l es)) ∧ Below w.heap.size w w' := by
 obtain ⟨a,cap,rfl,h1,h2,h3, -, -⟩ := rest_holds h;obtain ⟨N,hN⟩ : ∃ N,l.length = N := ⟨_,rfl⟩;obtain ⟨R,hR⟩ : ∃ R,restB l es = R := ⟨_,rfl⟩;rw [hR];rw [hN] at h1 ⊢;have HH : Hid (RowG w (.slice a N cap) 4 (fdRows l)) := (by rw [← hN]; exact h : RowG w (.slice a N cap) 4 (fdRows l));have HN : Hid (l.length = N) := hN;have HR : Hid (restB l es = R) := hR;have HT : Hid (∀ W tag,Below w.heap.size w W → Calls Tryz.prog 109 #[ve,.int .i64 tag] W fun e w' => e = .returned (.bool (hasB es tag)) ∧ Below W.heap.size W w') := fun W tag hW => hasTag_any n ve es tag W (he.belowEQ hW) hr hl
 have HRS : Hid (∀ W,Below w.heap.size w W → Calls Tryz.prog 110 #[.slice a N cap] W fun e w' => e = .returned (.bool (risesB l)) ∧ Below W.heap.size W w') := fun W hW => rising_any a l N cap W hN h3 h1 h2 (rowG_holdsR (HH.out.below hW))
 obtain ⟨pe,ce,rfl, -⟩ := RowP.open he;unfold maxLen at h2;generalize es.length = El at *;clear h hN hR h3 he hr
 go_enter Tryz.func78,Tryz.ntmps78
 go_wp2_with fail
 go_loopw [9] (fun iv wr => ∃ i : Nat,iv = .int .i64 (i : Int) ∧ i ≤ N ∧ Hid (∀ f ∈ l.take i,(okF f && !hasB es f.tag) = true) ∧ Below w.heap.size w wr) (fun iv _ => N - (intOf iv).toNat)
 case atStart => exact ⟨0,rfl,by omega,(by simp : ∀ f ∈ l.take 0,(okF f && !hasB es f.tag) = true),Below.refl _ _⟩
 case round =>
  obtain ⟨i,rfl,hi,HI,hbel⟩ := hrel
  by_cases hlt : i < N
  ·obtain ⟨f,hf⟩ : ∃ r,l[i]? = some r := ⟨_,List.getElem?_eq_getElem (by rw [HN.out]; exact hlt)⟩;obtain ⟨g,off,rfl,cc⟩ := (HH.out.below hbel).get (show (fdRows l)[i]? = some f.cells by simp [fdRows,hf]);have p0 := cc 0 _ rfl;have p1 := cc 1 _ rfl;have p2 := cc 2 _ rfl;have p3 := cc 3 _ rfl;simp only [Nat.add_zero] at p0;have HF : Hid (l[i]? = some f) := hf;have HM : Hid (f ∈ l) := List.mem_of_getElem? hf;have HFO : Hid (okF f = okV f.tag f.wire f.n f.b) := (rfl : okF f = okV f.tag f.wire f.n f.b);have HTG : Hid (∀ W,Below w.heap.size w W → Calls Tryz.prog 109 #[.slice pe El ce,.int .i64 f.tag] W fun e w' => e = .returned (.bool (hasB es f.tag)) ∧ Below W.heap.size W w') := fun W hW => HT.out W f.tag hW
   clear cc hf;obtain ⟨O,hO⟩ : ∃ O,okV f.tag f.wire f.n f.b = O := ⟨_,rfl⟩;obtain ⟨B,hB⟩ : ∃ B,hasB es f.tag = B := ⟨_,rfl⟩;have HO : Hid (okV f.tag f.wire f.n f.b = O) := hO;have HB : Hid (hasB es f.tag = B) := hB
   have HCK : Hid (∀ W,Calls Tryz.prog 108 #[.agg #[.int .i64 f.tag,.int .i64 f.wire,.int .i64 f.n,.string f.b]] W fun e w' => e = .returned (.bool O) ∧ Below W.heap.size W w') := fun W => by rw [← hO]; exact checkV_any f.tag f.wire f.n f.b W
   rw [hB] at HTG;clear hO hB;generalize hft : f.tag = ft at *;generalize hfw : f.wire = fw at *;generalize hfn : f.n = fn at *;generalize hfb : f.b = fb at *;have HE : Hid (f.tag = ft ∧ f.wire = fw ∧ f.n = fn ∧ f.b = fb) := ⟨hft,hfw,hfn,hfb⟩;clear hft hfw hfn hfb;have hal : Below wr.heap.size wr (wr.alloc (Obj.cells #[.int .i64 ft,.int .i64 fw,.int .i64 fn,.string fb] 79)) := (Below.refl _ _).alloc (Nat.le_refl _) _;have BE : Blk (wr.alloc (Obj.cells #[.int .i64 ft,.int .i64 fw,.int .i64 fn,.string fb] 79)) wr.heap.size #[.int .i64 ft,.int .i64 fw,.int .i64 fn,.string fb] 79 := Blk.new wr _ _;go_wp2_with fail;refine (HCK.out _).mono ?_;rintro e w2 ⟨rfl,hb2⟩;have hb3 : Below wr.heap.size wr w2 := hal.trans (hb2.mono hal.size);have hbw : Below w.heap.size w w2 := hbel.trans (hb3.mono hbel.size);have q0 := ((BE.below hb2).cell 0).trans rfl;generalize wr.heap.size = bw at *;clear hb2 hb3 hbel hal BE p0 p1 p2 p3 HCK
   cases O with
   | false =>
    obtain rfl : R = false := by
     rw [← HR.out,restB,Bool.and_eq_false_iff]
     left
     rw [List.all_eq_false];exact ⟨f,HM.out,by rw [HFO.out,HE.out.1,HO.out]; simp⟩
    go_wp2_with fail;go_ret;exact ⟨rfl,hbw⟩
   | true =>
    go_wp2_with fail;refine (HTG.out _ hbw).mono ?_;rintro e w4 ⟨rfl,hb4⟩;have hbw4 : Below w.heap.size w w4 := hbw.trans (hb4.mono hbw.size);clear hb4 hbw HTG
    cases B with
    | true =>
     obtain rfl : R = false := by
      rw [← HR.out,restB,Bool.and_eq_false_iff]
      left
      rw [List.all_eq_false];exact ⟨f,HM.out,by rw [HE.out.1,HB.out]; simp⟩
     go_wp2_with fail;go_ret;exact ⟨rfl,hbw4⟩
    | false =>
     have HI2 : Hid (∀ f ∈ l.take (i + 1),(okF f && !hasB es f.tag) = true) := rest_all HI.out HF.out (by rw [HFO.out,HE.out.1,HO.out,HB.out]; rfl);go_wp2_with fail
     go_roundw
     case rel => exact ⟨i + 1,by go_num,by omega,HI2,hbw4⟩
     case measure => simp [intOf]; omega
  ·have hall : R = risesB l := by
    have h5 := HI.out;rw [List.take_of_length_le (by rw [HN.out]; omega)] at h5;rw [← HR.out,restB,List.all_eq_true.2 h5]
    rfl
   have HRX : Hid (Calls Tryz.prog 110 #[.slice a N cap] wr fun e w' => e = .returned (.bool R) ∧ Below wr.heap.size wr w') := by
    rw [hall]; exact HRS.out wr hbel
   clear hall;go_wp2_with fail;refine HRX.out.mono ?_;rintro e w2 ⟨rfl,hb2⟩;have hbw : Below w.heap.size w w2 := hbel.trans (hb2.mono hbel.size);go_wp2_with fail;go_ret;exact ⟨rfl,hbw⟩
theorem wrong_any (n : Nat) (t : Tr) (r : List Value) (w : World) (h : TrQ n w r t) (hl : t.es.length ≤ 1000000) :
  Calls Tryz.prog 44 #[.agg r.toArray] w fun e w' => e = .returned (.bool (!lvB t)) ∧ Below w.heap.size w w' := by
 cases n with
 | zero => exact h.elim
 | succ n =>
  obtain ⟨ve,vr,rfl,ka,na,sa,fa,ra,ea,pa⟩ := h;obtain ⟨pe,ce,rfl,u1,u2, -⟩ := RowP.open ea;obtain ⟨pr,cr,rfl,x1,x2, -⟩ := rest_holds ra;have HEN : Hid (∀ W,Below w.heap.size w W → Calls Tryz.prog 77 #[.slice pe t.es.length ce] W fun e w' => e = .returned (.bool (entsB 0 t.es)) ∧ Below W.heap.size W w') := fun W hW => entries_any n _ t.es W (RowP.belowEQ ea hW)
  have HRE : Hid (entsB 0 t.es = true → ∀ W,Below w.heap.size w W → Calls Tryz.prog 78 #[.slice pr t.rest.length cr,.slice pe t.es.length ce] W fun e w' => e = .returned (.bool (restB t.rest t.es)) ∧ Below W.heap.size W w') := fun he W hW => restMayBe_any n _ _ t.rest t.es W (ra.below hW) (RowP.belowEQ ea hW) (ents_ris t.es 0 he) hl
  obtain ⟨R,hR⟩ : ∃ R,(!lvB t) = R := ⟨_,rfl⟩;rw [hR];have HR : Hid ((!lvB t) = R) := hR;unfold maxLen at u2 x2
  have hel : (t.es.isEmpty = decide (t.es.length = 0)) := by cases t.es <;> simp
  have hrl : (t.rest.isEmpty = decide (t.rest.length = 0)) := by cases t.rest <;> simp
  have hlv := hR;simp only [lvB,hel,hrl] at hlv;have HLV : Hid _ := hlv;clear hR hlv ea ra fa ka na pa hel hrl HR;generalize t.es.length = Ke at *;generalize t.rest.length = Kr at *;generalize t.kind = K at *;generalize t.n = N at *;generalize t.s = S at *;generalize entsB 0 t.es = E at *;generalize restB t.rest t.es = Rs at *
  have hsz : (S.toList == ([] : List UInt8)) = (S.size == 0) := by
   rw [ByteArray.toList_eq];obtain ⟨⟨l⟩⟩ := S
   cases l <;> simp [ByteArray.size]
  have hs0 : S.size = 0 → S = ByteArray.empty := fun h => by
   obtain ⟨⟨l⟩⟩ := S
   cases l with
   | nil => rfl
   | cons a l => simp [ByteArray.size] at h
  by_cases k1 : K = 1
  ·subst k1;simp only [if_true] at HLV;have HSE : Hid (S.size = 0 → S = ByteArray.empty) := hs0;clear hs0 hsz
   by_cases hs : S.size = 0
   ·have := HSE.out hs;subst this;clear HSE hs
    go_enter Tryz.func44,Tryz.ntmps44
    go_wp2_with fail
    all_goals
     go_ret;refine ⟨ret_boolF ?_,(Below.refl _ _).alloc (Nat.le_refl _) _⟩;rw [← HLV.out]
     first
      | (rw [Bool.eq_iff_iff]; simp; omega)
      | (simp; omega)
   ·have hne : (S.toList == ([] : List UInt8)) = false := by
     rw [ByteArray.toList_eq];obtain ⟨⟨l⟩⟩ := S
     cases l with
     | nil => exact absurd rfl hs
     | cons a l => rfl
    obtain rfl : R = true := by rw [← HLV.out]; simp [hs]
    clear hs HSE HLV
    go_enter Tryz.func44,Tryz.ntmps44
    go_wp2_with fail
    all_goals
     go_ret;exact ⟨rfl,(Below.refl _ _).alloc (Nat.le_refl _) _⟩
  ·have d1 : (K == 1) = false := by simpa using k1
   simp only [if_neg k1] at HLV
   by_cases k2 : K = 2
   ·subst k2;simp only [if_true] at HLV
    go_enter Tryz.func44,Tryz.ntmps44
    go_wp2_with fail
    all_goals
     go_ret;refine ⟨ret_boolF ?_,(Below.refl _ _).alloc (Nat.le_refl _) _⟩;rw [← HLV.out]
     first
      | (rw [Bool.eq_iff_iff]; simp; omega)
      | (simp; omega)
      | (simp; left; omega)
      | (simp_all; omega)
      | simp_all
   ·have d2 : (K == 2) = false := by simpa using k2
    simp only [if_neg k2] at HLV
    by_cases k3 : K = 3
    ·subst k3;simp only [if_true] at HLV
     by_cases hn : N = 0
     ·subst hn
      by_cases hs : S.size = 0
      ·have := hs0 hs;subst this;clear hs0 hsz hs
       go_enter Tryz.func44,Tryz.ntmps44
       go_wp2_with fail;refine (HEN.out _ ((Below.refl _ _).alloc (Nat.le_refl _) _)).mono ?_;rintro e w2 ⟨rfl,hb2⟩;have hal : Below w.heap.size w (w.alloc (Obj.cells #[.int .i64 3,.int .i64 0,.string ByteArray.empty,.slice pe Ke ce,.slice pr Kr cr] 30)) := (Below.refl _ _).alloc (Nat.le_refl _) _;have hbw : Below w.heap.size w w2 := hal.trans (hb2.mono hal.size);have BX := (Blk.new w #[.int .i64 3,.int .i64 0,.string ByteArray.empty,.slice pe Ke ce,.slice pr Kr cr] 30).below hb2;have q3 := (BX.cell 3).trans rfl;have q4 := (BX.cell 4).trans rfl;clear hb2 HEN hal BX
       cases E with
       | false =>
        obtain rfl : R = true := by rw [← HLV.out]; simp
        go_wp2_with fail;go_ret;exact ⟨rfl,hbw⟩
       | true =>
        go_wp2_with fail;refine (HRE.out trivial _ hbw).mono ?_;rintro e w3 ⟨rfl,hb3⟩;have hbw3 : Below w.heap.size w w3 := hbw.trans (hb3.mono hbw.size)
        have hRR : (!Rs) = R := by rw [← HLV.out]; simp
        clear hb3 hbw HRE;go_wp2_with fail;go_ret;exact ⟨rfl,hbw3⟩
      ·have hne : (S.toList == ([] : List UInt8)) = false := by
        rw [ByteArray.toList_eq];obtain ⟨⟨l⟩⟩ := S
        cases l with
        | nil => exact absurd rfl hs
        | cons a l => rfl
       obtain rfl : R = true := by rw [← HLV.out]; simp [hs]
       clear hs hs0 hsz HLV
       go_enter Tryz.func44,Tryz.ntmps44
       go_wp2_with fail
       all_goals
        go_ret;exact ⟨rfl,(Below.refl _ _).alloc (Nat.le_refl _) _⟩
     ·have hne : (N != 0) = true := by simpa using hn
      obtain rfl : R = true := by rw [← HLV.out]; simp [hn]
      clear hs0 hsz HLV
      go_enter Tryz.func44,Tryz.ntmps44
      go_wp2_with fail
      all_goals
       go_ret;exact ⟨rfl,(Below.refl _ _).alloc (Nat.le_refl _) _⟩
    ·have d3 : (K == 3) = false := by simpa using k3
     simp only [if_neg k3] at HLV
     obtain rfl : R = true := by rw [← HLV.out]; rfl
     go_enter Tryz.func44,Tryz.ntmps44
     go_wp2_with fail;go_ret;exact ⟨rfl,(Below.refl _ _).alloc (Nat.le_refl _) _⟩
theorem ok_step {m : Nat} {ts : List Tr} {M : List (List (Int × List Tr))} (h : MsgS ts M) (hl : ∀ x ∈ ts,lvB x = true) : ts.all (okN (m + 1)) = (subsL M).all (okN m) := by
 rw [Bool.eq_iff_iff,List.all_eq_true,List.all_eq_true]
 constructor
 ·intro h1 y hy;obtain ⟨m1,hm1,hy⟩ := mem_subsL.1 hy;obtain ⟨t1,ht1,hk1,rfl⟩ := mem_msgsL.1 (h.1.subset hm1);have := h1 t1 ht1;simp only [okN,hk1,if_true,Bool.and_eq_true,List.all_eq_true] at this;exact this.2 y hy
 ·intro h1 x hx;simp only [okN,hl x hx,Bool.true_and]
  split
  ·rename_i hk
   exact List.all_eq_true.2 fun y hy => h1 y (mem_subsL.2 ⟨_,h.2 x hx hk,hy⟩)
  ·rfl
theorem sm_step {m : Nat} {ts : List Tr} {M : List (List (Int × List Tr))} (h : MsgS ts M) (hs : ∀ x ∈ ts,SmN (m + 1) x) : ∀ x ∈ subsL M,SmN m x := by
 intro y hy;obtain ⟨m1,hm1,hy⟩ := mem_subsL.1 hy;obtain ⟨t1,ht1,hk1,rfl⟩ := mem_msgsL.1 (h.1.subset hm1);obtain ⟨e,he,hy⟩ := mem_subs.1 hy;exact ((hs t1 ht1).2.2.2.2 e he).2 y hy
theorem vcheck_any (n : Nat) (t : Tr) (v : Value) (w : World) (h : TrV2 n w v t) (hn : n ≤ 60) (hc : cntN n t ≤ 5000) (hs : SmN n t) :
  Calls Tryz.prog 22 #[v] w fun e w' => e = .returned (.bool (chkN n t)) ∧ Below w.heap.size w w' := by
 have HDP : Hid (∀ W,Below w.heap.size w W → Calls Tryz.prog 40 #[v] W fun e w' => e = .returned (.int .i64 (dpN n t : Int)) ∧ Below W.heap.size W w') := fun W hW => depth_any n t v W (h.below hW) hn hc
 obtain ⟨ea,el,ec,ra,rl,rc,rfl,hq⟩ := h.open;have HQ : Hid (TrQ n w [.int .i64 t.kind,.int .i64 t.n,.string t.s,.slice ea el ec,.slice ra rl rc] t) := hq;have HC : Hid (cntN n t ≤ 5000) := hc;have HS : Hid (SmN n t) := hs;obtain ⟨D,hD⟩ : ∃ D,dpN n t = D := ⟨_,rfl⟩;obtain ⟨R,hR⟩ : ∃ R,okN n t = R := ⟨_,rfl⟩;have HR : Hid (okN n t = R) := hR;rw [hD] at HDP;rw [chkN,hD,hR];clear h hq hc hs hD hR;generalize t.kind = K at *;generalize t.n = N at *;generalize t.s = S at *;have hal : Below w.heap.size w (w.alloc (Obj.cells #[.int .i64 K,.int .i64 N,.string S,.slice ea el ec,.slice ra rl rc] 30)) := (Below.refl _ _).alloc (Nat.le_refl _) _;have HBX : Hid (Blk (w.alloc (Obj.cells #[.int .i64 K,.int .i64 N,.string S,.slice ea el ec,.slice ra rl rc] 30)) w.heap.size #[.int .i64 K,.int .i64 N,.string S,.slice ea el ec,.slice ra rl rc] 30) := Blk.new w _ _
 by_cases hd : D ≤ 10
 ·have d1 : decide (10 < (D : Int)) = false := by simp; omega
  rw [decide_eq_true hd,Bool.true_and]
  go_enter Tryz.func22,Tryz.ntmps22
  go_wp2_with fail;refine (HDP.out _ hal).mono ?_;rintro e w1 ⟨rfl,hb1⟩;have hb : Below w.heap.size w w1 := hal.trans (hb1.mono hal.size);have BX := HBX.out.below hb1;clear hb1 hal HBX HDP;have q0 := (BX.cell 0).trans rfl;have q1 := (BX.cell 1).trans rfl;have q2 := (BX.cell 2).trans rfl;have q3 := (BX.cell 3).trans rfl;have q4 := (BX.cell 4).trans rfl;go_wp2_with fail;have hbA : Below w.heap.size w (w1.alloc (Obj.cells #[.int .i64 K,.int .i64 N,.string S,.slice ea el ec,.slice ra rl rc] 30)) := hb.alloc hb.size _;have HT0 : Hid (TrsQ n (w1.alloc (Obj.cells #[.int .i64 K,.int .i64 N,.string S,.slice ea el ec,.slice ra rl rc] 30)) (.slice (some ⟨w1.heap.size,0,none⟩) 1 1) [t]) := one_row (Blk.new w1 _ _) (HQ.out.below hbA);clear q0 q1 q2 q3 q4 BX
  go_loopg [3] n (fun k lv wr => ∃ ts : List Tr,Hid (TrsQ k wr lv ts) ∧ Hid (cntL k ts ≤ 5000) ∧ Hid (∀ x ∈ ts,SmN k x) ∧ Hid (ts.all (okN k) = R) ∧ Below w.heap.size w wr)
  case atStart => exact ⟨[t],HT0,(by simpa [cntL] using HC.out : cntL n [t] ≤ 5000),(by simpa using HS.out : ∀ x ∈ [t],SmN n x),(by simpa using HR.out : [t].all (okN n) = R),hbA⟩
  case round =>
   clear HT0 hbA hb;obtain ⟨ts,HT,HC,HS,HR,hb⟩ := hrel;obtain ⟨la,lc,rfl,l1,l2, -⟩ := RowP.open HT.out;unfold maxLen at l2;obtain ⟨Tl,hTl⟩ : ∃ k,ts.length = k := ⟨_,rfl⟩;have HT' : Hid (TrsQ gk wr (.slice la Tl lc) ts) := (by rw [← hTl]; exact HT.out : TrsQ gk wr (.slice la Tl lc) ts);rw [hTl] at l1 ⊢;have HTl : Hid (ts.length = Tl) := hTl;have hlen : ts.length ≤ 5000 := Nat.le_trans (len_cnt HT'.out) HC.out;have HLN : Hid (ts.length ≤ 5000) := hlen;clear hTl HT hlen
   by_cases h0 : Tl = 0
   ·subst h0;have hts : ts = [] := List.eq_nil_of_length_eq_zero HTl.out
    obtain rfl : R = true := by rw [← HR.out,hts]; rfl
    clear hts;go_wp2_with fail;go_ret;exact ⟨rfl,hb⟩
   ·have d2 : decide (0 < (Tl : Int)) = true := by simp; omega
    obtain ⟨m,rfl⟩ : ∃ m,gk = m + 1 := by
     cases gk with
     | zero =>
      exfalso
      obtain ⟨rows,_,_,h3⟩ := HT'.out;obtain ⟨x,hx⟩ : ∃ x,ts[0]? = some x := ⟨_,List.getElem?_eq_getElem (by rw [HTl.out]; omega)⟩;obtain ⟨r,_,hp⟩ := h3 0 x hx;exact hp
     | succ m => exact ⟨m,rfl⟩
    obtain ⟨B,hB⟩ : ∃ B,ts.any (fun x => !lvB x) = B := ⟨_,rfl⟩
    have HCF : Hid (Calls Tryz.prog 43 #[.slice la Tl lc,.func (.func 44) #[] #[]] wr fun e w' => e = .returned (.bool B) ∧ Below wr.heap.size wr w') := by
     rw [← hB];exact containsW_any (m + 1) _ ts wr (fun x => !lvB x) HT'.out fun W x r hW hx hr => wrong_any (m + 1) x r W hr (by have := (HS.out x hx).2.2.1; omega)
    have HB : Hid (ts.any (fun x => !lvB x) = B) := hB;clear hB;go_wp2_with fail;refine HCF.out.mono ?_;rintro e w2 ⟨rfl,hb2⟩;have hbw2 : Below w.heap.size w w2 := hb.trans (hb2.mono hb.size);have HT2 : Hid (TrsQ (m + 1) w2 (.slice la Tl lc) ts) := HT'.out.belowTQ hb2;clear HCF hb hb2 HT'
    cases B with
    | true =>
     obtain rfl : R = false := by
      rw [← HR.out,List.all_eq_false];obtain ⟨x,hx,hlx⟩ := List.any_eq_true.1 HB.out;refine ⟨x,hx,?_⟩
      simp at hlx
      simp [okN,hlx]
     go_wp2_with fail;go_ret;exact ⟨rfl,hbw2⟩
    | false =>
     have hlv : ∀ x ∈ ts,lvB x = true := fun x hx => by
      have := List.any_eq_false.1 HB.out x hx
      simpa using this
     have HLV : Hid (∀ x ∈ ts,lvB x = true) := hlv;have HM : Hid (Calls Tryz.prog 42 #[.slice la Tl lc] w2 (MsgP m ts w2)) := messages_any (m + 1) _ ts w2 HT2.out HLN.out;clear hlv;go_wp2_with fail;refine HM.out.mono ?_;rintro e w3 ⟨lv3,M,rfl,hL3,hS3,hb3⟩;have hbw3 : Below w.heap.size w w3 := hbw2.trans (hb3.mono hbw2.size);have HC3 : Hid (cntL m (subsL M) ≤ 5000) := (Nat.le_trans (cnt_step hS3) HC.out : cntL m (subsL M) ≤ 5000);have HI : Hid (Calls Tryz.prog 41 #[lv3] w3 (InsP m M w3)) := inside_any m _ M w3 hL3 (Nat.le_trans (len_subsL hL3) HC3.out);have HR3 : Hid ((subsL M).all (okN m) = R) := (by rw [← ok_step hS3 HLV.out]; exact HR.out : (subsL M).all (okN m) = R);have HS3 : Hid (∀ x ∈ subsL M,SmN m x) := sm_step hS3 HS.out;obtain ⟨ma,mc,rfl, -⟩ := RowP.open hL3;clear hL3 hS3 hb3 hbw2 HM HT2 HC HS HR HLV;generalize M.length = Ml at *;go_wp2_with fail;refine HI.out.mono ?_;rintro e w4 ⟨iv,rfl,hT4,hb4⟩;have hbw4 : Below w.heap.size w w4 := hbw3.trans (hb4.mono hbw3.size);have HT4 : Hid (TrsQ m w4 iv (subsL M)) := hT4;clear hT4 hb4 hbw3 HI;go_wp2_with fail
     go_roundg m
     case measure => omega
     case rel => exact ⟨subsL M,HT4,HC3,HS3,HR3,hbw4⟩
 ·have d1 : decide (10 < (D : Int)) = true := by simp; omega
  rw [decide_eq_false hd,Bool.false_and]
  go_enter Tryz.func22,Tryz.ntmps22
  go_wp2_with fail;refine (HDP.out _ hal).mono ?_;rintro e w1 ⟨rfl,hb1⟩;have hb : Below w.heap.size w w1 := hal.trans (hb1.mono hal.size);have BX := HBX.out.below hb1;clear hb1 hal HBX HDP;clear BX;go_wp2_with fail;go_ret;exact ⟨rfl,hb⟩
end
end Go.Proofs.YtmgbhicogmclgaaGreat
