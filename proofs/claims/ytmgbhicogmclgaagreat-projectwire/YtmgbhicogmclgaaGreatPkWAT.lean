/- Part 20 of what the proof stands on. -/
import Derived.Test.YtmgbhicogmclgaaGreatPkWAS
import Derived.Deep.DeepAppendWide
namespace Go.Proofs.YtmgbhicogmclgaaGreat
set_option maxHeartbeats 8000000
set_option linter.unusedVariables false
set_option linter.unusedSimpArgs false
set_option maxRecDepth 20000
section
open Go.ChangeShapes Go.WideShapes Go.ChangeAt Go.RowKit Go.Maps
theorem FewS.sm {s : ScS} (h : FewS s) : ∀ m ∈ s.msgs,m.name.size ≤ 20000 ∧ ∀ f ∈ m.fields,f.name.size ≤ 20000 := fun m hm => by
 have h1 := h.eachM m hm;refine ⟨by have := h1.1; omega,fun f hf => ?_⟩;have h2 := (h1.2.2.2 f hf);unfold flFew at h2
 omega
theorem FewS.sn {s : ScS} (h : FewS s) : ∀ m ∈ s.enums,m.name.size ≤ 20000 ∧ ∀ f ∈ m.values,f.name.size ≤ 20000 := fun m hm => by
 have h1 := h.eachE m hm;refine ⟨by have := h1.1; omega,fun f hf => ?_⟩;have h2 := (h1.2.2 f hf);unfold nmFew at h2
 omega
structure MayS (s : ScS) : Prop where
 may : MayL s
 name : s.name.size ≤ 20000
 sm : ∀ m ∈ s.msgs,m.name.size ≤ 20000 ∧ ∀ f ∈ m.fields,f.name.size ≤ 20000
 sn : ∀ m ∈ s.enums,m.name.size ≤ 20000 ∧ ∀ f ∈ m.values,f.name.size ≤ 20000
 st : ∀ m ∈ s.methods,m.name.size ≤ 20000
theorem FewS.mayS {s : ScS} (h : FewS s) : MayS s := ⟨h.few.may,Nat.le_trans h.name (by decide),h.sm,h.sn,fun m hm => Nat.le_trans (h.eachT m hm).1 (by decide)⟩
theorem rcheck_may {w : World} {v : Value} {s : ScS} (hr : ScIn w v s) (hfs : MayS s) :
  Calls Tryz.prog 15 #[v] w fun e w' => e = .returned (.int .i64 (checkA s)) ∧ Below w.heap.size w w' := by
 obtain ⟨vm0,ve0,vt0,rfl,hm,he,ht⟩ := hr;obtain ⟨am,cm,rfl,qm1,qm2⟩ := hm.form2;obtain ⟨ae,ce,rfl,qe1,qe2⟩ := he.form2;obtain ⟨at',ct,rfl,qt1,qt2⟩ := ht.form2
 have hTl : (mtRows s.methods).length = s.methods.length := by simp [mtRows]
 rw [hTl] at ht qt1 ⊢;obtain ⟨M,hM⟩ : ∃ N,s.msgs.length = N := ⟨_,rfl⟩;obtain ⟨E,hE⟩ : ∃ N,s.enums.length = N := ⟨_,rfl⟩;obtain ⟨T,hT⟩ : ∃ N,s.methods.length = N := ⟨_,rfl⟩;obtain ⟨nm,hnm⟩ : ∃ N,s.name = N := ⟨_,rfl⟩;rw [hM] at hm qm1 ⊢;rw [hE] at he qe1 ⊢;rw [hT] at ht qt1 ⊢;rw [hnm];have HM : Hid (MsIn w (.slice am M cm) s.msgs) := hm;have HE : Hid (EnIn w (.slice ae E ce) s.enums) := he;have HTR : Hid (RowG w (.slice at' T ct) 3 (mtRows s.methods)) := ht;have HLM : Hid (s.msgs.length = M) := hM;have HLE : Hid (s.enums.length = E) := hE;have HLT : Hid (s.methods.length = T) := hT;have HNM : Hid (s.name = nm) := hnm;have HF : Hid (MayS s) := hfs
 have hM14 : M ≤ 30000 := by have := hfs.may.msgs; omega
 have hE10 : E ≤ 30000 := by have := hfs.may.enums; omega
 have hT10 : T ≤ 30000 := by have := hfs.may.meths; omega
 have hns : nm.size ≤ 20000 := by have := hfs.name; rw [hnm] at this; omega
 clear hm he ht hM hE hT hnm hfs hTl;obtain ⟨A,hA⟩ : ∃ A,checkA s = A := ⟨_,rfl⟩;rw [hA];have HA : Hid (A = checkA s) := hA.symm;clear hA;have hba : Below w.heap.size w (w.alloc (.cells #[.string nm,.slice am M cm,.slice ae E ce,.slice at' T ct] 26)) := bra _;have BX0 := Blk.new w #[.string nm,.slice am M cm,.slice ae E ce,.slice at' T ct] 26
 go_enter Tryz.func15,Tryz.ntmps15
 go_wp2_with fail;refine (rfname_any nm _ hns).mono ?_;rintro e w1 ⟨rfl,hb1⟩;have hbw1 : Below w.heap.size w w1 := hba.trans (hb1.mono hba.size);have BX1 := BX0.below hb1;clear hb1 hba BX0
 cases hn : nameB nm with
 | false =>
  have HA2 : Hid (A = 6) := by show _ = _; rw [HA.out]; unfold checkA wholeA; rw [HNM.out,if_pos hn]; rfl
  clear HA hn;go_wp2_with fail;go_ret;exact ⟨ret_e HA2.out.symm,hbw1⟩
 | true =>
  have c0 : w1.cell? ⟨w.heap.size,0,none⟩ = some (.string nm) := BX1.cell 0;have c1 : w1.cell? ⟨w.heap.size,1,none⟩ = some (.slice am M cm) := BX1.cell 1;have c2 : w1.cell? ⟨w.heap.size,2,none⟩ = some (.slice ae E ce) := BX1.cell 2;have c3 : w1.cell? ⟨w.heap.size,3,none⟩ = some (.slice at' T ct) := BX1.cell 3
  by_cases hM0 : M = 0
  ·have HA2 : Hid (A = 12) := by show _ = _; rw [HA.out]; unfold checkA wholeA; rw [HNM.out,if_neg (by rw [hn]; decide),if_pos (by rw [HLM.out]; exact hM0)]; rfl
   clear HA hn;subst hM0;go_wp2_with fail;go_ret;exact ⟨ret_e HA2.out.symm,hbw1⟩
  by_cases hbig : 10 < M
  ·have HA2 : Hid (A = 4) := by show _ = _; rw [HA.out]; unfold checkA wholeA; rw [HNM.out,if_neg (by rw [hn]; decide),if_neg (by rw [HLM.out]; exact hM0),if_pos (by unfold bigS; rw [HLM.out,decide_eq_true (.inl hbig)])]; rfl
   clear HA hn;go_wp2_with fail;go_ret;exact ⟨ret_e HA2.out.symm,hbw1⟩
  by_cases hbig2 : 6 < E
  ·have HA2 : Hid (A = 4) := by show _ = _; rw [HA.out]; unfold checkA wholeA; rw [HNM.out,if_neg (by rw [hn]; decide),if_neg (by rw [HLM.out]; exact hM0),if_pos (by unfold bigS; rw [HLE.out,decide_eq_true (.inr (.inl hbig2))])]; rfl
   clear HA hn;go_wp2_with fail;go_ret;exact ⟨ret_e HA2.out.symm,hbw1⟩
  by_cases hbig3 : 6 < T
  ·have HA2 : Hid (A = 4) := by show _ = _; rw [HA.out]; unfold checkA wholeA; rw [HNM.out,if_neg (by rw [hn]; decide),if_neg (by rw [HLM.out]; exact hM0),if_pos (by unfold bigS; rw [HLT.out,decide_eq_true (.inr (.inr hbig3))])]; rfl
   clear HA hn;go_wp2_with fail;go_ret;exact ⟨ret_e HA2.out.symm,hbw1⟩
  obtain ⟨X,hX⟩ : ∃ X,partsA s = X := ⟨_,rfl⟩
  have HA2 : Hid (A = orE X (chkTs s.mn ((s.methods.take 0).map MtS.name) (s.methods.drop 0))) := by
   show _ = _
   rw [HA.out]; unfold checkA wholeA;rw [HNM.out,if_neg (by rw [hn]; decide),if_neg (by rw [HLM.out]; exact hM0),if_neg (by unfold bigS; rw [HLM.out,HLE.out,HLT.out,decide_eq_false (by omega)]; decide),orE_zero,hX]
   rfl
  have HP : Hid (∀ W,Below w.heap.size w W → Calls Tryz.prog 29 #[.agg #[.string nm,.slice am M cm,.slice ae E ce,.slice at' T ct]] W fun e W' => e = .returned (.int .i64 X) ∧ Below W.heap.size W W') := fun W hW => by
   rw [← hX];exact rparts_any (HM.out.below hW) (HE.out.below hW) HLM.out HLE.out hM14 hE10 HF.out.may.flds HF.out.may.vals HF.out.sm HF.out.sn
  clear HA hX hn;go_wp2_with fail;clear c0 c1 c2 c3;refine (HP.out w1 hbw1).mono ?_;rintro e w2 ⟨rfl,hb2⟩;have hbw2 : Below w.heap.size w w2 := hbw1.trans (hb2.mono hbw1.size);have BX2 := BX1.below hb2;clear hb2 hbw1 BX1 HP
  by_cases hX0 : X = 0
  case neg =>
   have HA3 : Hid (A = X) := by show _ = _; rw [HA2.out,orE_ne hX0]
   have hq : (X == 0) = false := by rw [beq_eq_false_iff_ne]; exact hX0
   clear HA2 hX0;go_wp2_with fail;go_ret;exact ⟨ret_e HA3.out.symm,hbw2⟩
  subst hX0
  have HA3 : Hid (A = chkTs s.mn ((s.methods.take 0).map MtS.name) (s.methods.drop 0)) := by show _ = _; rw [HA2.out,orE_zero]
  have HS0 : Hid (Seen w2 w.heap.size (.slice none 0 0) ((s.methods.take 0).map MtS.name)) := Seen.nil _ _;clear HA2;go_wp2_with fail
  go_loopw [4,5] (fun nv iv wr => ∃ (k : Nat) (sa : Option Addr) (sc : Nat),nv = .slice sa k sc ∧ iv = .int .i64 (k : Int) ∧ k ≤ T ∧ Hid (A = chkTs s.mn ((s.methods.take k).map MtS.name) (s.methods.drop k)) ∧ Hid (Seen wr w.heap.size (.slice sa k sc) ((s.methods.take k).map MtS.name)) ∧ Below w.heap.size w wr ∧ Blk wr w.heap.size #[.string nm,.slice am M cm,.slice ae E ce,.slice at' T ct] 26) (fun _ iv _ => T - (intOf iv).toNat)
  case atStart => exact ⟨0,none,0,rfl,rfl,by omega,HA3,HS0,hbw2,BX2⟩
  case round =>
   clear HA3 HS0 hbw2 BX2;obtain ⟨k,sa,sc,rfl,rfl,hk,HAk,HSE,hbel,BX⟩ := hrel;have x3 : wr.cell? ⟨w.heap.size,3,none⟩ = some (.slice at' T ct) := BX.cell 3
   by_cases hlt : k < T
   ·obtain ⟨m,hm⟩ : ∃ x,s.methods[k]? = some x := ⟨_,List.getElem?_eq_getElem (by rw [HLT.out]; exact hlt)⟩;have hsz := HF.out.st m (List.mem_of_getElem? hm);obtain ⟨m0,m1,m2⟩ := m;simp only at hsz
    have hfr : (mtRows s.methods)[k]? = some [.string m0,.string m1,.string m2] := by simp [mtRows,MtS.cells,hm]
    obtain ⟨g,off,rfl,hcs⟩ := HTR.out.get hfr;have C0 := hcs 0 _ rfl;have C1 := hcs 1 _ rfl;have C2 := hcs 2 _ rfl;simp only [Nat.add_zero] at C0 C1 C2
    have HTK : Hid ((s.methods.take (k + 1)).map MtS.name = (s.methods.take k).map MtS.name ++ [m0]) := by show _ = _; rw [List.take_add_one,hm]; simp
    obtain ⟨al,hal⟩ : ∃ al,(s.methods.take k).map MtS.name = al := ⟨_,rfl⟩;rw [hal] at HAk HSE HTK
    have HAL : Hid (al.length = k) := by show _ = _; rw [← hal,List.length_map,List.length_take,HLT.out]; omega
    have HA2 : Hid (A = if freshB m0 al = false then 6 else if (memB m1 s.mn && memB m2 s.mn) = false then 8 else chkTs s.mn (al ++ [m0]) (s.methods.drop (k + 1))) := by
     show _ = _
     rw [HAk.out,drop_at hm]; rfl
    have p0 : wr.cell? ⟨g,off + k * 3,none⟩ = some (.string m0) := (hbel.cell (World.block_lt_of_cell? _ _ C0)).trans C0;have p1 : wr.cell? ⟨g,off + k * 3 + 1,none⟩ = some (.string m1) := (hbel.cell (World.block_lt_of_cell? _ _ C1)).trans C1;have p2 : wr.cell? ⟨g,off + k * 3 + 2,none⟩ = some (.string m2) := (hbel.cell (World.block_lt_of_cell? _ _ C2)).trans C2;have ha : Below wr.heap.size wr (wr.alloc (.cells #[.string m0,.string m1,.string m2] 63)) := bra _;have BV := Blk.new wr #[.string m0,.string m1,.string m2] 63;clear C0 C1 C2 hcs hfr hm hal HAk;go_wp2_with fail;clear x3 p0 p1 p2;refine (rfresh_any m0 (by omega) (HSE.out.below ha).row).mono ?_;rintro e w1 ⟨rfl,hb1⟩;have hbw1 : Below w.heap.size w w1 := (hbel.trans (ha.mono hbel.size)).trans (hb1.mono (hbel.trans (ha.mono hbel.size)).size);have HS1 : Hid (Seen w1 w.heap.size (.slice sa k sc) al) := (HSE.out.below ha).below hb1;have BX1 := (BX.below ha).below hb1;have BV1 := BV.below hb1;clear BV ha hb1 HSE
    cases hfr : freshB m0 al with
    | false =>
     have HA4 : Hid (A = 6) := by show _ = _; rw [HA2.out,if_pos hfr]
     clear HA2;go_wp2_with fail;go_ret;exact ⟨ret_e HA4.out.symm,hbw1⟩
    | true =>
     have HA4 : Hid (A = if (memB m1 s.mn && memB m2 s.mn) = false then 8 else chkTs s.mn (al ++ [m0]) (s.methods.drop (k + 1))) := by show _ = _; rw [HA2.out,if_neg (by rw [hfr]; decide)]
     clear HA2 hfr;obtain ⟨bv,hbv⟩ : ∃ n,wr.heap.size = n := ⟨_,rfl⟩;rw [hbv] at BV1 ⊢;clear hbv hbel BX;have v0 : w1.cell? ⟨bv,0,none⟩ = some (.string m0) := BV1.cell 0
     go_wp2_with (first
      | (at_builtin; refine wpList_seen (al := al) (x := m0) rfl _ _ rfl rfl rfl HS1.out ?c1 ?c2 ?_)
      | fail)
     case c1 => exact hbw1.size
     case c2 => rw [HAL.out]; omega
     intro v' w2 hS2 hK2 hB2;obtain ⟨ta,tc,rfl⟩ := hS2.form
     have hl2 : (al ++ [m0]).length = k + 1 := by rw [List.length_append,HAL.out]; rfl
     rw [hl2] at hS2 ⊢;have HS2 : Hid (Seen w2 w.heap.size (.slice ta (k + 1) tc) (al ++ [m0])) := hS2;have HAL2 : Hid ((al ++ [m0]).length = k + 1) := hl2;have hb2 : Below w.heap.size w w2 := hbw1.trans hB2;have BX2 := BX1.kp hK2 (fun e => absurd (own_type HS1.out e BX1) (by decide));have BV2 := BV1.kp hK2 (fun e => absurd (own_type HS1.out e BV1) (by decide));clear v0 hS2 hl2 hK2 hB2 BX1 BV1 HS1 hbw1 HAL;have b0 : (w2).cell? ⟨w.heap.size,0,none⟩ = some (.string nm) := BX2.cell 0;have b1 : (w2).cell? ⟨w.heap.size,1,none⟩ = some (.slice am M cm) := BX2.cell 1;have b2 : (w2).cell? ⟨w.heap.size,2,none⟩ = some (.slice ae E ce) := BX2.cell 2;have b3 : (w2).cell? ⟨w.heap.size,3,none⟩ = some (.slice (some ⟨g,off,none⟩) T ct) := BX2.cell 3;have b4 : (w2).cell? ⟨bv,1,none⟩ = some (.string m1) := BV2.cell 1;go_wp2_with fail;refine (r7message_any (HM.out.below hb2)).mono ?_;rintro e wv ⟨vf,vr,rfl,h1,h2,hb⟩;rw [find_mn];obtain ⟨ya,yc,rfl,_,_⟩ := h1.form2;obtain ⟨yd,ye,rfl,_,_⟩ := h2.form2;generalize ((s.msgs.find? fun x => decide (x.name = m1)).getD zeroM).name = yn at *;generalize (flRows ((s.msgs.find? fun x => decide (x.name = m1)).getD zeroM).fields).length = yF at *;generalize (inRows ((s.msgs.find? fun x => decide (x.name = m1)).getD zeroM).reserved).length = yR at *;have ha : Below wv.heap.size wv (wv.alloc (.cells #[.string yn,.slice ya yF yc,.slice yd yR ye] 52)) := bra _;have hbwv : Below w.heap.size w (wv.alloc (.cells #[.string yn,.slice ya yF yc,.slice yd yR ye] 52)) := (hb2.trans (hb.mono hb2.size)).trans (ha.mono (hb2.trans (hb.mono hb2.size)).size);have BXwv := (BX2.below hb).below ha;have BVwv := (BV2.below hb).below ha;have HSwv : Hid (Seen (wv.alloc (.cells #[.string yn,.slice ya yF yc,.slice yd yR ye] 52)) w.heap.size (.slice ta (k + 1) tc) (al ++ [m0])) := Seen.below (Seen.below HS2.out hb) ha;obtain ⟨yB,hyB⟩ : ∃ B,memB m1 (s.msgs.map MsS.name) = B := ⟨_,rfl⟩;rw [hyB];have HyB : Hid (memB m1 s.mn = yB) := hyB;clear b0 b1 b2 b3 b4 h1 h2 hb hb2 BX2 BV2 ha hyB;have b0 : (wv.alloc (.cells #[.string yn,.slice ya yF yc,.slice yd yR ye] 52)).cell? ⟨w.heap.size,0,none⟩ = some (.string nm) := BXwv.cell 0;have b1 : (wv.alloc (.cells #[.string yn,.slice ya yF yc,.slice yd yR ye] 52)).cell? ⟨w.heap.size,1,none⟩ = some (.slice am M cm) := BXwv.cell 1;have b2 : (wv.alloc (.cells #[.string yn,.slice ya yF yc,.slice yd yR ye] 52)).cell? ⟨w.heap.size,2,none⟩ = some (.slice ae E ce) := BXwv.cell 2;have b3 : (wv.alloc (.cells #[.string yn,.slice ya yF yc,.slice yd yR ye] 52)).cell? ⟨w.heap.size,3,none⟩ = some (.slice (some ⟨g,off,none⟩) T ct) := BXwv.cell 3;have b4 : (wv.alloc (.cells #[.string yn,.slice ya yF yc,.slice yd yR ye] 52)).cell? ⟨bv,2,none⟩ = some (.string m2) := BVwv.cell 2;go_wp2_with fail;refine (r7message_any (HM.out.below hbwv)).mono ?_;rintro e wx ⟨vf,vr,rfl,h1,h2,hb⟩;rw [find_mn];obtain ⟨za,zc,rfl,_,_⟩ := h1.form2;obtain ⟨zd,ze,rfl,_,_⟩ := h2.form2;generalize ((s.msgs.find? fun x => decide (x.name = m2)).getD zeroM).name = zn at *;generalize (flRows ((s.msgs.find? fun x => decide (x.name = m2)).getD zeroM).fields).length = zF at *;generalize (inRows ((s.msgs.find? fun x => decide (x.name = m2)).getD zeroM).reserved).length = zR at *;have ha : Below wx.heap.size wx (wx.alloc (.cells #[.string zn,.slice za zF zc,.slice zd zR ze] 52)) := bra _;have hbwx : Below w.heap.size w (wx.alloc (.cells #[.string zn,.slice za zF zc,.slice zd zR ze] 52)) := (hbwv.trans (hb.mono hbwv.size)).trans (ha.mono (hbwv.trans (hb.mono hbwv.size)).size);have BXwx := (BXwv.below hb).below ha;have BVwx := (BVwv.below hb).below ha;have HSwx : Hid (Seen (wx.alloc (.cells #[.string zn,.slice za zF zc,.slice zd zR ze] 52)) w.heap.size (.slice ta (k + 1) tc) (al ++ [m0])) := Seen.below (Seen.below HSwv.out hb) ha;obtain ⟨zB,hzB⟩ : ∃ B,memB m2 (s.msgs.map MsS.name) = B := ⟨_,rfl⟩;rw [hzB];have HzB : Hid (memB m2 s.mn = zB) := hzB;clear b0 b1 b2 b3 b4 h1 h2 hb hbwv BXwv BVwv ha hzB
     cases yB with
     | false =>
      have HA5 : Hid (A = 8) := by show _ = _; rw [HA4.out,if_pos (by rw [HyB.out]; rfl)]
      clear HA4;go_wp2_with fail;go_ret;exact ⟨ret_e HA5.out.symm,hbwx⟩
     | true =>
      cases zB with
      | false =>
       have HA5 : Hid (A = 8) := by show _ = _; rw [HA4.out,if_pos (by rw [HyB.out,HzB.out]; rfl)]
       clear HA4;go_wp2_with fail;go_ret;exact ⟨ret_e HA5.out.symm,hbwx⟩
      | true =>
       have HA5 : Hid (A = chkTs s.mn ((s.methods.take (k + 1)).map MtS.name) (s.methods.drop (k + 1))) := by show _ = _; rw [HA4.out,if_neg (by rw [HyB.out,HzB.out]; decide),HTK.out]
       have HS4 : Hid (Seen (wx.alloc (.cells #[.string zn,.slice za zF zc,.slice zd zR ze] 52)) w.heap.size (.slice ta (k + 1) tc) ((s.methods.take (k + 1)).map MtS.name)) := by show Seen _ _ _ _; rw [HTK.out]; exact HSwx.out
       clear HA4;go_wp2_with fail
       go_roundw
       case rel => exact ⟨k + 1,ta,tc,rfl,by go_num,by omega,HA5,HS4,hbwx,BXwx⟩
       case measure => simp [intOf]; omega
   ·have HA3 : Hid (A = 0) := by show _ = _; rw [HAk.out,drop_end (by rw [HLT.out]; omega)]; rfl
    clear HAk;go_wp2_with fail;go_ret;exact ⟨ret_e HA3.out.symm,hbel⟩
theorem rcheck_any {w : World} {v : Value} {s : ScS} (hr : ScIn w v s) (hfs : FewS s) :
  Calls Tryz.prog 15 #[v] w fun e w' => e = .returned (.int .i64 (checkA s)) ∧ Below w.heap.size w w' := rcheck_may hr hfs.mayS
end
section
open Go.ChangeShapes Go.WideShapes Go.ChangeAt Go.RowKit
theorem rcheckV_any (t k n : Int) (b : ByteArray) (w : World) :
  Calls Tryz.prog 95 #[.agg #[.int .i64 t,.int .i64 k,.int .i64 n,.string b]] w fun e w' => e = .returned (.bool (okV t k n b)) ∧ Below w.heap.size w w' := by
 by_cases h1 : 1 ≤ t
 ·by_cases h2 : t ≤ 500
  ·by_cases hk : k = 0
   ·subst hk
    go_enter Tryz.func95,Tryz.ntmps95
    go_wp2_with fail
    all_goals
     go_ret;exact ⟨ret_boolF (by simp [okV,h1,h2]),bra _⟩
   ·by_cases hk1 : k = 1
    ·subst hk1
     by_cases hn : n = 0
     ·subst hn
      go_enter Tryz.func95,Tryz.ntmps95
      go_wp2_with fail
      all_goals
       go_ret;exact ⟨ret_boolF (by simp [okV,h1,h2]),bra _⟩
     ·go_enter Tryz.func95,Tryz.ntmps95
      go_wp2_with fail
      all_goals
       go_ret;exact ⟨ret_boolF (by simp [okV,hn]),bra _⟩
    ·have e0 : (k == 0) = false := by simp [hk]
     have e1 : (k == 1) = false := by simp [hk1]
     go_enter Tryz.func95,Tryz.ntmps95
     go_wp2_with fail
     all_goals
      go_ret;exact ⟨ret_boolF (by simp [okV,hk,hk1]),bra _⟩
  ·have hok : okV t k n b = false := by simp [okV]; omega
   rw [hok];clear hok
   have hd : decide (t < 1) = false := by simp; omega
   have hd5 : decide (500 < t) = true := by simp; omega
   go_enter Tryz.func95,Tryz.ntmps95
   go_wp2_with fail
   all_goals
    go_ret;exact ⟨rfl,bra _⟩
 ·have hok : okV t k n b = false := by simp [okV]; omega
  rw [hok];clear hok
  have hd : decide (t < 1) = true := by simp; omega
  go_enter Tryz.func95,Tryz.ntmps95
  go_wp2_with fail
  all_goals
   go_ret;exact ⟨rfl,bra _⟩
theorem rcheckF_any (r : Fd) (w : World) : Calls Tryz.prog 95 #[r.val] w fun e w' => e = .returned (.bool (okF r)) ∧ Below w.heap.size w w' := rcheckV_any _ _ _ _ w
theorem own_holds {B : Nat} {w : World} {r : Value} {n : Nat} {ns : List Nat} (ho : w.ownsRow B 5 1 r n (byteCells ns)) : ∃ a c,r = .slice a ns.length c ∧ (a = none → ns = [] ∧ c = 0) ∧ Holds w a ns := by
 obtain ⟨a,c,rfl, -,h1, -, -,h4⟩ := own_open ho;refine ⟨a,c,rfl,?_,h4⟩
 rcases h1 with h | ⟨g,h,_⟩
 ·exact fun _ => h.2
 ·exact fun e => by rw [h] at e; cases e
theorem rfield_num (t : Nat) (n : Int) (b : ByteArray) (w : World) (h1 : 1 ≤ t) (h2 : t ≤ 500) (h3 : -9223372036854775808 ≤ n) (h4 : n ≤ 9223372036854775807) :
  Calls Tryz.prog 96 #[.agg #[.int .i64 (t : Int),.int .i64 0,.int .i64 n,.string b]] w fun e w' => ∃ v,e = .returned v ∧
   w'.ownsRow w.heap.size 5 1 v (digs (2 * t) ++ digs (zigN n).toNat).length (byteCells (digs (2 * t) ++ digs (zigN n).toNat)) ∧ Below w.heap.size w w' := by
 have hz := zigN_bd n h3 h4;have l1 := digs_len64 (2 * t) (by omega);have hp := fun W => rput_any (2 * t) W (by omega)
 have HP : Hid (∀ W z,z = ((2 * t : Nat) : Int) → Calls Tryz.prog 118 #[.int .u64 z] W fun e w' => ∃ r,e = .returned r ∧ w'.ownsRow W.heap.size 5 1 r (digs (2 * t)).length (byteCells (digs (2 * t))) ∧ Below W.heap.size W w') := fun W z hz => by subst hz; exact hp W
 obtain ⟨z,hzz⟩ := Int.eq_ofNat_of_zero_le hz.1;have l2 := digs_len64 z (by omega);have HP2 : Hid (∀ W,Calls Tryz.prog 118 #[.int .u64 (z : Int)] W fun e w' => ∃ r,e = .returned r ∧ w'.ownsRow W.heap.size 5 1 r (digs z).length (byteCells (digs z)) ∧ Below W.heap.size W w') := fun W => rput_any z W (by omega)
 obtain ⟨R,hR⟩ : ∃ R,digs (2 * t) ++ digs (zigN n).toNat = R := ⟨_,rfl⟩;rw [hR]
 have HR : Hid (digs (2 * t) ++ digs z = R) := by show _ = _; rw [← hR,hzz,Int.toNat_natCast]
 have HZ : Hid (zigN n = (z : Int)) := hzz;clear hR hp hz hzz;generalize digs (2 * t) = ds at *;generalize digs z = es at *;have HL1 : Hid (ds.length ≤ 10) := l1.2;have HL2 : Hid (es.length ≤ 10) := l2.2;clear l1 l2
 go_enter Tryz.func96,Tryz.ntmps96
 go_wp2_with fail;refine (HP.out _ _ (by omega)).mono ?_;rintro e w1 ⟨r1,rfl,ho1,hb⟩;have hb0 : Below w.heap.size w w1 := (below_one w _).trans (hb.mono (by simp))
 have hcell : w1.cell? ⟨w.heap.size,1,none⟩ = some (.int .i64 0) := by rw [hb.cell (by simp)]; simp
 have hcell2 : w1.cell? ⟨w.heap.size,2,none⟩ = some (.int .i64 n) := by rw [hb.cell (by simp)]; simp
 have HO1 : Hid (w1.ownsRow w.heap.size 5 1 r1 ds.length (byteCells ds)) := own_mono ho1 (by simp);clear ho1 hb HP;go_wp2_with fail;refine (rzig_any n _ h3 h4).mono ?_;rintro e w2 ⟨rfl,rfl⟩;rw [HZ.out];go_wp2_with fail;refine (HP2.out _).mono ?_;rintro e w3 ⟨r3,rfl,ho3,hb3⟩;have hb3' : Below w.heap.size w w3 := hb0.trans (hb3.mono hb0.size);have HO3 := own_belowH HO1 hb3;obtain ⟨a3,c3,rfl,hn3,hh3⟩ := own_holds ho3;have HN3 : Hid (a3 = none → es = [] ∧ c3 = 0) := hn3;have HH3 : Hid (Holds w3 a3 es) := hh3;obtain ⟨M,hM⟩ : ∃ M,es.length = M := ⟨_,rfl⟩;rw [hM];have HM : Hid (M = es.length) := hM.symm;clear HP2 HO1 ho3 hb3 hn3 hh3 hb0 hM hcell hcell2
 go_wp2_with (first
  | (at_builtin; refine wpList_join rfl _ _ rfl w.heap.size _ _ ds rfl HO3.out a3 es M c3 rfl HM.out HN3.out HH3.out ?c1 ?c2 ?_)
  | fail)
 case c1 => have := HL1.out; have := HL2.out; omega
 case c2 => exact hb3'.size
 intro v w4 ho4 hg4;have hb4 : Below w.heap.size w w4 := hb3'.grown hg4 hb3'.size (fun k hk => (HO3.out.lt k hk).1)
 have HO4 : Hid (w4.ownsRow w.heap.size 5 1 v R.length (byteCells R)) := by
  show World.ownsRow _ _ _ _ _ _ _
  have e : ds.length + es.length = R.length := by rw [← HR.out,List.length_append]
  rw [HR.out,e] at ho4;exact ho4
 clear ho4 hg4 HO3;go_wp2_with fail;go_ret;exact ⟨_,rfl,HO4.out,hb4⟩
theorem rfield_text (t : Nat) (n : Int) (b : ByteArray) (w : World) (h1 : 1 ≤ t) (h2 : t ≤ 500) (h3 : b.size ≤ 4096) :
  Calls Tryz.prog 96 #[.agg #[.int .i64 (t : Int),.int .i64 1,.int .i64 n,.string b]] w fun e w' => ∃ v,e = .returned v ∧
   w'.ownsRow w.heap.size 5 1 v (digs (2 * t + 1) ++ (digs b.size ++ bytesN b)).length (byteCells (digs (2 * t + 1) ++ (digs b.size ++ bytesN b))) ∧ Below w.heap.size w w' := by
 obtain ⟨i0,hi,hz0,hz1,hz2⟩ := info_parts infoByte;have l1 := digs_len64 (2 * t + 1) (by omega);have l2 := digs_len64 b.size (by omega);have hp := fun W => rput_any (2 * t + 1) W (by omega)
 have HP : Hid (∀ W z,z = ((2 * t + 1 : Nat) : Int) → Calls Tryz.prog 118 #[.int .u64 z] W fun e w' => ∃ r,e = .returned r ∧ w'.ownsRow W.heap.size 5 1 r (digs (2 * t + 1)).length (byteCells (digs (2 * t + 1))) ∧ Below W.heap.size W w') := fun W z hz => by subst hz; exact hp W
 have HP2 : Hid (∀ W z,z = (b.size : Int) → Calls Tryz.prog 118 #[.int .u64 z] W fun e w' => ∃ r,e = .returned r ∧ w'.ownsRow W.heap.size 5 1 r (digs b.size).length (byteCells (digs b.size)) ∧ Below W.heap.size W w') := fun W z hz => by subst hz; exact rput_any b.size W (by omega)
 obtain ⟨R,hR⟩ : ∃ R,digs (2 * t + 1) ++ (digs b.size ++ bytesN b) = R := ⟨_,rfl⟩;rw [hR];have HR : Hid (digs (2 * t + 1) ++ (digs b.size ++ bytesN b) = R) := hR;clear hR hp;generalize digs (2 * t + 1) = ds at *;generalize digs b.size = es at *;have HL1 : Hid (ds.length ≤ 10) := l1.2;have HL2 : Hid (es.length ≤ 10) := l2.2;clear l1 l2
 go_enter Tryz.func96,Tryz.ntmps96
 go_wp2_with fail;refine (HP.out _ _ (by omega)).mono ?_;rintro e w1 ⟨r1,rfl,ho1,hb⟩;have hb0 : Below w.heap.size w w1 := (below_one w _).trans (hb.mono (by simp))
 have hcell : w1.cell? ⟨w.heap.size,1,none⟩ = some (.int .i64 1) := by rw [hb.cell (by simp)]; simp
 have hcell3 : w1.cell? ⟨w.heap.size,3,none⟩ = some (.string b) := by rw [hb.cell (by simp)]; simp
 have hlt : w.heap.size < w1.heap.size := by have := hb.size; simp at this; omega
 have HO1 : Hid (w1.ownsRow (w.heap.size + 1) 5 1 r1 ds.length (byteCells ds)) := own_mono ho1 (by simp);clear ho1 hb HP;go_wp2_with fail;refine (HP2.out _ _ (by omega)).mono ?_;rintro e w3 ⟨r3,rfl,ho3,hb3⟩;have hb3' : Below w.heap.size w w3 := hb0.trans (hb3.mono hb0.size);have HO3 := own_belowH HO1 hb3
 have hc33 : w3.cell? ⟨w.heap.size,3,none⟩ = some (.string b) := by rw [hb3.cell hlt]; exact hcell3
 have hlt3 : w.heap.size < w3.heap.size := Nat.lt_of_lt_of_le hlt hb3.size;obtain ⟨a3,c3,rfl,hn3,hh3⟩ := own_holds ho3;have HN3 : Hid (a3 = none → es = [] ∧ c3 = 0) := hn3;have HH3 : Hid (Holds w3 a3 es) := hh3;obtain ⟨M,hM⟩ : ∃ M,es.length = M := ⟨_,rfl⟩;rw [hM];have HM : Hid (M = es.length) := hM.symm;clear HP2 HO1 ho3 hb3 hn3 hh3 hb0 hM hcell hcell3
 go_wp2_with (first
  | (at_builtin; refine wpList_join rfl _ _ rfl (w.heap.size + 1) _ _ ds rfl HO3.out a3 es M c3 rfl HM.out HN3.out HH3.out ?c1 ?c2 ?_)
  | fail)
 case c1 => have := HL1.out; have := HL2.out; omega
 case c2 => omega
 intro v4 w4 ho4 hg4;have hb4 : Below w.heap.size w w4 := hb3'.grown hg4 hb3'.size (fun k hk => Nat.le_trans (Nat.le_succ _) (HO3.out.lt k hk).1);have hc43 : w4.cell? ⟨w.heap.size,3,none⟩ = some (.string b) := hg4.cell hc33 (by intro e; exact Nat.not_succ_le_self _ (HO3.out.lt _ e.symm).1)
 have HO4 : Hid (w4.ownsRow w.heap.size 5 1 v4 (ds ++ es).length (byteCells (ds ++ es))) := by
  show World.ownsRow _ _ _ _ _ _ _
  rw [← List.length_append] at ho4;exact own_mono ho4 (Nat.le_succ _)
 obtain ⟨K,hK⟩ : ∃ K,(ds ++ es).length = K := ⟨_,rfl⟩
 have hK20 : K ≤ 20 := by rw [← hK,List.length_append]; have := HL1.out; have := HL2.out; omega
 have HK : Hid ((ds ++ es).length = K) := hK;rw [hK] at HO4;clear ho4 hg4 HO3 hK hc33
 go_wp2_with (first
  | (at_builtin; refine Lib.wpList_append_own_string _ rfl _ _ 43 9 rfl w.heap.size 5 i0 Tryz.underlying43 Tryz.underlying9 hi hz0 hz1 hz2 _ _ _ rfl HO4.out b rfl ?d1 ?d2 ?d3 ?_)
  | fail)
 case d1 => unfold maxLen; omega
 case d2 => omega
 case d3 => exact hb4.size
 intro v5 w5 ho5 hg5 _;have hb5 : Below w.heap.size w w5 := hb4.grown hg5 hb4.size (fun k hk => (HO4.out.lt k hk).1)
 have HO5 : Hid (w5.ownsRow w.heap.size 5 1 v5 R.length (byteCells R)) := by
  show World.ownsRow _ _ _ _ _ _ _
  have e : K + b.size = R.length := by rw [← HR.out,← HK.out]; simp [bytesN_len]; omega
  rw [strCells_bytes,← byteCells_app,List.append_assoc,HR.out,e] at ho5;exact ho5
 clear ho5 hg5 HO4;go_wp2_with fail;go_ret;exact ⟨_,rfl,HO5.out,hb5⟩
theorem rfield_any (r : Fd) (w : World) (h : okF r = true) (hn : Is64 r.n) :
  Calls Tryz.prog 96 #[r.val] w fun e w' => ∃ v,e = .returned v ∧ w'.ownsRow w.heap.size 5 1 v (fieldN r).length (byteCells (fieldN r)) ∧ Below w.heap.size w w' := by
 rcases ok_cases h hn with ⟨t,n,rfl,h1,h2,h3⟩ | ⟨t,b,rfl,h1,h2,h3⟩
 ·rw [fieldN_num]; exact rfield_num t n _ w h1 h2 h3.1 h3.2
 ·rw [fieldN_text]; exact rfield_text t 0 b w h1 h2 h3
theorem rputall_any (a : Option Addr) (rs : List Fd) (N cap : Nat) (w : World) (hN : rs.length = N) (hadr : rs = [] ∨ ∃ g off,a = some ⟨g,off,none⟩) (hc : N ≤ cap) (hm : cap ≤ maxLen) (hl : N ≤ 1000000) (hh : HoldsR w a rs) (h64 : ∀ r ∈ rs,Is64 r.n) :
  Calls Tryz.prog 60 #[.slice a N cap] w fun e w' => ∃ v,e = .returned (.tuple #[v,.int .i64 ((putL rs).2 : Int)]) ∧ w'.ownsRow w.heap.size 5 1 v (putL rs).1.length (byteCells (putL rs).1) ∧ Below w.heap.size w w' := by
 have HN : Hid (rs.length = N) := hN;have HA : Hid (rs = [] ∨ ∃ g off,a = some ⟨g,off,none⟩) := hadr;have HH : Hid (HoldsR w a rs) := hh;have H64 : Hid (∀ r ∈ rs,Is64 r.n) := h64;obtain ⟨R,hR⟩ : ∃ R,putL rs = R := ⟨_,rfl⟩;rw [hR];have HR : Hid (putL rs = R) := hR;unfold maxLen at hm;clear hN hadr hh h64 hR
 go_enter Tryz.func60,Tryz.ntmps60
 go_wp2_with fail
 go_loopw [5] (fun iv wr => ∃ i : Nat,iv = .int .i64 (i : Int) ∧ i ≤ N ∧ Hid ((rs.take i).all okF = true) ∧ Below w.heap.size w wr) (fun iv _ => N - (intOf iv).toNat)
 case atStart => exact ⟨0,rfl,by omega,(by rfl : ((rs.take 0).all okF = true)),Below.refl _ _⟩
 case round =>
  obtain ⟨i,rfl,hi,HT,hbel⟩ := hrel;have hws := hbel.size
  by_cases hlt : i < N
  ·have hr : rs[i]? = some (rs[i]'(by rw [HN.out]; exact hlt)) := List.getElem?_eq_getElem _;generalize rs[i]'(by rw [HN.out]; exact hlt) = r at hr
   rcases HA.out with h0 | ⟨g,off,rfl⟩
   ·exact absurd hlt (by have := HN.out; rw [h0] at this; simp at this; omega)
   obtain ⟨p0,p1,p2,p3⟩ := (HH.out.below hbel).at hr;have HK : Hid (rs[i]? = some r) := hr;obtain ⟨ok,hok⟩ : ∃ b,okF r = b := ⟨_,rfl⟩;have HOK : Hid (okF r = ok) := hok
   have HCK : Hid (∀ W,Calls Tryz.prog 95 #[.agg #[.int .i64 r.tag,.int .i64 r.wire,.int .i64 r.n,.string r.b]] W fun e w' => e = .returned (.bool ok) ∧ Below W.heap.size W w') := fun W => by rw [← hok]; exact rcheckF_any r W
   clear hr hok;generalize r.tag = t at p0 HCK;generalize r.wire = k at p1 HCK;generalize r.n = n at p2 HCK;generalize r.b = b at p3 HCK;go_wp2_with fail;refine (HCK.out _).mono ?_;rintro e w1 ⟨rfl,hb1⟩;have hb1' : Below w.heap.size w w1 := hbel.trans (hb1.mono hws);clear hb1 p0 p1 p2 p3 HCK hbel
   cases ok with
   | true =>
    have HT2 : Hid ((rs.take (i + 1)).all okF = true) := by
     show _ = _
     rw [all_take_snoc HK.out,List.all_append,HT.out,List.all_cons,HOK.out,List.all_nil]
     rfl
    clear HT HK HOK;go_wp2_with fail
    go_roundw
    case rel => exact ⟨i + 1,by go_num,by omega,HT2,hb1'⟩
    case measure => simp [intOf]; omega
   | false =>
    obtain rfl : R = ([],1) := by rw [← HR.out]; exact putL_bad (all_bad HK.out HOK.out)
    clear HT HK HOK HR;go_wp2_with fail
    go_ret2
    exact ⟨_,rfl,World.ownsRow_nil _ _ _ _,hb1'⟩
  ·obtain rfl : i = N := by omega
   have HALL : Hid (rs.all okF = true) := by
    have := HT.out;rw [List.take_of_length_le (by rw [HN.out]; exact Nat.le_refl _)] at this;exact this
   clear HT;go_wp2_with fail
   go_loopw [4,6] (fun out iv wr' => ∃ i' : Nat,iv = .int .i64 (i' : Int) ∧ i' ≤ i ∧ Hid ((flatN (rs.take i')).length ≤ 4096) ∧ Hid (wr'.ownsRow w.heap.size 5 1 out (flatN (rs.take i')).length (byteCells (flatN (rs.take i')))) ∧ Below w.heap.size w wr') (fun _ iv _ => i - (intOf iv).toNat)
   case atStart => exact ⟨0,rfl,by omega,(by rw [List.take_zero,flatN_nil]; decide : (flatN (rs.take 0)).length ≤ 4096),by rw [List.take_zero,flatN_nil]; exact World.ownsRow_nil _ _ _ _,hbel⟩
   case round =>
    obtain ⟨j,rfl,hj,HL,HO,hbel2⟩ := hrel;have hws2 := hbel2.size
    by_cases hlt2 : j < i
    ·have hr : rs[j]? = some (rs[j]'(by rw [HN.out]; exact hlt2)) := List.getElem?_eq_getElem _;generalize rs[j]'(by rw [HN.out]; exact hlt2) = r at hr
     rcases HA.out with h0 | ⟨g,off,rfl⟩
     ·exact absurd hlt2 (by have := HN.out; rw [h0] at this; simp at this; omega)
     obtain ⟨p0,p1,p2,p3⟩ := (HH.out.below hbel2).at hr;have hmem : r ∈ rs := List.mem_of_getElem? hr;have hrok : okF r = true := List.all_eq_true.1 HALL.out r hmem;have hr64 := H64.out r hmem;have hfl := (fieldN_len hrok hr64).2;have HFD : Hid (∀ W,Calls Tryz.prog 96 #[.agg #[.int .i64 r.tag,.int .i64 r.wire,.int .i64 r.n,.string r.b]] W fun e w' => ∃ v,e = .returned v ∧ w'.ownsRow W.heap.size 5 1 v (fieldN r).length (byteCells (fieldN r)) ∧ Below W.heap.size W w') := fun W => rfield_any r W hrok hr64
     have HF1 : Hid (flatN (rs.take (j + 1)) = flatN (rs.take j) ++ fieldN r) := by
      show _ = _
      rw [all_take_snoc hr,flatN_app,flatN_cons,flatN_nil,List.append_nil]
     clear hr hmem hrok hr64;generalize r.tag = t at p0 HFD;generalize r.wire = k at p1 HFD;generalize r.n = n at p2 HFD;generalize r.b = b at p3 HFD;generalize fieldN r = fs at *;have HLF : Hid (fs.length ≤ 4116) := hfl;clear hfl;obtain ⟨F,hF⟩ : ∃ F,flatN (rs.take j) = F := ⟨_,rfl⟩;rw [hF] at HL HO HF1;clear hF;go_wp2_with fail;refine (HFD.out _).mono ?_;rintro e w1 ⟨v1,rfl,ho1,hb1⟩;have hb1' : Below w.heap.size w w1 := hbel2.trans (hb1.mono hws2);have HO1 := own_belowH HO hb1;obtain ⟨a2,cap2,rfl, -,h21,h22,h23,h24⟩ := own_open ho1;have HH2 : Hid (Holds w1 a2 fs) := h24
     have HA2 : Hid (a2 = none → fs = [] ∧ cap2 = 0) := by
      rcases h21 with h | ⟨g',h,_⟩
      ·exact fun _ => ⟨h.2.1,h.2.2⟩
      ·exact fun e => by rw [h] at e; cases e
     clear HO ho1 hb1 h21 h22 h23 h24 p0 p1 p2 p3 HFD hbel2;obtain ⟨M,hM⟩ : ∃ M,fs.length = M := ⟨_,rfl⟩;rw [hM];have HM : Hid (M = fs.length) := hM.symm;clear hM
     go_wp2_with (first
      | (at_builtin; refine wpList_join rfl _ _ rfl w.heap.size _ _ F rfl HO1.out a2 fs M cap2 rfl HM.out HA2.out HH2.out ?c1 ?c2 ?_)
      | fail)
     case c1 => have := HL.out; have := HLF.out; omega
     case c2 => exact hb1'.size
     intro v3 w3 ho3 hg3;have hb3 : Below w.heap.size w w3 := hb1'.grown hg3 hb1'.size (fun k hk => (HO1.out.lt k hk).1);obtain ⟨a3,cap3,rfl, -,h31,h32,h33,h34⟩ := own_open ho3
     have e0 : F.length + fs.length = (flatN (rs.take (j + 1))).length := by rw [HF1.out,List.length_append]
     rw [← HF1.out] at ho3 ⊢;rw [e0] at ho3;clear e0;have HO3 : Hid (w3.ownsRow w.heap.size 5 1 (.slice a3 (flatN (rs.take (j + 1))).length cap3) (flatN (rs.take (j + 1))).length (byteCells (flatN (rs.take (j + 1))))) := ho3;clear ho3 hg3 h31 h32 h33 h34 HO1 HH2 HA2 HM HL HLF HF1 hb1'
     by_cases hbig : 4096 < (flatN (rs.take (j + 1))).length
     ·obtain rfl : R = ([],4) := by rw [← HR.out]; exact putL_big HALL.out (Nat.lt_of_lt_of_le hbig (flat_take_le rs _))
      clear HR HO3;generalize (flatN (rs.take (j + 1))).length = L at *;go_wp2_with fail
      go_ret2
      exact ⟨_,rfl,World.ownsRow_nil _ _ _ _,hb3⟩
     ·have HL3 : Hid ((flatN (rs.take (j + 1))).length ≤ 4096) := by show _ ≤ _; omega
      obtain ⟨L,hLL⟩ : ∃ L,(flatN (rs.take (j + 1))).length = L := ⟨_,rfl⟩
      have hbig' : ¬ 4096 < L := by omega
      rw [hLL];have HLL : Hid ((flatN (rs.take (j + 1))).length = L) := hLL;clear hbig hLL;go_wp2_with fail
      go_roundw
      case rel => exact ⟨j + 1,by go_num,by omega,HL3,by rw [← HLL.out]; exact HO3,hb3⟩
      case measure => simp [intOf]; omega
    ·obtain rfl : j = i := by omega
     have hF : flatN (rs.take j) = flatN rs := by rw [List.take_of_length_le (by rw [HN.out]; exact Nat.le_refl _)]
     rw [hF] at HL HO
     obtain rfl : R = (flatN rs,0) := by rw [← HR.out]; exact putL_ok HALL.out HL.out
     clear HR hF;go_wp2_with fail
     go_ret2
     exact ⟨_,rfl,HO.out,hbel2⟩
theorem kept_cellV {w : World} {a : Addr} {u : Value} (h : w.cell? a = some u) (x : Kept w.heap.size w) : x.w.cell? a = some u := by
 rw [x.below.cell (World.block_lt_of_cell? _ _ h)]; exact h
theorem has_step {es : List (Int × List Tr)} {i : Nat} {e : Int × List Tr} {tag : Int} (h : es[i]? = some e) : hasB (es.take (i + 1)) tag = (hasB (es.take i) tag || e.1 == tag) := by
 have : es.take (i + 1) = es.take i ++ [e] := by rw [List.take_add_one,h]; rfl
 rw [this]; simp [hasB]
theorem has_yes {es : List (Int × List Tr)} {i : Nat} {e : Int × List Tr} (h : es[i]? = some e) : hasB es e.1 = true := by
 simp only [hasB,List.any_eq_true,beq_iff_eq];exact ⟨e,List.mem_of_getElem? h,rfl⟩
theorem rhas_any (n : Nat) (t : Tr) (v : Value) (tag : Int) (w : World) (ht : TrIn (n + 1) w v t) :
  Calls Tryz.prog 114 #[v,.int .i64 tag] w fun e w' => e = .returned (.bool (hasB t.es tag)) ∧ Below w.heap.size w w' := by
 obtain ⟨n',ve,vr,e0,rfl,ka,na,sa,fa,ra,ea⟩ := ht.open
 obtain rfl : n' = n := by omega
 clear e0 ht;obtain ⟨pe,ce,rfl,u1,u2, -⟩ := ea.open;obtain ⟨pr,cr,rfl,x1,x2, -⟩ := rest_holds ra;unfold maxLen at u2 x2;obtain ⟨Ke,hKe⟩ : ∃ K,t.es.length = K := ⟨_,rfl⟩;rw [hKe] at u1 ⊢;have EA : Hid (EnsIn n' w (.slice pe Ke ce) t.es) := hid (by rw [← hKe]; exact ea);have HKe : Hid (t.es.length = Ke) := hKe;clear hKe ea ra fa ka na sa;obtain ⟨A,hA⟩ : ∃ A,hasB t.es tag = A := ⟨_,rfl⟩;rw [hA];have HA : Hid (hasB t.es tag = A) := hA;clear hA;generalize t.rest.length = Kr at *;generalize t.kind = K at *;generalize t.n = N at *;generalize t.s = S at *;have B0 : Blk (w.alloc (Obj.cells #[.int .i64 K,.int .i64 N,.string S,.slice pe Ke ce,.slice pr Kr cr] 30)) w.heap.size #[.int .i64 K,.int .i64 N,.string S,.slice pe Ke ce,.slice pr Kr cr] 30 := Blk.new w _ _;have hb0 : Below w.heap.size w (w.alloc (Obj.cells #[.int .i64 K,.int .i64 N,.string S,.slice pe Ke ce,.slice pr Kr cr] 30)) := bra _
 go_enter Tryz.func114,Tryz.ntmps114
 go_wp2_with fail;generalize (w.alloc (Obj.cells #[.int .i64 K,.int .i64 N,.string S,.slice pe Ke ce,.slice pr Kr cr] 30)) = WA at *;obtain ⟨b0,hb0'⟩ : ∃ b,w.heap.size = b := ⟨_,rfl⟩;rw [hb0'] at B0;rw [hb0'];have HBZ : Hid (w.heap.size = b0) := hb0';clear hb0'
 go_loopw [5] (fun iv wr => ∃ i : Nat,iv = .int .i64 (i : Int) ∧ i ≤ Ke ∧ Hid (hasB (t.es.take i) tag = false) ∧ WA = wr) (fun iv _ => Ke - (intOf iv).toNat)
 case atStart => exact ⟨0,rfl,by omega,(by simp [hasB] : hasB (t.es.take 0) tag = false),rfl⟩
 case round =>
  obtain ⟨i,rfl,hi,HM,rfl⟩ := hrel;have a3 := (B0.cell 3).trans rfl
  by_cases hlt : i < Ke
  ·obtain ⟨x,hx⟩ : ∃ r,t.es[i]? = some r := ⟨_,List.getElem?_eq_getElem (by rw [HKe.out]; exact hlt)⟩;obtain ⟨ge,off,rfl,cc⟩ := (EA.out.belowE hb0).get hx;obtain ⟨vt,p0,p1,p2,p3⟩ := ens_at cc
   by_cases hxt : x.1 = tag
   ·have HH : Hid (true = A) := (hxt ▸ has_yes hx).symm.trans HA.out
    have hq : (x.1 == tag) = true := by simpa using hxt
    clear cc p1 p2 p3 hx hxt HM;go_wp2_with fail;go_ret;exact ⟨congrArg (fun b => Ending.returned (Value.bool b)) HH.out,hb0⟩
   ·have hq : (x.1 == tag) = false := by simpa using hxt
    have HM2 : Hid (hasB (t.es.take (i + 1)) tag = false) := hid (by rw [has_step hx,HM.out,hq]; rfl);clear cc p1 p2 p3 hx hxt HM;go_wp2_with fail;clear a3 p0 hq
    go_roundw
    case rel => exact ⟨i + 1,by go_num,by omega,HM2,trivial⟩
    case measure => simp [intOf]; omega
  ·have HH : Hid (false = A) := by
    have h1 := HM.out;rw [List.take_of_length_le (by rw [HKe.out]; omega),HA.out] at h1;exact h1.symm
   clear HM;go_wp2_with fail;go_ret;exact ⟨congrArg (fun b => Ending.returned (Value.bool b)) HH.out,hb0⟩
theorem rowG_holdsW {w : World} {a : Option Addr} {N cap : Nat} {l : List Fd} (h : RowG w (.slice a N cap) 4 (fdRows l)) : HoldsR w a l := by
 obtain ⟨a',cap',e,_,_,_,h4⟩ := h.form;simp only [Value.slice.injEq] at e;obtain ⟨rfl,_,_⟩ := e;intro b hb j u hu;rw [rawCells_flat] at hu;obtain ⟨i,c,k,h1,h2,rfl⟩ := flat_inv (fdRows l) (fdr_len l) j u hu;obtain ⟨g,off,e,hc⟩ := h4 (by intro e; rw [e] at h1; simp at h1);rw [hb] at e
 cases e
 have := hc i c u k h1 h2;rw [Nat.add_assoc] at this;rw [Addr.add_lit];exact this
theorem rowG_holdsV {w : World} {a : Option Addr} {N cap : Nat} {l : List Fd} (h : RowG w (.slice a N cap) 4 (fdRows l)) : ∀ g off,a = some ⟨g,off,none⟩ → ∀ (i : Nat) (f : Fd),l[i]? = some f → w.cell? ⟨g,off + i * 4,none⟩ = some (.int .i64 f.tag) ∧ w.cell? ⟨g,off + i * 4 + 1,none⟩ = some (.int .i64 f.wire) ∧ w.cell? ⟨g,off + i * 4 + 2,none⟩ = some (.int .i64 f.n) ∧ w.cell? ⟨g,off + i * 4 + 3,none⟩ = some (.string f.b) := by
 obtain ⟨a',cap',e1,_,_,_,_,h6⟩ := rest_holds h;simp only [Value.slice.injEq] at e1;obtain ⟨rfl,_,_⟩ := e1;exact h6
theorem rest_no {rest : List Fd} {es : List (Int × List Tr)} {i : Nat} {f : Fd} (h : rest[i]? = some f) (hf : (okF f && !hasB es f.tag) = false) : restB rest es = false := by
 have : (rest.all fun f => okF f && !hasB es f.tag) = false := List.all_eq_false.2 ⟨f,List.mem_of_getElem? h,by rw [hf]; simp⟩;rw [restB,this]; rfl
theorem rest_yes {rest : List Fd} {es : List (Int × List Tr)} (h : ∀ (i : Nat) (f : Fd),i < rest.length → rest[i]? = some f → (okF f && !hasB es f.tag) = true) : restB rest es = risesB rest := by
 have : (rest.all fun f => okF f && !hasB es f.tag) = true := List.all_eq_true.2 fun f hf => by
  obtain ⟨i,hi,e⟩ := List.getElem_of_mem hf;exact h i f hi (by rw [List.getElem?_eq_getElem hi,e])
 rw [restB,this]; rfl
theorem rrest_any (n : Nat) (t : Tr) (v : Value) (w : World) (ht : TrIn (n + 1) w v t) :
  Calls Tryz.prog 88 #[v] w fun e w' => e = .returned (.bool (restB t.rest t.es)) ∧ Below w.heap.size w w' := by
 have HHS : Hid (∀ (tag : Int) W,Below w.heap.size w W → Calls Tryz.prog 114 #[v,.int .i64 tag] W fun e w' => e = .returned (.bool (hasB t.es tag)) ∧ Below W.heap.size W w') := fun tag W hW => rhas_any n t v tag W (ht.below hW)
 obtain ⟨n',ve,vr,e0,rfl,ka,na,sa,fa,ra,ea⟩ := ht.open
 obtain rfl : n' = n := by omega
 clear e0 ht;obtain ⟨pe,ce,rfl,u1,u2, -⟩ := ea.open;obtain ⟨pr,cr,rfl,x1,x2,x3, -⟩ := rest_holds ra;obtain ⟨Kr,hKr⟩ : ∃ K,t.rest.length = K := ⟨_,rfl⟩;rw [hKr] at x1 HHS ⊢;have RA : Hid (RowG w (.slice pr Kr cr) 4 (fdRows t.rest)) := hid (by rw [← hKr]; exact ra);have HKr : Hid (t.rest.length = Kr) := hKr;have HRR : Hid (∀ W,Below w.heap.size w W → Calls Tryz.prog 115 #[.slice pr Kr cr] W fun e w' => e = .returned (.bool (risesB t.rest)) ∧ Below W.heap.size W w') := fun W hW => rrising_any pr t.rest Kr cr W hKr x3 x1 x2 (rowG_holdsW (RA.out.below hW))
 have HX3 : Hid (t.rest = [] ∨ ∃ g off,pr = some ⟨g,off,none⟩) := x3;unfold maxLen at u2 x2;clear hKr ea ra fa ka na sa x3;obtain ⟨A,hA⟩ : ∃ A,restB t.rest t.es = A := ⟨_,rfl⟩;rw [hA];have HA : Hid (restB t.rest t.es = A) := hA;clear hA;generalize t.es.length = Ke at *;generalize t.kind = K at *;generalize t.n = N at *;generalize t.s = S at *;have B0 : Blk (w.alloc (Obj.cells #[.int .i64 K,.int .i64 N,.string S,.slice pe Ke ce,.slice pr Kr cr] 30)) w.heap.size #[.int .i64 K,.int .i64 N,.string S,.slice pe Ke ce,.slice pr Kr cr] 30 := Blk.new w _ _;have hb0 : Below w.heap.size w (w.alloc (Obj.cells #[.int .i64 K,.int .i64 N,.string S,.slice pe Ke ce,.slice pr Kr cr] 30)) := bra _
 go_enter Tryz.func88,Tryz.ntmps88
 go_wp2_with fail;generalize (w.alloc (Obj.cells #[.int .i64 K,.int .i64 N,.string S,.slice pe Ke ce,.slice pr Kr cr] 30)) = WA at *;obtain ⟨b0,hb0'⟩ : ∃ b,w.heap.size = b := ⟨_,rfl⟩;rw [hb0'] at B0;rw [hb0'];have HBZ : Hid (w.heap.size = b0) := hb0';clear hb0'
 go_loopw [3] (fun iv wr => ∃ i : Nat,iv = .int .i64 (i : Int) ∧ i ≤ Kr ∧ Hid (∀ (j : Nat) (f : Fd),j < i → t.rest[j]? = some f → (okF f && !hasB t.es f.tag) = true) ∧ Hid (Blk wr b0 #[.int .i64 K,.int .i64 N,.string S,.slice pe Ke ce,.slice pr Kr cr] 30) ∧ Below w.heap.size w wr) (fun iv _ => Kr - (intOf iv).toNat)
 case atStart => exact ⟨0,rfl,by omega,(fun j f hj => absurd hj (by omega) : ∀ (j : Nat) (f : Fd),j < 0 → t.rest[j]? = some f → (okF f && !hasB t.es f.tag) = true),B0,hb0⟩
 case round =>
  clear B0 hb0;obtain ⟨i,rfl,hi,HM,HB,hbel⟩ := hrel;have a4 := (HB.out.cell 4).trans rfl
  by_cases hlt : i < Kr
  ·obtain ⟨x,hx⟩ : ∃ r,t.rest[i]? = some r := ⟨_,List.getElem?_eq_getElem (by rw [HKr.out]; exact hlt)⟩
   obtain ⟨g,off,rfl⟩ : ∃ g off,pr = some ⟨g,off,none⟩ := by
    rcases HX3.out with h | h
    ·rw [h] at hx; simp at hx
    ·exact h
   obtain ⟨p0,p1,p2,p3⟩ := rowG_holdsV (RA.out.below hbel) g off rfl i x hx;obtain ⟨a0,a1,a2,a3⟩ := cl4 HB.out;have HX : Hid (t.rest[i]? = some x) := hx;have k0 := kept_cellV a0;have k1 := kept_cellV a1;have k2 := kept_cellV a2;have k3 := kept_cellV a3;have k4 := kept_cellV a4;have k5 := kept_cellV p0;have k6 := kept_cellV p1;have k7 := kept_cellV p2;have k8 := kept_cellV p3;clear hx a0 a1 a2 a3 p0 p1 p2 p3
   cases hok : okF x with
   | false =>
    have HC : Hid (∀ W1,Below wr.heap.size wr W1 → Calls Tryz.prog 95 #[.agg #[.int .i64 x.tag,.int .i64 x.wire,.int .i64 x.n,.string x.b]] W1 fun e w' => e = .returned (.bool false) ∧ Below wr.heap.size wr w') := fun W1 hW1 => by
     refine (rcheckV_any x.tag x.wire x.n x.b W1).mono ?_;rintro e W' ⟨rfl,hb⟩;exact ⟨by rw [show okV x.tag x.wire x.n x.b = okF x from rfl,hok],hW1.trans (hb.mono hW1.size)⟩
    have HH : Hid (false = A) := (rest_no HX.out (by rw [hok]; rfl)).symm.trans HA.out;clear hok HM;go_wp2_with fail;clear a4
    haveI := nonempty_qb (Below.refl wr.heap.size wr)
    refine wp_region_qb (Below.refl wr.heap.size wr) (by kernel_rfl) (by kernel_rfl) ?_
    repeat (go_big_quiet_step (first | (go_at_call 95; exact qb_call HC.out)))
    refine wpQuiet_nil ?_;rintro W1 ⟨⟨_,hW1⟩,rfl⟩;have hb1 := hbel.trans (hW1.mono hbel.size);clear k0 k1 k2 k3 k4 k5 k6 k7 k8 hW1 hbel;go_wp2_with fail;go_ret;exact ⟨congrArg (fun b => Ending.returned (Value.bool b)) HH.out,hb1⟩
   | true =>
    cases hhs : hasB t.es x.tag with
    | true =>
     have HC : Hid (∀ W1,Below wr.heap.size wr W1 → Calls Tryz.prog 95 #[.agg #[.int .i64 x.tag,.int .i64 x.wire,.int .i64 x.n,.string x.b]] W1 fun e w' => e = .returned (.bool true) ∧ Below wr.heap.size wr w') := fun W1 hW1 => by
      refine (rcheckV_any x.tag x.wire x.n x.b W1).mono ?_;rintro e W' ⟨rfl,hb⟩;exact ⟨by rw [show okV x.tag x.wire x.n x.b = okF x from rfl,hok],hW1.trans (hb.mono hW1.size)⟩
     have HD : Hid (∀ W1,Below wr.heap.size wr W1 → Calls Tryz.prog 114 #[.agg #[.int .i64 K,.int .i64 N,.string S,.slice pe Ke ce,.slice (some ⟨g,off,none⟩) Kr cr],.int .i64 x.tag] W1 fun e w' => e = .returned (.bool true) ∧ Below wr.heap.size wr w') := fun W1 hW1 => by
      refine (HHS.out x.tag W1 (hbel.trans (hW1.mono hbel.size))).mono ?_;rintro e W' ⟨rfl,hb⟩;exact ⟨by rw [hhs],hW1.trans (hb.mono hW1.size)⟩
     have HH : Hid (false = A) := (rest_no HX.out (by rw [hok,hhs]; rfl)).symm.trans HA.out;clear hok hhs HM;go_wp2_with fail;clear a4
     haveI := nonempty_qb (Below.refl wr.heap.size wr)
     refine wp_region_qb (Below.refl wr.heap.size wr) (by kernel_rfl) (by kernel_rfl) ?_
     repeat (go_big_quiet_step (first | (go_at_call 95; exact qb_call HC.out) | (go_at_call 114; exact qb_call HD.out)))
     refine wpQuiet_nil ?_;rintro W1 ⟨⟨_,hW1⟩,rfl⟩;have hb1 := hbel.trans (hW1.mono hbel.size);clear k0 k1 k2 k3 k4 k5 k6 k7 k8 hW1 hbel;go_wp2_with fail;go_ret;exact ⟨congrArg (fun b => Ending.returned (Value.bool b)) HH.out,hb1⟩
    | false =>
     have HC : Hid (∀ W1,Below wr.heap.size wr W1 → Calls Tryz.prog 95 #[.agg #[.int .i64 x.tag,.int .i64 x.wire,.int .i64 x.n,.string x.b]] W1 fun e w' => e = .returned (.bool true) ∧ Below wr.heap.size wr w') := fun W1 hW1 => by
      refine (rcheckV_any x.tag x.wire x.n x.b W1).mono ?_;rintro e W' ⟨rfl,hb⟩;exact ⟨by rw [show okV x.tag x.wire x.n x.b = okF x from rfl,hok],hW1.trans (hb.mono hW1.size)⟩
     have HD : Hid (∀ W1,Below wr.heap.size wr W1 → Calls Tryz.prog 114 #[.agg #[.int .i64 K,.int .i64 N,.string S,.slice pe Ke ce,.slice (some ⟨g,off,none⟩) Kr cr],.int .i64 x.tag] W1 fun e w' => e = .returned (.bool false) ∧ Below wr.heap.size wr w') := fun W1 hW1 => by
      refine (HHS.out x.tag W1 (hbel.trans (hW1.mono hbel.size))).mono ?_;rintro e W' ⟨rfl,hb⟩;exact ⟨by rw [hhs],hW1.trans (hb.mono hW1.size)⟩
     have HM2 : Hid (∀ (j : Nat) (f : Fd),j < i + 1 → t.rest[j]? = some f → (okF f && !hasB t.es f.tag) = true) := fun j f hj hf => by
      rcases Nat.lt_or_eq_of_le (Nat.le_of_lt_succ hj) with h | h
      ·exact HM.out j f h hf
      ·subst h;have hxf : x = f := Option.some.inj (HX.out.symm.trans hf);subst hxf;rw [hok,hhs]; rfl
     clear hok hhs HM;go_wp2_with fail;clear a4
     haveI := nonempty_qb (Below.refl wr.heap.size wr)
     refine wp_region_qb (Below.refl wr.heap.size wr) (by kernel_rfl) (by kernel_rfl) ?_
     repeat (go_big_quiet_step (first | (go_at_call 95; exact qb_call HC.out) | (go_at_call 114; exact qb_call HD.out)))
     refine wpQuiet_nil ?_;rintro W1 ⟨⟨_,hW1⟩,rfl⟩;have hb1 := hbel.trans (hW1.mono hbel.size);have HB2 : Hid (Blk W1 b0 #[.int .i64 K,.int .i64 N,.string S,.slice pe Ke ce,.slice (some ⟨g,off,none⟩) Kr cr] 30) := HB.out.below hW1;clear k0 k1 k2 k3 k4 k5 k6 k7 k8 hW1 hbel HB;go_wp2_with fail
     go_roundw
     case rel => exact ⟨i + 1,by go_num,by omega,HM2,HB2,hb1⟩
     case measure => simp [intOf]; omega
  ·have HH : Hid (risesB t.rest = A) := (rest_yes fun j f hj hf => HM.out j f (by rw [HKr.out] at hj; omega) hf).symm.trans HA.out;clear HM HA;go_wp2_with fail;refine (HRR.out _ hbel).mono ?_;rintro e w1 ⟨rfl,hb⟩;rw [HH.out];have hb1 := hbel.trans (hb.mono hbel.size);clear hb hbel a4;go_wp2_with fail;go_ret;exact ⟨rfl,hb1⟩
def mxN (n : Nat) (l : List Tr) : Nat := (l.map (dpN n)).foldr max 0
theorem mx_app (n : Nat) (a b : List Tr) : mxN n (a ++ b) = max (mxN n a) (mxN n b) := by
 unfold mxN
 induction a with
 | nil => simp
 | cons x a ih => simp only [List.cons_append,List.map_cons,List.foldr_cons,ih]; omega
theorem mx_one (n : Nat) (x : Tr) : mxN n [x] = dpN n x := by simp [mxN]
theorem mx_step (n : Nat) {a l : List Tr} {j : Nat} {x : Tr} (h : l[j]? = some x) : mxN n (a ++ l.take (j + 1)) = max (mxN n (a ++ l.take j)) (dpN n x) := by
 have : l.take (j + 1) = l.take j ++ [x] := by rw [List.take_add_one,h]; rfl
 rw [this,← List.append_assoc,mx_app,mx_one]
theorem subs_step {es : List (Int × List Tr)} {i : Nat} {e : Int × List Tr} (h : es[i]? = some e) : subs (es.take (i + 1)) = subs (es.take i) ++ e.2 := by
 have : es.take (i + 1) = es.take i ++ [e] := by rw [List.take_add_one,h]; rfl
 rw [this]; simp [subs]
theorem rdepth_step (n : Nat) (IH : ∀ t v (d : Nat) w,TrIn n w v t → d + n ≤ 100 → Calls Tryz.prog 86 #[v,.int .i64 (d : Int)] w fun e w' => e = .returned (.int .i64 (dpN n t : Nat)) ∧ Below w.heap.size w w') (t : Tr) (v : Value) (d : Nat) (w : World) (ht : TrIn (n + 1) w v t) (hd : d + (n + 1) ≤ 100) :
  Calls Tryz.prog 86 #[v,.int .i64 (d : Int)] w fun e w' => e = .returned (.int .i64 (dpN (n + 1) t : Nat)) ∧ Below w.heap.size w w' := by
 obtain ⟨n',ve,vr,e0,rfl,ka,na,sa,fa,ra,ea⟩ := ht.open
 obtain rfl : n' = n := by omega
 clear e0 ht;obtain ⟨pe,ce,rfl,u1,u2, -⟩ := ea.open;obtain ⟨pr,cr,rfl,x1,x2, -⟩ := rest_holds ra;unfold maxLen at u2 x2;obtain ⟨Ke,hKe⟩ : ∃ K,t.es.length = K := ⟨_,rfl⟩;rw [hKe] at u1 ⊢;have EA : Hid (EnsIn n' w (.slice pe Ke ce) t.es) := hid (by rw [← hKe]; exact ea);have HKe : Hid (t.es.length = Ke) := hKe;have HI : Hid (∀ t v (d : Nat) w,TrIn n' w v t → d + n' ≤ 100 → Calls Tryz.prog 86 #[v,.int .i64 (d : Int)] w fun e w' => e = .returned (.int .i64 (dpN n' t : Nat)) ∧ Below w.heap.size w w') := IH;clear hKe ea ra fa ka na sa IH
 by_cases hk : t.kind = 3
 ·have HR : Hid (dpN (n' + 1) t = 1 + mxN n' (subs t.es)) := hid (by simp [dpN,hk,mxN]);generalize dpN (n' + 1) t = R at *;have HES : Hid (t.es = t.es) := rfl;rw [hk];clear hk;generalize t.rest.length = Kr at *;obtain ⟨N,hN⟩ : ∃ K,t.n = K := ⟨_,rfl⟩;obtain ⟨S,hS⟩ : ∃ K,t.s = K := ⟨_,rfl⟩;rw [hN,hS];clear hN hS;have B0 : Blk (w.alloc (Obj.cells #[.int .i64 3,.int .i64 N,.string S,.slice pe Ke ce,.slice pr Kr cr] 30)) w.heap.size #[.int .i64 3,.int .i64 N,.string S,.slice pe Ke ce,.slice pr Kr cr] 30 := Blk.new w _ _;have hb0 : Below w.heap.size w (w.alloc (Obj.cells #[.int .i64 3,.int .i64 N,.string S,.slice pe Ke ce,.slice pr Kr cr] 30)) := bra _
  have hd1 : decide ((d : Int) > 100) = false := by simp; omega
  go_enter Tryz.func86,Tryz.ntmps86
  go_wp2_with fail;generalize (w.alloc (Obj.cells #[.int .i64 3,.int .i64 N,.string S,.slice pe Ke ce,.slice pr Kr cr] 30)) = WA at *;obtain ⟨b0,hb0'⟩ : ∃ b,w.heap.size = b := ⟨_,rfl⟩;have HBZ : Hid (w.heap.size = b0) := hb0';rw [hb0'] at B0;rw [hb0'];clear hb0'
  go_loopw [5,6] (fun mv iv wr => ∃ (i M : Nat),mv = .int .i64 (M : Int) ∧ iv = .int .i64 (i : Int) ∧ i ≤ Ke ∧ M ≤ 100 ∧ Hid (M = mxN n' (subs (t.es.take i))) ∧ Hid (Blk wr b0 #[.int .i64 3,.int .i64 N,.string S,.slice pe Ke ce,.slice pr Kr cr] 30) ∧ Below w.heap.size w wr) (fun _ iv _ => Ke - (intOf iv).toNat)
  case atStart => exact ⟨0,0,rfl,rfl,by omega,by omega,(by simp [subs,mxN] : 0 = mxN n' (subs (t.es.take 0))),B0,hb0⟩
  case round =>
   clear B0 hb0;obtain ⟨i,M,rfl,rfl,hi,hM,HM,HB,hbel⟩ := hrel;have a3 := (HB.out.cell 3).trans rfl
   by_cases hlt : i < Ke
   ·obtain ⟨x,hx⟩ : ∃ r,t.es[i]? = some r := ⟨_,List.getElem?_eq_getElem (by rw [HKe.out]; exact hlt)⟩;obtain ⟨ge,off,rfl,cc⟩ := (EA.out.belowE hbel).get hx;obtain ⟨vt,p0,p1,p2,p3⟩ := ens_at cc;obtain ⟨pt,ct,rfl,t1,t2, -⟩ := p3.open;have HX : Hid (t.es[i]? = some x) := hx;obtain ⟨Xl,hXl⟩ : ∃ K,x.2.length = K := ⟨_,rfl⟩;rw [hXl] at p1 p3 t1;have HXl : Hid (x.2.length = Xl) := hXl;have HT : Hid (TrsIn n' wr (.slice pt Xl ct) x.2) := p3;have HP1 : Hid (wr.cell? ⟨ge,off + i * 2 + 1,none⟩ = some (.slice pt Xl ct)) := p1;unfold maxLen at t2;clear hx cc p0 p1 p2 p3 hXl;go_wp2_with fail;clear a3;have HW : Hid (Below wr.heap.size wr wr) := Below.refl _ _;obtain ⟨W,hW⟩ : ∃ W,wr = W := ⟨_,rfl⟩;rw [hW] at HW HT HP1 HB hbel ⊢;clear hW
    go_loopw [5,7] (fun mv jv wz => ∃ (j M : Nat),mv = .int .i64 (M : Int) ∧ jv = .int .i64 (j : Int) ∧ j ≤ Xl ∧ M ≤ 100 ∧ Hid (M = mxN n' (subs (t.es.take i) ++ x.2.take j)) ∧ Below w.heap.size w wz ∧ Below W.heap.size W wz) (fun _ jv _ => Xl - (intOf jv).toNat)
    case atStart => exact ⟨0,M,rfl,rfl,by omega,hM,(by rw [HM.out]; simp : M = mxN n' (subs (t.es.take i) ++ x.2.take 0)),hbel,Below.refl _ _⟩
    case round =>
     clear hM HM hbel;obtain ⟨j,M,rfl,rfl,hj,hM,HM,hbel,hbW⟩ := hrel;have B1 := HB.out.below hbW;have a3 := (B1.cell 3).trans rfl;have p1 : wr.cell? ⟨ge,off + i * 2 + 1,none⟩ = some (.slice pt Xl ct) := (hbW.cell (World.block_lt_of_cell? _ _ HP1.out)).trans HP1.out
     by_cases hlt2 : j < Xl
     ·obtain ⟨y,hy⟩ : ∃ r,x.2[j]? = some r := ⟨_,List.getElem?_eq_getElem (by rw [HXl.out]; exact hlt2)⟩;obtain ⟨g3,off3,rfl,c1⟩ := (HT.out.belowT hbW).get hy;obtain ⟨z1,n1,d1,z2,n2,d2,o0,o1,o2,o3,o4,o5⟩ := trs_get c1;have HY : Hid (x.2[j]? = some y) := hy;have HC : Hid (Calls Tryz.prog 86 #[.agg #[.int .i64 y.kind,.int .i64 y.n,.string y.s,.slice z1 n1 d1,.slice z2 n2 d2],.int .i64 ((d : Int) + 1)] wr fun e w' => e = .returned (.int .i64 (dpN n' y : Nat)) ∧ Below wr.heap.size wr w') := HI.out y _ (d + 1) wr o5 (by omega);clear c1 hy o5 B1;go_wp2_with fail;refine HC.out.mono ?_;rintro e w2 ⟨rfl,hb2⟩;have HS : Hid (mxN n' (subs (t.es.take i) ++ x.2.take (j + 1)) = max M (dpN n' y)) := hid (by rw [HM.out,mx_step n' HY.out]);have hyd := dpN_le n' y;generalize dpN n' y = Y at *;have hb3 := hbel.trans (hb2.mono hbel.size);have hb4 := hbW.trans (hb2.mono hbW.size)
      have hmx : max (M : Int) (Y : Int) = ((max M Y : Nat) : Int) := by omega
      clear o0 o1 o2 o3 o4 hb2 hbel hbW HC a3 p1;go_wp2_with fail
      go_roundw
      case rel => exact ⟨j + 1,max M Y,by first | rfl | (rw [hmx]) | go_num,by go_num,by omega,by omega,HS.out.symm,hb3,hb4⟩
      case measure => simp [intOf]; omega
     ·obtain rfl : j = Xl := by omega
      have HM2 : Hid (M = mxN n' (subs (t.es.take (i + 1)))) := hid (by rw [HM.out,subs_step HX.out,List.take_of_length_le (l := x.2) (by rw [HXl.out]; omega)]);have HB5 : Hid (Blk wr b0 #[.int .i64 3,.int .i64 N,.string S,.slice (some ⟨ge,off,none⟩) Ke ce,.slice pr Kr cr] 30) := B1;clear B1 HM HB;go_wp2_with fail;clear a3 p1
      go_roundw
      case rel => exact ⟨i + 1,M,rfl,by go_num,by omega,hM,HM2,HB5,hbel⟩
      case measure => simp [intOf]; omega
   ·obtain rfl : i = Ke := by omega
    have hR : R = 1 + M := by rw [HR.out,HM.out,List.take_of_length_le (by rw [HKe.out]; omega)]
    subst hR
    have hmn : min ((M : Int) + 1) 101 = ((1 + M : Nat) : Int) := by omega
    clear HR HM HB;go_wp2_with fail;go_ret;exact ⟨by first | rfl | (rw [hmn]) | go_num,hbel⟩
 ·have h0 : dpN (n' + 1) t = 0 := by simp [dpN,hk]
  rw [h0]
  have hd1 : (t.kind != 3) = true := by simpa using hk
  generalize t.kind = K at *;generalize t.n = N at *;generalize t.s = S at *;generalize t.rest.length = Kr at *;clear h0 HKe
  go_enter Tryz.func86,Tryz.ntmps86
  go_wp2_with fail;go_ret;exact ⟨rfl,bra _⟩
theorem rdepth_any : ∀ (n : Nat) (t : Tr) (v : Value) (d : Nat) (w : World),TrIn n w v t → d + n ≤ 100 → Calls Tryz.prog 86 #[v,.int .i64 (d : Int)] w fun e w' => e = .returned (.int .i64 (dpN n t : Nat)) ∧ Below w.heap.size w w'
 | 0,_,_,_,_,h,_ => by obtain ⟨r,_,h⟩ := h; exact h.elim
 | n + 1,t,v,d,w,h,hd => rdepth_step n (fun t v d w h hd => rdepth_any n t v d w h hd) t v d w h hd
theorem rDepth_any (n : Nat) (t : Tr) (v : Value) (w : World) (h : TrIn n w v t) (hn : n ≤ 100) : Calls Tryz.prog 47 #[v] w fun e w' => e = .returned (.int .i64 (dpN n t : Nat)) ∧ Below w.heap.size w w' := by
 have hal : ∀ o,Below w.heap.size w (w.alloc o) := fun o => bra _
 have HC : Hid (∀ W,Below w.heap.size w W → Calls Tryz.prog 86 #[v,.int .i64 0] W fun e w' => e = .returned (.int .i64 (dpN n t : Nat)) ∧ Below W.heap.size W w') := fun W hW => rdepth_any n t v 0 W (h.below hW) (by omega)
 obtain ⟨n',ve,vr,e0,rfl, -, -, -, -,ra,ea⟩ := h.open;obtain ⟨pe,ce,rfl, -⟩ := ea.open;obtain ⟨pr,cr,rfl, -⟩ := rest_holds ra;generalize t.es.length = Ke at *;generalize t.rest.length = Kr at *;generalize dpN n t = R at *;generalize t.kind = K at *;generalize t.n = N at *;generalize t.s = S at *;clear h ra ea e0
 go_enter Tryz.func47,Tryz.ntmps47
 go_wp2_with fail;refine (HC.out _ (hal _)).mono ?_;rintro e w1 ⟨rfl,hb⟩;have hbw : Below w.heap.size w w1 := (hal _).trans (hb.mono (by simp));clear hb HC;go_wp2_with fail;go_ret;exact ⟨rfl,hbw⟩
def entA (n : Nat) (last : Int) (l : List (Int × List Tr)) : Bool := entsB last l && (subs l).all (okN n)
theorem entA_cons (n : Nat) (last : Int) (x : Int × List Tr) (l : List (Int × List Tr)) : entA n last (x :: l) =
  (decide (last < x.1) && decide (x.1 ≤ 500) && decide (1 ≤ x.2.length) && decide (x.2.length ≤ 64) && (x.2.all fun y => y.kind == (x.2.head?.map Tr.kind).getD 0) && x.2.all (okN n) && entA n x.1 l) := by
 simp only [entA,entsB,subs,List.flatMap_cons,List.all_append]
 ac_rfl
theorem drop_consV {α : Type} {l : List α} {i : Nat} {x : α} (h : l[i]? = some x) : l.drop i = x :: l.drop (i + 1) := by
 obtain ⟨h1,h2⟩ := List.getElem?_eq_some_iff.1 h;rw [List.drop_eq_getElem_cons h1,h2]
theorem ent_no {n : Nat} {last : Int} {x : Int × List Tr} {l : List (Int × List Tr)} (h : ¬ (last < x.1 ∧ x.1 ≤ 500 ∧ 1 ≤ x.2.length ∧ x.2.length ≤ 64)) : entA n last (x :: l) = false := by
 rw [entA_cons]
 by_cases h1 : last < x.1
 ·by_cases h2 : x.1 ≤ 500
  ·by_cases h3 : 1 ≤ x.2.length
   ·by_cases h4 : x.2.length ≤ 64
    ·exact absurd ⟨h1,h2,h3,h4⟩ h
    ·simp [h4]
   ·simp [h3]
  ·simp [h2]
 ·simp [h1]
theorem ent_noK {n : Nat} {last : Int} {x : Int × List Tr} {l : List (Int × List Tr)} {j : Nat} {y h : Tr} (hy : x.2[j]? = some y) (hh : x.2[0]? = some h) (hk : (y.kind != h.kind) = true ∨ okN n y = false) : entA n last (x :: l) = false := by
 have e1 : (x.2.head?.map Tr.kind).getD 0 = h.kind := by rw [List.head?_eq_getElem?,hh]; rfl
 rw [entA_cons,e1]
 rcases hk with hk | hk
 ·have : (x.2.all fun y => y.kind == h.kind) = false := List.all_eq_false.2 ⟨y,List.mem_of_getElem? hy,by simpa using hk⟩;rw [this]; simp
 ·have : x.2.all (okN n) = false := List.all_eq_false.2 ⟨y,List.mem_of_getElem? hy,by simp [hk]⟩;rw [this]; simp
theorem ent_yes {n : Nat} {last : Int} {x : Int × List Tr} {l : List (Int × List Tr)} {h : Tr} (hh : x.2[0]? = some h) (h1 : last < x.1) (h2 : x.1 ≤ 500) (h3 : 1 ≤ x.2.length) (h4 : x.2.length ≤ 64)
  (ha : ∀ (j : Nat) (y : Tr),j < x.2.length → x.2[j]? = some y → (y.kind != h.kind) = false ∧ okN n y = true) : entA n last (x :: l) = entA n x.1 l := by
 have e1 : (x.2.head?.map Tr.kind).getD 0 = h.kind := by rw [List.head?_eq_getElem?,hh]; rfl
 have a1 : (x.2.all fun y => y.kind == h.kind) = true := List.all_eq_true.2 fun y hy => by
  obtain ⟨i,hi,e⟩ := List.getElem_of_mem hy;have := (ha i y hi (by rw [List.getElem?_eq_getElem hi,e])).1
  simpa using this
 have a2 : x.2.all (okN n) = true := List.all_eq_true.2 fun y hy => by
  obtain ⟨i,hi,e⟩ := List.getElem_of_mem hy;exact (ha i y hi (by rw [List.getElem?_eq_getElem hi,e])).2
 rw [entA_cons,e1,a1,a2]
 simp [h1,h2,h3,h4]
theorem rents_step (n : Nat) (IH : ∀ t v w,TrIn n w v t → Calls Tryz.prog 48 #[v] w fun e w' => e = .returned (.bool (okN n t)) ∧ Below w.heap.size w w') (es : List (Int × List Tr)) (ve : Value) (w : World) (ea : EnsIn n w ve es) :
  Calls Tryz.prog 87 #[ve] w fun e w' => e = .returned (.bool (entA n 0 es)) ∧ Below w.heap.size w w' := by
 obtain ⟨pe,ce,rfl,u1,u2, -⟩ := ea.open;unfold maxLen at u2;obtain ⟨Ke,hKe⟩ : ∃ K,es.length = K := ⟨_,rfl⟩;rw [hKe] at u1 ⊢;have EA : Hid (EnsIn n w (.slice pe Ke ce) es) := hid (by rw [← hKe]; exact ea);have HKe : Hid (es.length = Ke) := hKe;have HI : Hid (∀ t v w,TrIn n w v t → Calls Tryz.prog 48 #[v] w fun e w' => e = .returned (.bool (okN n t)) ∧ Below w.heap.size w w') := IH;obtain ⟨A,hA⟩ : ∃ A,entA n 0 es = A := ⟨_,rfl⟩;rw [hA];have HA : Hid (A = entA n 0 (es.drop 0)) := hA.symm;clear hKe ea IH hA
 go_enter Tryz.func87,Tryz.ntmps87
 go_wp2_with fail
 go_loopw [3,4] (fun lv iv wr => ∃ (i : Nat) (last : Int),lv = .int .i64 last ∧ iv = .int .i64 (i : Int) ∧ i ≤ Ke ∧ Hid (A = entA n last (es.drop i)) ∧ Below w.heap.size w wr) (fun _ iv _ => Ke - (intOf iv).toNat)
 case atStart => exact ⟨0,0,rfl,rfl,by omega,HA,Below.refl _ _⟩
 case round =>
  clear HA;obtain ⟨i,last,rfl,rfl,hi,HM,hbel⟩ := hrel
  by_cases hlt : i < Ke
  ·obtain ⟨x,hx⟩ : ∃ r,es[i]? = some r := ⟨_,List.getElem?_eq_getElem (by rw [HKe.out]; exact hlt)⟩;obtain ⟨ge,off,rfl,cc⟩ := (EA.out.belowE hbel).get hx;obtain ⟨vt,p0,p1,p2,p3⟩ := ens_at cc;obtain ⟨pt,ct,rfl,t1,t2, -⟩ := p3.open;unfold maxLen at t2;have HM1 : Hid (A = entA n last (x :: es.drop (i + 1))) := hid (by rw [← drop_consV hx]; exact HM.out);have hal : Below wr.heap.size wr (wr.alloc (Obj.cells #[.int .i64 x.1,.slice pt x.2.length ct] 69)) := bra _;have HT : Hid (TrsIn n (wr.alloc (Obj.cells #[.int .i64 x.1,.slice pt x.2.length ct] 69)) (.slice pt x.2.length ct) x.2) := p3.belowT hal;have hno := fun h => ent_no (n := n) (last := last) (x := x) (l := es.drop (i + 1)) h
   have hyes := fun (h : Tr) => ent_yes (n := n) (last := last) (x := x) (l := es.drop (i + 1)) (h := h)
   have hnoK := fun (j : Nat) (y h : Tr) => ent_noK (n := n) (last := last) (x := x) (l := es.drop (i + 1)) (j := j) (y := y) (h := h)
   clear HM p2 p3 cc hx;rw [← HM1.out] at hno hyes hnoK;obtain ⟨xt,xl⟩ := x;simp only at *;have HYES : Hid (∀ (h : Tr),xl[0]? = some h → last < xt → xt ≤ 500 → 1 ≤ xl.length → xl.length ≤ 64 → (∀ (j : Nat) (y : Tr),j < xl.length → xl[j]? = some y → (y.kind != h.kind) = false ∧ okN n y = true) → A = entA n xt (es.drop (i + 1))) := fun h a b c d e f => hyes h a b c d e f
   have HNOK : Hid (∀ (j : Nat) (y h : Tr),xl[j]? = some y → xl[0]? = some h → ((y.kind != h.kind) = true ∨ okN n y = false) → A = false) := fun j y h a b c => hnoK j y h a b c
   have HNO : Hid (¬ (last < xt ∧ xt ≤ 500 ∧ 1 ≤ xl.length ∧ xl.length ≤ 64) → A = false) := hno;clear hno hyes hnoK HM1;obtain ⟨Xl,hXl⟩ : ∃ K,xl.length = K := ⟨_,rfl⟩;rw [hXl] at p1 HT HNO hal t1;have HXl : Hid (xl.length = Xl) := hXl;clear hXl;have hbA : Below w.heap.size w (wr.alloc (Obj.cells #[.int .i64 xt,.slice pt Xl ct] 69)) := hbel.trans (hal.mono hbel.size)
   by_cases c0 : xt ≤ last
   ·have HH : Hid (false = A) := (HNO.out (by omega)).symm
    have h0 : decide (xt ≤ last) = true := by simp; omega
    clear HYES HNOK HNO HT;go_wp2_with fail;go_ret;exact ⟨congrArg (fun b => Ending.returned (Value.bool b)) HH.out,hbA⟩
   ·have h0 : decide (xt ≤ last) = false := by simp; omega
    by_cases c1 : xt > 500
    ·have HH : Hid (false = A) := (HNO.out (by omega)).symm
     have h1 : decide (xt > 500) = true := by simp; omega
     clear HYES HNOK HNO HT;go_wp2_with fail;go_ret;exact ⟨congrArg (fun b => Ending.returned (Value.bool b)) HH.out,hbA⟩
    ·have h1 : decide (xt > 500) = false := by simp; omega
     by_cases c2 : Xl < 1
     ·have HH : Hid (false = A) := (HNO.out (by omega)).symm
      have h2 : decide ((Xl : Int) < 1) = true := by simp; omega
      clear HYES HNOK HNO HT;go_wp2_with fail;go_ret;exact ⟨congrArg (fun b => Ending.returned (Value.bool b)) HH.out,hbA⟩
     ·have h2 : decide ((Xl : Int) < 1) = false := by simp; omega
      by_cases c3 : Xl > 64
      ·have HH : Hid (false = A) := (HNO.out (by omega)).symm
       have h3 : decide ((Xl : Int) > 64) = true := by simp; omega
       clear HYES HNOK HNO HT;go_wp2_with fail;go_ret;exact ⟨congrArg (fun b => Ending.returned (Value.bool b)) HH.out,hbA⟩
      ·have h3 : decide ((Xl : Int) > 64) = false := by simp; omega
       obtain ⟨h,hh⟩ : ∃ r,xl[0]? = some r := ⟨_,List.getElem?_eq_getElem (by rw [HXl.out]; omega)⟩;have HH0 : Hid (xl[0]? = some h) := hh;have HCC : Hid (last < xt ∧ xt ≤ 500 ∧ 1 ≤ Xl ∧ Xl ≤ 64) := hid (by omega);have BE : Blk (wr.alloc (Obj.cells #[.int .i64 xt,.slice pt Xl ct] 69)) wr.heap.size #[.int .i64 xt,.slice pt Xl ct] 69 := Blk.new wr _ _;clear hh hal HNO;go_wp2_with fail;clear p0 p1 h0 h1 h2 h3;generalize (wr.alloc (Obj.cells #[.int .i64 xt,.slice pt Xl ct] 69)) = W at *;generalize wr.heap.size = be at *
       go_loopw [6] (fun jv wz => ∃ j : Nat,jv = .int .i64 (j : Int) ∧ j ≤ Xl ∧ Hid (∀ (l : Nat) (y : Tr),l < j → xl[l]? = some y → (y.kind != h.kind) = false ∧ okN n y = true) ∧ Below w.heap.size w wz ∧ Below W.heap.size W wz) (fun jv _ => Xl - (intOf jv).toNat)
       case atStart => exact ⟨0,rfl,by omega,(fun l y hl => absurd hl (by omega) : ∀ (l : Nat) (y : Tr),l < 0 → xl[l]? = some y → (y.kind != h.kind) = false ∧ okN n y = true),hbA,Below.refl _ _⟩
       case round =>
        clear hbA hbel;obtain ⟨j,rfl,hj,HL,hbel,hbW⟩ := hrel;have B1 := BE.below hbW;have a1 := (B1.cell 1).trans rfl
        by_cases hlt2 : j < Xl
        ·obtain ⟨y,hy⟩ : ∃ r,xl[j]? = some r := ⟨_,List.getElem?_eq_getElem (by rw [HXl.out]; exact hlt2)⟩;obtain ⟨g3,off3,rfl,c1⟩ := (HT.out.belowT hbW).get hy;obtain ⟨g4,off4,e4,c2⟩ := (HT.out.belowT hbW).get HH0.out
         obtain ⟨rfl,rfl⟩ : g3 = g4 ∧ off3 = off4 := by simpa using e4
         obtain ⟨z1,n1,d1,z2,n2,d2,o0,o1,o2,o3,o4,o5⟩ := trs_get c1;obtain ⟨_,_,_,_,_,_,q0,_⟩ := trs_get c2;rw [Nat.zero_mul,Nat.add_zero] at q0;have HY : Hid (xl[j]? = some y) := hy;have k1 := kept_cellV a1;have k2 := kept_cellV o0;have k3 := kept_cellV o1;have k4 := kept_cellV o2;have k5 := kept_cellV o3;have k6 := kept_cellV o4;have k7 := kept_cellV q0;clear c1 c2 hy e4
         cases hkd : (y.kind != h.kind) with
         | true =>
          have HH : Hid (false = A) := (HNOK.out j y h HY.out HH0.out (.inl hkd)).symm;clear HYES HNOK HL o0 o1 o2 o3 o4 o5 q0 HT;go_wp2_with fail;clear a1
          haveI := nonempty_qb (Below.refl wr.heap.size wr)
          refine wp_region_qb (Below.refl wr.heap.size wr) (by kernel_rfl) (by kernel_rfl) ?_
          repeat (go_big_quiet_step (fail))
          refine wpQuiet_nil ?_;rintro W1 ⟨⟨_,hW1⟩,rfl⟩;have hb1 := hbel.trans (hW1.mono hbel.size);clear k1 k2 k3 k4 k5 k6 k7 hW1 hbel hbW;go_wp2_with fail;go_ret;exact ⟨congrArg (fun b => Ending.returned (Value.bool b)) HH.out,hb1⟩
         | false =>
          cases hok : okN n y with
          | false =>
           have HH : Hid (false = A) := (HNOK.out j y h HY.out HH0.out (.inr hok)).symm
           have HC : Hid (∀ W1,Below wr.heap.size wr W1 → Calls Tryz.prog 48 #[.agg #[.int .i64 y.kind,.int .i64 y.n,.string y.s,.slice z1 n1 d1,.slice z2 n2 d2]] W1 fun e w' => e = .returned (.bool false) ∧ Below wr.heap.size wr w') := fun W1 hW1 => by
            refine (HI.out y _ W1 (o5.below hW1)).mono ?_;rintro e W' ⟨rfl,hb⟩;exact ⟨by rw [hok],hW1.trans (hb.mono hW1.size)⟩
           clear HYES HNOK HL o0 o1 o2 o3 o4 o5 q0 HT hok;go_wp2_with fail;clear a1
           haveI := nonempty_qb (Below.refl wr.heap.size wr)
           refine wp_region_qb (Below.refl wr.heap.size wr) (by kernel_rfl) (by kernel_rfl) ?_
           repeat (go_big_quiet_step (first | (go_at_call 48; exact qb_call HC.out)))
           refine wpQuiet_nil ?_;rintro W1 ⟨⟨_,hW1⟩,rfl⟩;have hb1 := hbel.trans (hW1.mono hbel.size);clear k1 k2 k3 k4 k5 k6 k7 hW1 hbel hbW;go_wp2_with fail;go_ret;exact ⟨congrArg (fun b => Ending.returned (Value.bool b)) HH.out,hb1⟩
          | true =>
           have HL2 : Hid (∀ (l : Nat) (y : Tr),l < j + 1 → xl[l]? = some y → (y.kind != h.kind) = false ∧ okN n y = true) := fun l z hl hz => by
            rcases Nat.lt_or_eq_of_le (Nat.le_of_lt_succ hl) with h' | h'
            ·exact HL.out l z h' hz
            ·subst h';have hyz : y = z := Option.some.inj (HY.out.symm.trans hz);subst hyz;exact ⟨hkd,hok⟩
           have HC : Hid (∀ W1,Below wr.heap.size wr W1 → Calls Tryz.prog 48 #[.agg #[.int .i64 y.kind,.int .i64 y.n,.string y.s,.slice z1 n1 d1,.slice z2 n2 d2]] W1 fun e w' => e = .returned (.bool true) ∧ Below wr.heap.size wr w') := fun W1 hW1 => by
            refine (HI.out y _ W1 (o5.below hW1)).mono ?_;rintro e W' ⟨rfl,hb⟩;exact ⟨by rw [hok],hW1.trans (hb.mono hW1.size)⟩
           clear HL o0 o1 o2 o3 o4 o5 q0 hok;go_wp2_with fail;clear a1
           haveI := nonempty_qb (Below.refl wr.heap.size wr)
           refine wp_region_qb (Below.refl wr.heap.size wr) (by kernel_rfl) (by kernel_rfl) ?_
           repeat (go_big_quiet_step (first | (go_at_call 48; exact qb_call HC.out)))
           refine wpQuiet_nil ?_;rintro W1 ⟨⟨_,hW1⟩,rfl⟩;have hb1 := hbel.trans (hW1.mono hbel.size);have hb2 := hbW.trans (hW1.mono hbW.size);clear k1 k2 k3 k4 k5 k6 k7 hW1 hbel hbW B1;go_wp2_with fail
           go_roundw
           case rel => exact ⟨j + 1,by go_num,by omega,HL2,hb1,hb2⟩
           case measure => simp [intOf]; omega
        ·have HM2 : Hid (A = entA n xt (es.drop (i + 1))) := HYES.out h HH0.out HCC.out.1 HCC.out.2.1 (by rw [HXl.out]; exact HCC.out.2.2.1) (by rw [HXl.out]; exact HCC.out.2.2.2) fun l y hl hy => HL.out l y (by rw [HXl.out] at hl; omega) hy
         clear HYES HNOK HL HT B1;go_wp2_with fail;clear a1
         go_roundw
         case rel => exact ⟨i + 1,xt,rfl,by go_num,by omega,HM2,hbel⟩
         case measure => simp [intOf]; omega
  ·have HH : Hid (true = A) := by
    have h1 := HM.out;rw [List.drop_of_length_le (by rw [HKe.out]; omega)] at h1;exact h1.symm
   clear HM;go_wp2_with fail;go_ret;exact ⟨congrArg (fun b => Ending.returned (Value.bool b)) HH.out,hbel⟩
theorem toList_ext {a b : ByteArray} (h : a.toList = b.toList) : a = b := by
 rw [ByteArray.toList_eq,ByteArray.toList_eq] at h;obtain ⟨⟨l⟩⟩ := a;obtain ⟨⟨m⟩⟩ := b
 simp at h
 rw [h]
theorem fd_neq (t1 t2 t3 s1 s2 s3 : Int) (t4 s4 : ByteArray) (h : Fd.mk t1 t2 t3 t4 ≠ Fd.mk s1 s2 s3 s4) (W : World) :
  (binOp .neq 79 (.agg #[.int .i64 t1,.int .i64 t2,.int .i64 t3,.string t4]) (.agg #[.int .i64 s1,.int .i64 s2,.int .i64 s3,.string s4])).run Tryz.prog W = .ok (.bool true) W := by
 by_cases h1 : t1 = s1
 ·by_cases h2 : t2 = s2
  ·by_cases h3 : t3 = s3
   ·by_cases h4 : t4.toList = s4.toList
    ·exact absurd (by rw [h1,h2,h3,toList_ext h4]) h
    ·subst h1 h2 h3
     simp [go_sem,h4]
   ·subst h1 h2
    simp [go_sem,h3]
  ·subst h1
   simp [go_sem,h2]
 ·simp [go_sem,h1]
theorem ok_one {n : Nat} {t : Tr} (h : t.kind = 1) : okN (n + 1) t = (t.s.size == 0 && t.es.isEmpty && t.rest.isEmpty) := by simp [okN,lvB,h]
theorem ok_two {n : Nat} {t : Tr} (h : t.kind = 2) : okN (n + 1) t = (t.n == 0 && t.es.isEmpty && t.rest.isEmpty) := by simp [okN,lvB,h]
theorem ok_three {n : Nat} {t : Tr} (h : t.kind = 3) : okN (n + 1) t = (t.n == 0 && t.s.size == 0 && entA n 0 t.es && restB t.rest t.es) := by
 simp only [okN,lvB,h,entA]
 simp
 ac_rfl
theorem ok_none {n : Nat} {t : Tr} (h1 : t.kind ≠ 1) (h2 : t.kind ≠ 2) (h3 : t.kind ≠ 3) : okN (n + 1) t = false := by simp [okN,lvB,h1,h2,h3]
theorem str_empty {s : ByteArray} (h : (s.size == 0) = true) : s = ⟨#[]⟩ := by
 obtain ⟨⟨l⟩⟩ := s
 cases l with
 | nil => rfl
 | cons a l => simp [ByteArray.size] at h
theorem str_not {s : ByteArray} (h : (s.size == 0) = false) : (s.toList == ([] : List UInt8)) = false := by
 cases hq : (s.toList == ([] : List UInt8)) with
 | false => rfl
 | true =>
  have e : s.toList = [] := by simpa using hq
  have h2 : s = ⟨#[]⟩ := toList_ext (e.trans (by rw [ByteArray.toList_eq]));rw [h2] at h;exact absurd h (by decide)
theorem rcheckN_step (n : Nat) (IH : ∀ t v w,TrIn n w v t → Calls Tryz.prog 48 #[v] w fun e w' => e = .returned (.bool (okN n t)) ∧ Below w.heap.size w w') (t : Tr) (v : Value) (w : World) (ht : TrIn (n + 1) w v t) :
  Calls Tryz.prog 48 #[v] w fun e w' => e = .returned (.bool (okN (n + 1) t)) ∧ Below w.heap.size w w' := by
 have HRS : Hid (∀ W,Below w.heap.size w W → Calls Tryz.prog 88 #[v] W fun e w' => e = .returned (.bool (restB t.rest t.es)) ∧ Below W.heap.size W w') := fun W hW => rrest_any n t v W (ht.below hW)
 obtain ⟨n',ve,vr,e0,rfl,ka,na,sa,fa,ra,ea⟩ := ht.open
 obtain rfl : n' = n := by omega
 have HEN : Hid (∀ W,Below w.heap.size w W → Calls Tryz.prog 87 #[ve] W fun e w' => e = .returned (.bool (entA n' 0 t.es)) ∧ Below W.heap.size W w') := fun W hW => rents_step n' IH t.es ve W (ea.belowE hW)
 clear e0 ht IH;obtain ⟨pe,ce,rfl,u1,u2, -⟩ := ea.open;obtain ⟨pr,cr,rfl,x1,x2, -⟩ := rest_holds ra;unfold maxLen at u2 x2
 have eE : ∀ b,t.es.isEmpty = b → (((t.es.length : Nat) : Int) == 0) = b := fun b h => by rw [← h]; cases t.es <;> simp; omega
 have eR : ∀ b,t.rest.isEmpty = b → (((t.rest.length : Nat) : Int) == 0) = b := fun b h => by rw [← h]; cases t.rest <;> simp; omega
 clear ka na sa fa ra ea;obtain ⟨A,hA⟩ : ∃ A,okN (n' + 1) t = A := ⟨_,rfl⟩;rw [hA];have HAL : Hid (∀ (o : Obj),Below w.heap.size w (w.alloc o)) := fun o => bra _
 by_cases hk : t.kind = 1
 ·cases hs : (t.s.size == 0) with
  | false =>
   have HH : Hid (false = A) := hid (by rw [← hA,ok_one hk,hs]; simp);have fs := str_not hs;rw [hk];clear eE eR hA HRS HEN hs hk;generalize t.es.length = Ke at *;generalize t.rest.length = Kr at *;generalize t.n = N at *;generalize t.s = S at *
   go_enter Tryz.func48,Tryz.ntmps48
   go_wp2_with fail;go_ret;exact ⟨congrArg (fun b => Ending.returned (Value.bool b)) HH.out,HAL.out _⟩
  | true =>
   cases he : (t.es.isEmpty) with
   | false =>
    have HH : Hid (false = A) := hid (by rw [← hA,ok_one hk,hs,he]; simp);have fe := eE _ he;rw [str_empty hs];rw [hk];clear eE eR hA HRS HEN hs he hk;generalize t.es.length = Ke at *;generalize t.rest.length = Kr at *;generalize t.n = N at *
    go_enter Tryz.func48,Tryz.ntmps48
    go_wp2_with fail;go_ret;exact ⟨congrArg (fun b => Ending.returned (Value.bool b)) HH.out,HAL.out _⟩
   | true =>
    cases hr : (t.rest.isEmpty) with
    | false =>
     have HH : Hid (false = A) := hid (by rw [← hA,ok_one hk,hs,he,hr]; simp);have fe := eE _ he;have fr := eR _ hr;rw [str_empty hs];rw [hk];clear eE eR hA HRS HEN hs he hr hk;generalize t.es.length = Ke at *;generalize t.rest.length = Kr at *;generalize t.n = N at *
     go_enter Tryz.func48,Tryz.ntmps48
     go_wp2_with fail;go_ret;exact ⟨congrArg (fun b => Ending.returned (Value.bool b)) HH.out,HAL.out _⟩
    | true =>
     have HH : Hid (true = A) := hid (by rw [← hA,ok_one hk,hs,he,hr]; simp);have fe := eE _ he;have fr := eR _ hr;rw [str_empty hs];rw [hk];clear eE eR hA HRS HEN hs he hr hk;generalize t.es.length = Ke at *;generalize t.rest.length = Kr at *;generalize t.n = N at *
     go_enter Tryz.func48,Tryz.ntmps48
     go_wp2_with fail;go_ret;exact ⟨congrArg (fun b => Ending.returned (Value.bool b)) HH.out,HAL.out _⟩
 ·by_cases hk2 : t.kind = 2
  ·cases hn : (t.n == 0) with
   | false =>
    have HH : Hid (false = A) := hid (by rw [← hA,ok_two hk2,hn]; simp);rw [hk2];clear eE eR hA HRS HEN hk hk2;generalize t.es.length = Ke at *;generalize t.rest.length = Kr at *;generalize t.n = N at *;generalize t.s = S at *
    go_enter Tryz.func48,Tryz.ntmps48
    go_wp2_with fail;go_ret;exact ⟨congrArg (fun b => Ending.returned (Value.bool b)) HH.out,HAL.out _⟩
   | true =>
    cases he : (t.es.isEmpty) with
    | false =>
     have HH : Hid (false = A) := hid (by rw [← hA,ok_two hk2,hn,he]; simp);have fe := eE _ he;rw [hk2];clear eE eR hA HRS HEN he hk hk2;generalize t.es.length = Ke at *;generalize t.rest.length = Kr at *;generalize t.n = N at *;generalize t.s = S at *
     go_enter Tryz.func48,Tryz.ntmps48
     go_wp2_with fail;go_ret;exact ⟨congrArg (fun b => Ending.returned (Value.bool b)) HH.out,HAL.out _⟩
    | true =>
     cases hr : (t.rest.isEmpty) with
     | false =>
      have HH : Hid (false = A) := hid (by rw [← hA,ok_two hk2,hn,he,hr]; simp);have fe := eE _ he;have fr := eR _ hr;rw [hk2];clear eE eR hA HRS HEN he hr hk hk2;generalize t.es.length = Ke at *;generalize t.rest.length = Kr at *;generalize t.n = N at *;generalize t.s = S at *
      go_enter Tryz.func48,Tryz.ntmps48
      go_wp2_with fail;go_ret;exact ⟨congrArg (fun b => Ending.returned (Value.bool b)) HH.out,HAL.out _⟩
     | true =>
      have HH : Hid (true = A) := hid (by rw [← hA,ok_two hk2,hn,he,hr]; simp);have fe := eE _ he;have fr := eR _ hr;rw [hk2];clear eE eR hA HRS HEN he hr hk hk2;generalize t.es.length = Ke at *;generalize t.rest.length = Kr at *;generalize t.n = N at *;generalize t.s = S at *
      go_enter Tryz.func48,Tryz.ntmps48
      go_wp2_with fail;go_ret;exact ⟨congrArg (fun b => Ending.returned (Value.bool b)) HH.out,HAL.out _⟩
  ·by_cases hk3 : t.kind = 3
   ·cases hn : (t.n == 0) with
    | false =>
     have HH : Hid (false = A) := hid (by rw [← hA,ok_three hk3,hn]; simp);rw [hk3];clear eE eR hA HRS HEN hk hk2 hk3;generalize t.es.length = Ke at *;generalize t.rest.length = Kr at *;generalize t.n = N at *;generalize t.s = S at *
     go_enter Tryz.func48,Tryz.ntmps48
     go_wp2_with fail;go_ret;exact ⟨congrArg (fun b => Ending.returned (Value.bool b)) HH.out,HAL.out _⟩
    | true =>
     cases hs : (t.s.size == 0) with
     | false =>
      have HH : Hid (false = A) := hid (by rw [← hA,ok_three hk3,hn,hs]; simp);have fs := str_not hs;rw [hk3];clear eE eR hA HRS HEN hs hk hk2 hk3;generalize t.es.length = Ke at *;generalize t.rest.length = Kr at *;generalize t.n = N at *;generalize t.s = S at *
      go_enter Tryz.func48,Tryz.ntmps48
      go_wp2_with fail;go_ret;exact ⟨congrArg (fun b => Ending.returned (Value.bool b)) HH.out,HAL.out _⟩
     | true =>
      have HA : Hid ((entA n' 0 t.es && restB t.rest t.es) = A) := hid (by rw [← hA,ok_three hk3,hn,hs]; simp);have hsz := str_empty hs;rw [hk3] at HRS ⊢;rw [hsz] at HRS ⊢;clear eE eR hA hs hk hk2 hk3 hsz;generalize t.es.length = Ke at *;generalize t.rest.length = Kr at *;generalize t.n = N at *;have B0 : Blk (w.alloc (Obj.cells #[.int .i64 3,.int .i64 N,.string ⟨#[]⟩,.slice pe Ke ce,.slice pr Kr cr] 30)) w.heap.size #[.int .i64 3,.int .i64 N,.string ⟨#[]⟩,.slice pe Ke ce,.slice pr Kr cr] 30 := Blk.new w _ _;have HB0 : Hid (Blk (w.alloc (Obj.cells #[.int .i64 3,.int .i64 N,.string ⟨#[]⟩,.slice pe Ke ce,.slice pr Kr cr] 30)) w.heap.size #[.int .i64 3,.int .i64 N,.string ⟨#[]⟩,.slice pe Ke ce,.slice pr Kr cr] 30) := B0;clear B0
      go_enter Tryz.func48,Tryz.ntmps48
      go_wp2_with fail;refine (HEN.out _ (HAL.out _)).mono ?_;rintro e w1 ⟨rfl,hb1⟩;have hbw1 : Below w.heap.size w w1 := (HAL.out _).trans (hb1.mono (by simp));have B1 := HB0.out.below hb1;obtain ⟨a0,a1,a2,a3,a4⟩ := cl5 B1;clear B1 hb1 HB0 HEN
      cases hE : entA n' 0 t.es with
      | false =>
       have HH : Hid (false = A) := hid (by rw [← HA.out,hE]; rfl);clear HA hE HRS;go_wp2_with fail;go_ret;exact ⟨congrArg (fun b => Ending.returned (Value.bool b)) HH.out,hbw1⟩
      | true =>
       have HH : Hid (restB t.rest t.es = A) := hid (by rw [← HA.out,hE]; rfl);clear HA hE;go_wp2_with fail;refine (HRS.out _ hbw1).mono ?_;rintro e w2 ⟨rfl,hb2⟩;rw [HH.out];have hbw2 : Below w.heap.size w w2 := hbw1.trans (hb2.mono hbw1.size);clear hb2 hbw1 a0 a1 a2 a3 a4 HRS;go_wp2_with fail;go_ret;exact ⟨rfl,hbw2⟩
   ·have HH : Hid (false = A) := hid (by rw [← hA,ok_none hk hk2 hk3])
    have f1 : (t.kind == 1) = false := by simpa using hk
    have f2 : (t.kind == 2) = false := by simpa using hk2
    have f3 : (t.kind == 3) = false := by simpa using hk3
    clear eE eR hA HRS HEN hk hk2 hk3;generalize t.es.length = Ke at *;generalize t.rest.length = Kr at *;generalize t.n = N at *;generalize t.s = S at *;generalize t.kind = K at *
    go_enter Tryz.func48,Tryz.ntmps48
    go_wp2_with fail;go_ret;exact ⟨congrArg (fun b => Ending.returned (Value.bool b)) HH.out,HAL.out _⟩
theorem rcheckN_any : ∀ (n : Nat) (t : Tr) (v : Value) (w : World),TrIn n w v t → Calls Tryz.prog 48 #[v] w fun e w' => e = .returned (.bool (okN n t)) ∧ Below w.heap.size w w'
 | 0,_,_,_,h => by obtain ⟨r,_,h⟩ := h; exact h.elim
 | n + 1,t,v,w,h => rcheckN_step n (fun t v w h => rcheckN_any n t v w h) t v w h
theorem rCheck_any (n : Nat) (t : Tr) (v : Value) (w : World) (h : TrIn n w v t) (hn : n ≤ 100) : Calls Tryz.prog 26 #[v] w fun e w' => e = .returned (.bool (chkN n t)) ∧ Below w.heap.size w w' := by
 have HAL : Hid (∀ (o : Obj),Below w.heap.size w (w.alloc o)) := fun o => bra _
 have HD : Hid (∀ W,Below w.heap.size w W → Calls Tryz.prog 47 #[v] W fun e w' => e = .returned (.int .i64 (dpN n t : Nat)) ∧ Below W.heap.size W w') := fun W hW => rDepth_any n t v W (h.below hW) hn
 have HC : Hid (∀ W,Below w.heap.size w W → Calls Tryz.prog 48 #[v] W fun e w' => e = .returned (.bool (okN n t)) ∧ Below W.heap.size W w') := fun W hW => rcheckN_any n t v W (h.below hW)
 obtain ⟨A,hA⟩ : ∃ A,chkN n t = A := ⟨_,rfl⟩;rw [hA];have HA : Hid ((decide (dpN n t ≤ 10) && okN n t) = A) := hA;obtain ⟨n',ve,vr,e0,rfl, -, -, -, -,ra,ea⟩ := h.open;obtain ⟨pe,ce,rfl, -⟩ := ea.open;obtain ⟨pr,cr,rfl, -⟩ := rest_holds ra;generalize t.es.length = Ke at *;generalize t.rest.length = Kr at *;generalize dpN n t = D at *;generalize okN n t = O at *;generalize t.kind = K at *;generalize t.n = N at *;generalize t.s = S at *;clear h ra ea e0 hA;have HB0 : Hid (Blk (w.alloc (Obj.cells #[.int .i64 K,.int .i64 N,.string S,.slice pe Ke ce,.slice pr Kr cr] 30)) w.heap.size #[.int .i64 K,.int .i64 N,.string S,.slice pe Ke ce,.slice pr Kr cr] 30) := Blk.new w _ _
 go_enter Tryz.func26,Tryz.ntmps26
 go_wp2_with fail;refine (HD.out _ (HAL.out _)).mono ?_;rintro e w1 ⟨rfl,hb1⟩;have hbw1 : Below w.heap.size w w1 := (HAL.out _).trans (hb1.mono (by simp));have B1 := HB0.out.below hb1;obtain ⟨a0,a1,a2,a3,a4⟩ := cl5 B1;clear B1 hb1 HB0 HD
 by_cases hd : D ≤ 10
 ·have hq : decide ((D : Int) ≤ 10) = true := by simp; omega
  have HH : Hid (O = A) := hid (by rw [← HA.out]; simp [hd]);clear HA;go_wp2_with fail;refine (HC.out _ hbw1).mono ?_;rintro e w2 ⟨rfl,hb2⟩;rw [HH.out];have hbw2 : Below w.heap.size w w2 := hbw1.trans (hb2.mono hbw1.size);clear hb2 hbw1 a0 a1 a2 a3 a4 HC;go_wp2_with fail;go_ret;exact ⟨rfl,hbw2⟩
 ·have hq : decide ((D : Int) ≤ 10) = false := by simp; omega
  have HH : Hid (false = A) := hid (by rw [← HA.out]; simp [hd]);clear HA;go_wp2_with fail;go_ret;exact ⟨congrArg (fun b => Ending.returned (Value.bool b)) HH.out,hbw1⟩
end
end Go.Proofs.YtmgbhicogmclgaaGreat
