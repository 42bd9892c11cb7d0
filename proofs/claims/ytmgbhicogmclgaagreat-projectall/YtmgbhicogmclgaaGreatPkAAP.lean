/- Part 16 of what the proof stands on. -/
import Derived.Test.YtmgbhicogmclgaaGreatPkAAO
namespace Go.Proofs.YtmgbhicogmclgaaGreat
set_option maxHeartbeats 8000000
set_option linter.unusedVariables false
set_option linter.unusedSimpArgs false
set_option maxRecDepth 20000
section
open Go.ChangeShapes Go.WideShapes Go.ChangeAt Go.RowKit Go.Maps
theorem FewS.sm {s : ScS} (h : FewS s) : ∀ m ∈ s.msgs,m.name.size ≤ 20000 ∧ ∀ f ∈ m.fields,f.name.size ≤ 20000 := fun m hm => by
 have h1 := h.eachM m hm;refine ⟨by have := h1.1; omega,fun f hf => ?_⟩;have h2 := (h1.2.2.2 f hf);unfold flFew at h2
 omega
theorem FewS.sn {s : ScS} (h : FewS s) : ∀ m ∈ s.enums,m.name.size ≤ 20000 ∧ ∀ f ∈ m.values,f.name.size ≤ 20000 := fun m hm => by
 have h1 := h.eachE m hm;refine ⟨by have := h1.1; omega,fun f hf => ?_⟩;have h2 := (h1.2.2 f hf);unfold nmFew at h2
 omega
structure MayS (s : ScS) : Prop where
 may : MayL s
 name : s.name.size ≤ 20000
 sm : ∀ m ∈ s.msgs,m.name.size ≤ 20000 ∧ ∀ f ∈ m.fields,f.name.size ≤ 20000
 sn : ∀ m ∈ s.enums,m.name.size ≤ 20000 ∧ ∀ f ∈ m.values,f.name.size ≤ 20000
 st : ∀ m ∈ s.methods,m.name.size ≤ 20000
theorem FewS.mayS {s : ScS} (h : FewS s) : MayS s := ⟨h.few.may,Nat.le_trans h.name (by decide),h.sm,h.sn,fun m hm => Nat.le_trans (h.eachT m hm).1 (by decide)⟩
theorem rcheck_may {w : World} {v : Value} {s : ScS} (hr : ScIn w v s) (hfs : MayS s) :
  Calls Tryz.prog 15 #[v] w fun e w' => e = .returned (.int .i64 (checkA s)) ∧ Below w.heap.size w w' := by
 obtain ⟨vm0,ve0,vt0,rfl,hm,he,ht⟩ := hr;obtain ⟨am,cm,rfl,qm1,qm2⟩ := hm.form2;obtain ⟨ae,ce,rfl,qe1,qe2⟩ := he.form2;obtain ⟨at',ct,rfl,qt1,qt2⟩ := ht.form2
 have hTl : (mtRows s.methods).length = s.methods.length := by simp [mtRows]
 rw [hTl] at ht qt1 ⊢;obtain ⟨M,hM⟩ : ∃ N,s.msgs.length = N := ⟨_,rfl⟩;obtain ⟨E,hE⟩ : ∃ N,s.enums.length = N := ⟨_,rfl⟩;obtain ⟨T,hT⟩ : ∃ N,s.methods.length = N := ⟨_,rfl⟩;obtain ⟨nm,hnm⟩ : ∃ N,s.name = N := ⟨_,rfl⟩;rw [hM] at hm qm1 ⊢;rw [hE] at he qe1 ⊢;rw [hT] at ht qt1 ⊢;rw [hnm];have HM : Hid (MsIn w (.slice am M cm) s.msgs) := hm;have HE : Hid (EnIn w (.slice ae E ce) s.enums) := he;have HTR : Hid (RowG w (.slice at' T ct) 3 (mtRows s.methods)) := ht;have HLM : Hid (s.msgs.length = M) := hM;have HLE : Hid (s.enums.length = E) := hE;have HLT : Hid (s.methods.length = T) := hT;have HNM : Hid (s.name = nm) := hnm;have HF : Hid (MayS s) := hfs
 have hM14 : M ≤ 30000 := by have := hfs.may.msgs; omega
 have hE10 : E ≤ 30000 := by have := hfs.may.enums; omega
 have hT10 : T ≤ 30000 := by have := hfs.may.meths; omega
 have hns : nm.size ≤ 20000 := by have := hfs.name; rw [hnm] at this; omega
 clear hm he ht hM hE hT hnm hfs hTl;obtain ⟨A,hA⟩ : ∃ A,checkA s = A := ⟨_,rfl⟩;rw [hA];have HA : Hid (A = checkA s) := hA.symm;clear hA;have hba : Below w.heap.size w (w.alloc (.cells #[.string nm,.slice am M cm,.slice ae E ce,.slice at' T ct] 26)) := (Below.refl _ _).alloc (Nat.le_refl _) _;have BX0 := Blk.new w #[.string nm,.slice am M cm,.slice ae E ce,.slice at' T ct] 26
 go_enter Tryz.func15,Tryz.ntmps15
 go_wp2_with fail;refine (rfname_any nm _ hns).mono ?_;rintro e w1 ⟨rfl,hb1⟩;have hbw1 : Below w.heap.size w w1 := hba.trans (hb1.mono hba.size);have BX1 := BX0.below hb1;clear hb1 hba BX0
 cases hn : nameB nm with
 | false =>
  have HA2 : Hid (A = 6) := by show _ = _; rw [HA.out]; unfold checkA wholeA; rw [HNM.out,if_pos hn]; rfl
  clear HA hn;go_wp2_with fail;go_ret;exact ⟨ret_e HA2.out.symm,hbw1⟩
 | true =>
  have c0 : w1.cell? ⟨w.heap.size,0,none⟩ = some (.string nm) := BX1.cell 0;have c1 : w1.cell? ⟨w.heap.size,1,none⟩ = some (.slice am M cm) := BX1.cell 1;have c2 : w1.cell? ⟨w.heap.size,2,none⟩ = some (.slice ae E ce) := BX1.cell 2;have c3 : w1.cell? ⟨w.heap.size,3,none⟩ = some (.slice at' T ct) := BX1.cell 3
  by_cases hM0 : M = 0
  ·have HA2 : Hid (A = 12) := by show _ = _; rw [HA.out]; unfold checkA wholeA; rw [HNM.out,if_neg (by rw [hn]; decide),if_pos (by rw [HLM.out]; exact hM0)]; rfl
   clear HA hn;subst hM0;go_wp2_with fail;go_ret;exact ⟨ret_e HA2.out.symm,hbw1⟩
  by_cases hbig : 10 < M
  ·have HA2 : Hid (A = 4) := by show _ = _; rw [HA.out]; unfold checkA wholeA; rw [HNM.out,if_neg (by rw [hn]; decide),if_neg (by rw [HLM.out]; exact hM0),if_pos (by unfold bigS; rw [HLM.out,decide_eq_true (.inl hbig)])]; rfl
   clear HA hn;go_wp2_with fail;go_ret;exact ⟨ret_e HA2.out.symm,hbw1⟩
  by_cases hbig2 : 6 < E
  ·have HA2 : Hid (A = 4) := by show _ = _; rw [HA.out]; unfold checkA wholeA; rw [HNM.out,if_neg (by rw [hn]; decide),if_neg (by rw [HLM.out]; exact hM0),if_pos (by unfold bigS; rw [HLE.out,decide_eq_true (.inr (.inl hbig2))])]; rfl
   clear HA hn;go_wp2_with fail;go_ret;exact ⟨ret_e HA2.out.symm,hbw1⟩
  by_cases hbig3 : 6 < T
  ·have HA2 : Hid (A = 4) := by show _ = _; rw [HA.out]; unfold checkA wholeA; rw [HNM.out,if_neg (by rw [hn]; decide),if_neg (by rw [HLM.out]; exact hM0),if_pos (by unfold bigS; rw [HLT.out,decide_eq_true (.inr (.inr hbig3))])]; rfl
   clear HA hn;go_wp2_with fail;go_ret;exact ⟨ret_e HA2.out.symm,hbw1⟩
  obtain ⟨X,hX⟩ : ∃ X,partsA s = X := ⟨_,rfl⟩
  have HA2 : Hid (A = orE X (chkTs s.mn ((s.methods.take 0).map MtS.name) (s.methods.drop 0))) := by
   show _ = _
   rw [HA.out]; unfold checkA wholeA;rw [HNM.out,if_neg (by rw [hn]; decide),if_neg (by rw [HLM.out]; exact hM0),if_neg (by unfold bigS; rw [HLM.out,HLE.out,HLT.out,decide_eq_false (by omega)]; decide),orE_zero,hX]
   rfl
  have HP : Hid (∀ W,Below w.heap.size w W → Calls Tryz.prog 29 #[.agg #[.string nm,.slice am M cm,.slice ae E ce,.slice at' T ct]] W fun e W' => e = .returned (.int .i64 X) ∧ Below W.heap.size W W') := fun W hW => by
   rw [← hX];exact rparts_any (HM.out.below hW) (HE.out.below hW) HLM.out HLE.out hM14 hE10 HF.out.may.flds HF.out.may.vals HF.out.sm HF.out.sn
  clear HA hX hn;go_wp2_with fail;clear c0 c1 c2 c3;refine (HP.out w1 hbw1).mono ?_;rintro e w2 ⟨rfl,hb2⟩;have hbw2 : Below w.heap.size w w2 := hbw1.trans (hb2.mono hbw1.size);have BX2 := BX1.below hb2;clear hb2 hbw1 BX1 HP
  by_cases hX0 : X = 0
  case neg =>
   have HA3 : Hid (A = X) := by show _ = _; rw [HA2.out,orE_ne hX0]
   have hq : (X == 0) = false := by rw [beq_eq_false_iff_ne]; exact hX0
   clear HA2 hX0;go_wp2_with fail;go_ret;exact ⟨ret_e HA3.out.symm,hbw2⟩
  subst hX0
  have HA3 : Hid (A = chkTs s.mn ((s.methods.take 0).map MtS.name) (s.methods.drop 0)) := by show _ = _; rw [HA2.out,orE_zero]
  have HS0 : Hid (Seen w2 w.heap.size (.slice none 0 0) ((s.methods.take 0).map MtS.name)) := Seen.nil _ _;clear HA2;go_wp2_with fail
  go_loopw [4,5] (fun nv iv wr => ∃ (k : Nat) (sa : Option Addr) (sc : Nat),nv = .slice sa k sc ∧ iv = .int .i64 (k : Int) ∧ k ≤ T ∧ Hid (A = chkTs s.mn ((s.methods.take k).map MtS.name) (s.methods.drop k)) ∧ Hid (Seen wr w.heap.size (.slice sa k sc) ((s.methods.take k).map MtS.name)) ∧ Below w.heap.size w wr ∧ Blk wr w.heap.size #[.string nm,.slice am M cm,.slice ae E ce,.slice at' T ct] 26) (fun _ iv _ => T - (intOf iv).toNat)
  case atStart => exact ⟨0,none,0,rfl,rfl,by omega,HA3,HS0,hbw2,BX2⟩
  case round =>
   clear HA3 HS0 hbw2 BX2;obtain ⟨k,sa,sc,rfl,rfl,hk,HAk,HSE,hbel,BX⟩ := hrel;have x3 : wr.cell? ⟨w.heap.size,3,none⟩ = some (.slice at' T ct) := BX.cell 3
   by_cases hlt : k < T
   ·obtain ⟨m,hm⟩ : ∃ x,s.methods[k]? = some x := ⟨_,List.getElem?_eq_getElem (by rw [HLT.out]; exact hlt)⟩;have hsz := HF.out.st m (List.mem_of_getElem? hm);obtain ⟨m0,m1,m2⟩ := m;simp only at hsz
    have hfr : (mtRows s.methods)[k]? = some [.string m0,.string m1,.string m2] := by simp [mtRows,MtS.cells,hm]
    obtain ⟨g,off,rfl,hcs⟩ := HTR.out.get hfr;have C0 := hcs 0 _ rfl;have C1 := hcs 1 _ rfl;have C2 := hcs 2 _ rfl;simp only [Nat.add_zero] at C0 C1 C2
    have HTK : Hid ((s.methods.take (k + 1)).map MtS.name = (s.methods.take k).map MtS.name ++ [m0]) := by show _ = _; rw [List.take_add_one,hm]; simp
    obtain ⟨al,hal⟩ : ∃ al,(s.methods.take k).map MtS.name = al := ⟨_,rfl⟩;rw [hal] at HAk HSE HTK
    have HAL : Hid (al.length = k) := by show _ = _; rw [← hal,List.length_map,List.length_take,HLT.out]; omega
    have HA2 : Hid (A = if freshB m0 al = false then 6 else if (memB m1 s.mn && memB m2 s.mn) = false then 8 else chkTs s.mn (al ++ [m0]) (s.methods.drop (k + 1))) := by
     show _ = _
     rw [HAk.out,drop_at hm]; rfl
    have p0 : wr.cell? ⟨g,off + k * 3,none⟩ = some (.string m0) := (hbel.cell (World.block_lt_of_cell? _ _ C0)).trans C0;have p1 : wr.cell? ⟨g,off + k * 3 + 1,none⟩ = some (.string m1) := (hbel.cell (World.block_lt_of_cell? _ _ C1)).trans C1;have p2 : wr.cell? ⟨g,off + k * 3 + 2,none⟩ = some (.string m2) := (hbel.cell (World.block_lt_of_cell? _ _ C2)).trans C2;have ha : Below wr.heap.size wr (wr.alloc (.cells #[.string m0,.string m1,.string m2] 63)) := (Below.refl _ _).alloc (Nat.le_refl _) _;have BV := Blk.new wr #[.string m0,.string m1,.string m2] 63;clear C0 C1 C2 hcs hfr hm hal HAk;go_wp2_with fail;clear x3 p0 p1 p2;refine (rfresh_any m0 (by omega) (HSE.out.below ha).row).mono ?_;rintro e w1 ⟨rfl,hb1⟩;have hbw1 : Below w.heap.size w w1 := (hbel.trans (ha.mono hbel.size)).trans (hb1.mono (hbel.trans (ha.mono hbel.size)).size);have HS1 : Hid (Seen w1 w.heap.size (.slice sa k sc) al) := (HSE.out.below ha).below hb1;have BX1 := (BX.below ha).below hb1;have BV1 := BV.below hb1;clear BV ha hb1 HSE
    cases hfr : freshB m0 al with
    | false =>
     have HA4 : Hid (A = 6) := by show _ = _; rw [HA2.out,if_pos hfr]
     clear HA2;go_wp2_with fail;go_ret;exact ⟨ret_e HA4.out.symm,hbw1⟩
    | true =>
     have HA4 : Hid (A = if (memB m1 s.mn && memB m2 s.mn) = false then 8 else chkTs s.mn (al ++ [m0]) (s.methods.drop (k + 1))) := by show _ = _; rw [HA2.out,if_neg (by rw [hfr]; decide)]
     clear HA2 hfr;obtain ⟨bv,hbv⟩ : ∃ n,wr.heap.size = n := ⟨_,rfl⟩;rw [hbv] at BV1 ⊢;clear hbv hbel BX;have v0 : w1.cell? ⟨bv,0,none⟩ = some (.string m0) := BV1.cell 0
     go_wp2_with (first
      | (at_builtin; refine wpList_seen (al := al) (x := m0) rfl _ _ rfl rfl rfl HS1.out ?c1 ?c2 ?_)
      | fail)
     case c1 => exact hbw1.size
     case c2 => rw [HAL.out]; omega
     intro v' w2 hS2 hK2 hB2;obtain ⟨ta,tc,rfl⟩ := hS2.form
     have hl2 : (al ++ [m0]).length = k + 1 := by rw [List.length_append,HAL.out]; rfl
     rw [hl2] at hS2 ⊢;have HS2 : Hid (Seen w2 w.heap.size (.slice ta (k + 1) tc) (al ++ [m0])) := hS2;have HAL2 : Hid ((al ++ [m0]).length = k + 1) := hl2;have hb2 : Below w.heap.size w w2 := hbw1.trans hB2;have BX2 := BX1.kp hK2 (fun e => absurd (own_type HS1.out e BX1) (by decide));have BV2 := BV1.kp hK2 (fun e => absurd (own_type HS1.out e BV1) (by decide));clear v0 hS2 hl2 hK2 hB2 BX1 BV1 HS1 hbw1 HAL;have b0 : (w2).cell? ⟨w.heap.size,0,none⟩ = some (.string nm) := BX2.cell 0;have b1 : (w2).cell? ⟨w.heap.size,1,none⟩ = some (.slice am M cm) := BX2.cell 1;have b2 : (w2).cell? ⟨w.heap.size,2,none⟩ = some (.slice ae E ce) := BX2.cell 2;have b3 : (w2).cell? ⟨w.heap.size,3,none⟩ = some (.slice (some ⟨g,off,none⟩) T ct) := BX2.cell 3;have b4 : (w2).cell? ⟨bv,1,none⟩ = some (.string m1) := BV2.cell 1;go_wp2_with fail;refine (r7message_any (HM.out.below hb2)).mono ?_;rintro e wv ⟨vf,vr,rfl,h1,h2,hb⟩;rw [find_mn];obtain ⟨ya,yc,rfl,_,_⟩ := h1.form2;obtain ⟨yd,ye,rfl,_,_⟩ := h2.form2;generalize ((s.msgs.find? fun x => decide (x.name = m1)).getD zeroM).name = yn at *;generalize (flRows ((s.msgs.find? fun x => decide (x.name = m1)).getD zeroM).fields).length = yF at *;generalize (inRows ((s.msgs.find? fun x => decide (x.name = m1)).getD zeroM).reserved).length = yR at *;have ha : Below wv.heap.size wv (wv.alloc (.cells #[.string yn,.slice ya yF yc,.slice yd yR ye] 52)) := (Below.refl _ _).alloc (Nat.le_refl _) _;have hbwv : Below w.heap.size w (wv.alloc (.cells #[.string yn,.slice ya yF yc,.slice yd yR ye] 52)) := (hb2.trans (hb.mono hb2.size)).trans (ha.mono (hb2.trans (hb.mono hb2.size)).size);have BXwv := (BX2.below hb).below ha;have BVwv := (BV2.below hb).below ha;have HSwv : Hid (Seen (wv.alloc (.cells #[.string yn,.slice ya yF yc,.slice yd yR ye] 52)) w.heap.size (.slice ta (k + 1) tc) (al ++ [m0])) := Seen.below (Seen.below HS2.out hb) ha;obtain ⟨yB,hyB⟩ : ∃ B,memB m1 (s.msgs.map MsS.name) = B := ⟨_,rfl⟩;rw [hyB];have HyB : Hid (memB m1 s.mn = yB) := hyB;clear b0 b1 b2 b3 b4 h1 h2 hb hb2 BX2 BV2 ha hyB;have b0 : (wv.alloc (.cells #[.string yn,.slice ya yF yc,.slice yd yR ye] 52)).cell? ⟨w.heap.size,0,none⟩ = some (.string nm) := BXwv.cell 0;have b1 : (wv.alloc (.cells #[.string yn,.slice ya yF yc,.slice yd yR ye] 52)).cell? ⟨w.heap.size,1,none⟩ = some (.slice am M cm) := BXwv.cell 1;have b2 : (wv.alloc (.cells #[.string yn,.slice ya yF yc,.slice yd yR ye] 52)).cell? ⟨w.heap.size,2,none⟩ = some (.slice ae E ce) := BXwv.cell 2;have b3 : (wv.alloc (.cells #[.string yn,.slice ya yF yc,.slice yd yR ye] 52)).cell? ⟨w.heap.size,3,none⟩ = some (.slice (some ⟨g,off,none⟩) T ct) := BXwv.cell 3;have b4 : (wv.alloc (.cells #[.string yn,.slice ya yF yc,.slice yd yR ye] 52)).cell? ⟨bv,2,none⟩ = some (.string m2) := BVwv.cell 2;go_wp2_with fail;refine (r7message_any (HM.out.below hbwv)).mono ?_;rintro e wx ⟨vf,vr,rfl,h1,h2,hb⟩;rw [find_mn];obtain ⟨za,zc,rfl,_,_⟩ := h1.form2;obtain ⟨zd,ze,rfl,_,_⟩ := h2.form2;generalize ((s.msgs.find? fun x => decide (x.name = m2)).getD zeroM).name = zn at *;generalize (flRows ((s.msgs.find? fun x => decide (x.name = m2)).getD zeroM).fields).length = zF at *;generalize (inRows ((s.msgs.find? fun x => decide (x.name = m2)).getD zeroM).reserved).length = zR at *;have ha : Below wx.heap.size wx (wx.alloc (.cells #[.string zn,.slice za zF zc,.slice zd zR ze] 52)) := (Below.refl _ _).alloc (Nat.le_refl _) _;have hbwx : Below w.heap.size w (wx.alloc (.cells #[.string zn,.slice za zF zc,.slice zd zR ze] 52)) := (hbwv.trans (hb.mono hbwv.size)).trans (ha.mono (hbwv.trans (hb.mono hbwv.size)).size);have BXwx := (BXwv.below hb).below ha;have BVwx := (BVwv.below hb).below ha;have HSwx : Hid (Seen (wx.alloc (.cells #[.string zn,.slice za zF zc,.slice zd zR ze] 52)) w.heap.size (.slice ta (k + 1) tc) (al ++ [m0])) := Seen.below (Seen.below HSwv.out hb) ha;obtain ⟨zB,hzB⟩ : ∃ B,memB m2 (s.msgs.map MsS.name) = B := ⟨_,rfl⟩;rw [hzB];have HzB : Hid (memB m2 s.mn = zB) := hzB;clear b0 b1 b2 b3 b4 h1 h2 hb hbwv BXwv BVwv ha hzB
     cases yB with
     | false =>
      have HA5 : Hid (A = 8) := by show _ = _; rw [HA4.out,if_pos (by rw [HyB.out]; rfl)]
      clear HA4;go_wp2_with fail;go_ret;exact ⟨ret_e HA5.out.symm,hbwx⟩
     | true =>
      cases zB with
      | false =>
       have HA5 : Hid (A = 8) := by show _ = _; rw [HA4.out,if_pos (by rw [HyB.out,HzB.out]; rfl)]
       clear HA4;go_wp2_with fail;go_ret;exact ⟨ret_e HA5.out.symm,hbwx⟩
      | true =>
       have HA5 : Hid (A = chkTs s.mn ((s.methods.take (k + 1)).map MtS.name) (s.methods.drop (k + 1))) := by show _ = _; rw [HA4.out,if_neg (by rw [HyB.out,HzB.out]; decide),HTK.out]
       have HS4 : Hid (Seen (wx.alloc (.cells #[.string zn,.slice za zF zc,.slice zd zR ze] 52)) w.heap.size (.slice ta (k + 1) tc) ((s.methods.take (k + 1)).map MtS.name)) := by show Seen _ _ _ _; rw [HTK.out]; exact HSwx.out
       clear HA4;go_wp2_with fail
       go_roundw
       case rel => exact ⟨k + 1,ta,tc,rfl,by go_num,by omega,HA5,HS4,hbwx,BXwx⟩
       case measure => simp [intOf]; omega
   ·have HA3 : Hid (A = 0) := by show _ = _; rw [HAk.out,drop_end (by rw [HLT.out]; omega)]; rfl
    clear HAk;go_wp2_with fail;go_ret;exact ⟨ret_e HA3.out.symm,hbel⟩
theorem rcheck_any {w : World} {v : Value} {s : ScS} (hr : ScIn w v s) (hfs : FewS s) :
  Calls Tryz.prog 15 #[v] w fun e w' => e = .returned (.int .i64 (checkA s)) ∧ Below w.heap.size w w' := rcheck_may hr hfs.mayS
end
section
open Go.ChangeShapes Go.WideShapes Go.ChangeAt Go.RowKit
def SeePP (n : Nat) (R : Tr × Bool) (w : World) (e : Ending) (w' : World) : Prop := ∃ r bs,e = .returned (.tuple #[.agg r.toArray,.bool R.2]) ∧ TrX n w.heap.size w' r R.1 bs ∧ Apt w.heap.size w' bs ∧ Below w.heap.size w w'
theorem SeePP.done {n b : Nat} {w W : World} {R : Tr × Bool} {x0 x1 x2 x3 x4 : Value} {bs : List Nat} {y : Bool} (hB : Below w.heap.size w W) (hb : w.heap.size ≤ b) (ht : TrX n w.heap.size W [x0,x1,x2,x3,x4] R.1 bs) (hap : Apt w.heap.size W bs) (hn : b ∉ bs) (hy : R.2 = y) :
  SeePP n R w (.returned (.tuple #[.agg #[x0,x1,x2,x3,x4],.bool y])) (set5 W b 0 x0 x1 x2 x3 x4) := by
 have hk := set5_kp W b 0 x0 x1 x2 x3 x4;subst hy;exact ⟨[x0,x1,x2,x3,x4],bs,rfl,ht.sm (set5_sm hn),hap.mono hk.size,hB.trans (hk.toBelow hB.size fun q e => by rw [e]; exact hb)⟩
theorem pblk3 (w : World) (c1 c2 c3 : Array Value) (t1 t2 t3 : TypeId) : Blk (((w.alloc (Obj.cells c1 t1)).alloc (Obj.cells c2 t2)).alloc (Obj.cells c3 t3)) w.heap.size c1 t1 ∧ Blk (((w.alloc (Obj.cells c1 t1)).alloc (Obj.cells c2 t2)).alloc (Obj.cells c3 t3)) (w.heap.size + 1) c2 t2 ∧ Blk (((w.alloc (Obj.cells c1 t1)).alloc (Obj.cells c2 t2)).alloc (Obj.cells c3 t3)) (w.heap.size + 2) c3 t3 ∧ Below w.heap.size w (((w.alloc (Obj.cells c1 t1)).alloc (Obj.cells c2 t2)).alloc (Obj.cells c3 t3)) := by
 have s1 : (w.alloc (Obj.cells c1 t1)).heap.size = w.heap.size + 1 := by simp
 have s2 : ((w.alloc (Obj.cells c1 t1)).alloc (Obj.cells c2 t2)).heap.size = w.heap.size + 2 := by simp
 have al : ∀ (W : World) (x : Obj),Below W.heap.size W (W.alloc x) := fun W x => (Below.refl _ _).alloc (Nat.le_refl _) _
 have b1 := Blk.new w c1 t1;have b2 := Blk.new (w.alloc (Obj.cells c1 t1)) c2 t2;have b3 := Blk.new ((w.alloc (Obj.cells c1 t1)).alloc (Obj.cells c2 t2)) c3 t3;rw [s1] at b2;rw [s2] at b3;exact ⟨(b1.below (al _ _)).below (al _ _),b2.below (al _ _),b3,(((Below.refl _ w).alloc (Nat.le_refl _) _).alloc (by omega) _).alloc (by omega) _⟩
theorem rproject_any {s : ScS} (sn : ByteArray) (ma ea ta : Option Addr) (mn mc en ec tn tc : Nat) (n : Nat) (t : Tr) (K N : Int) (S : ByteArray) (a1 a2 : Option Addr) (n1 c1 n2 c2 : Nat) (nm : ByteArray) (w : World) (hr : ScIn w (.agg #[.string sn,.slice ma mn mc,.slice ea en ec,.slice ta tn tc]) s) (hfs : FewS s) (ht : TrIn (n + 1) w (.agg #[.int .i64 K,.int .i64 N,.string S,.slice a1 n1 c1,.slice a2 n2 c2]) t) (hsm : SmN (n + 1) t) (hn : n ≤ 60) :
  Calls Tryz.prog 11 #[.agg #[.string sn,.slice ma mn mc,.slice ea en ec,.slice ta tn tc],.string nm,.agg #[.int .i64 K,.int .i64 N,.string S,.slice a1 n1 c1,.slice a2 n2 c2]] w (SeePP (n + 1) (projA (n + 1) s nm t) w) := by
 have hms : MsIn w (.slice ma mn mc) s.msgs := by
  obtain ⟨vm,ve,vt,e,h1, -, -⟩ := hr;simp only [Value.agg.injEq,Array.mk.injEq,List.cons.injEq,and_true,Value.string.injEq] at e;obtain ⟨-,rfl, -, -⟩ := e;exact h1
 have hT : TrC (n + 1) w [.int .i64 K,.int .i64 N,.string S,.slice a1 n1 c1,.slice a2 n2 c2] t := by
  obtain ⟨r,e,h⟩ := ht;simp only [Value.agg.injEq] at e;have e' := congrArg Array.toList e;simp only at e';subst e';exact h
 have hTK : t.kind = K := by
  obtain ⟨ve,vr,e, -⟩ := hT;simp only [List.cons.injEq,Value.int.injEq,true_and] at e;exact e.1.symm
 have HMS : Hid (MsIn w (.slice ma mn mc) s.msgs) := hms;have HMC : Hid (∀ W,Below w.heap.size w W → Calls Tryz.prog 25 #[.agg #[.string sn,.slice ma mn mc,.slice ea en ec,.slice ta tn tc],.string nm] W fun e w' => ∃ vf vr,e = .returned (.tuple #[.agg #[.string ((msgOf s nm).getD zMs).name,vf,vr],.bool (msgOf s nm).isSome]) ∧ RowG w vf 5 (flRows ((msgOf s nm).getD zMs).fields) ∧ RowG w vr 1 (inRows ((msgOf s nm).getD zMs).reserved) ∧ Below W.heap.size W w') := fun W hW => r7messageW_any (w0 := w) hW hms
 obtain ⟨BS,BT,BR,hZb⟩ := pblk3 w #[.string sn,.slice ma mn mc,.slice ea en ec,.slice ta tn tc] #[.int .i64 K,.int .i64 N,.string S,.slice a1 n1 c1,.slice a2 n2 c2] #[.int .i64 0,.int .i64 0,.string ⟨#[]⟩,.slice none 0 0,.slice none 0 0] 26 30 30;have HRK : Hid (Calls Tryz.prog 15 #[.agg #[.string sn,.slice ma mn mc,.slice ea en ec,.slice ta tn tc]] (((w.alloc (Obj.cells #[.string sn,.slice ma mn mc,.slice ea en ec,.slice ta tn tc] 26)).alloc (Obj.cells #[.int .i64 K,.int .i64 N,.string S,.slice a1 n1 c1,.slice a2 n2 c2] 30)).alloc (Obj.cells #[.int .i64 0,.int .i64 0,.string ⟨#[]⟩,.slice none 0 0,.slice none 0 0] 30)) fun e w' => e = .returned (.int .i64 (checkA s)) ∧ Below (((w.alloc (Obj.cells #[.string sn,.slice ma mn mc,.slice ea en ec,.slice ta tn tc] 26)).alloc (Obj.cells #[.int .i64 K,.int .i64 N,.string S,.slice a1 n1 c1,.slice a2 n2 c2] 30)).alloc (Obj.cells #[.int .i64 0,.int .i64 0,.string ⟨#[]⟩,.slice none 0 0,.slice none 0 0] 30)).heap.size (((w.alloc (Obj.cells #[.string sn,.slice ma mn mc,.slice ea en ec,.slice ta tn tc] 26)).alloc (Obj.cells #[.int .i64 K,.int .i64 N,.string S,.slice a1 n1 c1,.slice a2 n2 c2] 30)).alloc (Obj.cells #[.int .i64 0,.int .i64 0,.string ⟨#[]⟩,.slice none 0 0,.slice none 0 0] 30)) w') := rcheck_any (hr.below hZb) hfs;have HTK : Hid (∀ W,Below w.heap.size w W → Calls Tryz.prog 26 #[.agg #[.int .i64 K,.int .i64 N,.string S,.slice a1 n1 c1,.slice a2 n2 c2]] W fun e w' => e = .returned (.bool (chkN (n + 1) t)) ∧ Below W.heap.size W w') := fun W hW => rCheck_any (n + 1) t _ W (ht.below hW) (by omega)
 have HTI : Hid (TrIn (n + 1) w (.agg #[.int .i64 K,.int .i64 N,.string S,.slice a1 n1 c1,.slice a2 n2 c2]) t ∧ SmN (n + 1) t ∧ t.kind = K) := ⟨ht,hsm,hTK⟩;clear hr hfs ht hsm hn hms hT hTK;obtain ⟨CA,hCA⟩ : ∃ z,checkA s = z := ⟨_,rfl⟩;have HCA : Hid (checkA s = CA) := hCA;rw [hCA] at HRK;clear hCA
 go_enter Tryz.func11,Tryz.ntmps11
 go_wp2_with fail;refine HRK.out.mono ?_;generalize (((w.alloc (Obj.cells #[.string sn,.slice ma mn mc,.slice ea en ec,.slice ta tn tc] 26)).alloc (Obj.cells #[.int .i64 K,.int .i64 N,.string S,.slice a1 n1 c1,.slice a2 n2 c2] 30)).alloc (Obj.cells #[.int .i64 0,.int .i64 0,.string ⟨#[]⟩,.slice none 0 0,.slice none 0 0] 30)) = Z at *;obtain ⟨b0,hb0⟩ : ∃ z,w.heap.size = z := ⟨_,rfl⟩;rw [hb0] at BS BT BR;simp only [hb0];have HBZ : Hid (w.heap.size = b0) := hb0
 have FIN : Hid (∀ (W : World) (x0 x1 x2 x3 x4 : Value) (bs : List Nat) (y : Bool) (R : Tr × Bool),projA (n + 1) s nm t = R → Below w.heap.size w W → R.2 = y → TrX (n + 1) w.heap.size W [x0,x1,x2,x3,x4] R.1 bs → Apt w.heap.size W bs → b0 + 2 ∉ bs → SeePP (n + 1) (projA (n + 1) s nm t) w (.returned (.tuple #[.agg #[x0,x1,x2,x3,x4],.bool y])) (set5 W (b0 + 2) 0 x0 x1 x2 x3 x4)) := fun W x0 x1 x2 x3 x4 bs y R hR hW hy h1 h2 h3 => by
  rw [hR];exact SeePP.done hW (by have := HBZ.out; omega) h1 h2 h3 hy
 have HBR : Hid (b0 + 2 < Z.heap.size) := BR.lt;clear hb0;rintro e w1 ⟨rfl,hb1⟩;have hbw1 : Below w.heap.size w w1 := hZb.trans (hb1.mono hZb.size);have HB1 : Hid (b0 + 2 < w1.heap.size) := Nat.lt_of_lt_of_le HBR.out hb1.size;have BS1 := BS.below hb1;have BT1 := BT.below hb1;have BR1 := BR.below hb1;clear BS BT BR hb1 hZb HRK
 by_cases hC0 : CA = 0
 rotate_left
 ·have dC : (CA != 0) = true := by simpa using hC0
  have HV : Hid (projA (n + 1) s nm t = (tr0,false)) := (by rw [projA,if_neg (fun h => hC0 (by rw [← HCA.out]; exact h.1))] : _ = _);have r0 := (BR1.cell 0).trans rfl;have r1 := (BR1.cell 1).trans rfl;have r2 := (BR1.cell 2).trans rfl;have r3 := (BR1.cell 3).trans rfl;have r4 := (BR1.cell 4).trans rfl;have z0 := BR1.froz 0;have z1 := BR1.froz 1;have z2 := BR1.froz 2;have z3 := BR1.froz 3;have z4 := BR1.froz 4;go_wp2_with fail;refine bodyPost_ret (results_two rfl _ _ _ ⟨b0 + 2,0,none⟩ (.agg #[.int .i64 0,.int .i64 0,.string ⟨#[]⟩,.slice none 0 0,.slice none 0 0]) (by go_simp) (by go_simp)) rfl ?_;exact FIN.out w1 _ _ _ _ _ [] false (tr0,false) HV.out hbw1 rfl (zeroX _ _ _) (Apt.nil _ _) (by simp)
 subst hC0;have sa0 := (BS1.cell 0).trans rfl;have sa1 := (BS1.cell 1).trans rfl;have sa2 := (BS1.cell 2).trans rfl;have sa3 := (BS1.cell 3).trans rfl;go_wp2_with fail;refine Calls.mono (HMC.out _ hbw1) ?_;rintro e w2 ⟨vf,vr,rfl,hvf,hvr,hb2⟩;obtain ⟨fa,fc,rfl, -⟩ := hvf.form;obtain ⟨ra,rc,rfl, -⟩ := hvr.form;obtain ⟨FN,hFN⟩ : ∃ z,(flRows ((msgOf s nm).getD zMs).fields).length = z := ⟨_,rfl⟩;obtain ⟨RN,hRN⟩ : ∃ z,(inRows ((msgOf s nm).getD zMs).reserved).length = z := ⟨_,rfl⟩;rw [hFN] at hvf ⊢;rw [hRN] at hvr ⊢;have HVF : Hid (RowG w (.slice fa FN fc) 5 (flRows ((msgOf s nm).getD zMs).fields) ∧ RowG w (.slice ra RN rc) 1 (inRows ((msgOf s nm).getD zMs).reserved)) := ⟨hvf,hvr⟩;obtain ⟨QN,hQN⟩ : ∃ z,((msgOf s nm).getD zMs).name = z := ⟨_,rfl⟩;rw [hQN];obtain ⟨OK,hOK⟩ : ∃ z,(msgOf s nm).isSome = z := ⟨_,rfl⟩;have HOK : Hid ((msgOf s nm).isSome = OK) := hOK;rw [hOK];have hbw2 : Below w.heap.size w w2 := hbw1.trans (hb2.mono hbw1.size);have al3 : Below w2.heap.size w2 (w2.alloc (Obj.cells #[.string QN,.slice fa FN fc,.slice ra RN rc] 52)) := (Below.refl _ _).alloc (Nat.le_refl _) _;have hbw3 : Below w.heap.size w (w2.alloc (Obj.cells #[.string QN,.slice fa FN fc,.slice ra RN rc] 52)) := hbw2.trans (al3.mono hbw2.size);have BM3 : Blk (w2.alloc (Obj.cells #[.string QN,.slice fa FN fc,.slice ra RN rc] 52)) w2.heap.size #[.string QN,.slice fa FN fc,.slice ra RN rc] 52 := Blk.new w2 _ _;have BS3 := (BS1.below hb2).below al3;have BT3 := (BT1.below hb2).below al3;have BR3 := (BR1.below hb2).below al3;clear hvf hvr hb2 hbw1 hbw2 al3 BS1 BT1 BR1 hQN hOK hFN hRN sa0 sa1 sa2 sa3 HMC
 cases OK with
 | false =>
  have HV : Hid (projA (n + 1) s nm t = (tr0,false)) := (by rw [projA,if_neg (fun h => by rw [HOK.out] at h; cases h.2.1)] : _ = _);have r0 := (BR3.cell 0).trans rfl;have r1 := (BR3.cell 1).trans rfl;have r2 := (BR3.cell 2).trans rfl;have r3 := (BR3.cell 3).trans rfl;have r4 := (BR3.cell 4).trans rfl;have z0 := BR3.froz 0;have z1 := BR3.froz 1;have z2 := BR3.froz 2;have z3 := BR3.froz 3;have z4 := BR3.froz 4;go_wp2_with fail;refine bodyPost_ret (results_two rfl _ _ _ ⟨b0 + 2,0,none⟩ (.agg #[.int .i64 0,.int .i64 0,.string ⟨#[]⟩,.slice none 0 0,.slice none 0 0]) (by go_simp) (by go_simp)) rfl ?_;exact FIN.out _ _ _ _ _ _ [] false (tr0,false) HV.out hbw3 rfl (zeroX _ _ _) (Apt.nil _ _) (by simp)
 | true =>
  have ta0 := (BT3.cell 0).trans rfl;have ta1 := (BT3.cell 1).trans rfl;have ta2 := (BT3.cell 2).trans rfl;have ta3 := (BT3.cell 3).trans rfl;have ta4 := (BT3.cell 4).trans rfl
  by_cases hK : K = 3
  rotate_left
  ·have dK : (K != 3) = true := by simpa using hK
   have HV : Hid (projA (n + 1) s nm t = (tr0,false)) := (by rw [projA,if_neg (fun h => hK (by rw [← HTI.out.2.2]; exact h.2.2.1))] : _ = _);have r0 := (BR3.cell 0).trans rfl;have r1 := (BR3.cell 1).trans rfl;have r2 := (BR3.cell 2).trans rfl;have r3 := (BR3.cell 3).trans rfl;have r4 := (BR3.cell 4).trans rfl;have z0 := BR3.froz 0;have z1 := BR3.froz 1;have z2 := BR3.froz 2;have z3 := BR3.froz 3;have z4 := BR3.froz 4;go_wp2_with fail;refine bodyPost_ret (results_two rfl _ _ _ ⟨b0 + 2,0,none⟩ (.agg #[.int .i64 0,.int .i64 0,.string ⟨#[]⟩,.slice none 0 0,.slice none 0 0]) (by go_simp) (by go_simp)) rfl ?_;exact FIN.out _ _ _ _ _ _ [] false (tr0,false) HV.out hbw3 rfl (zeroX _ _ _) (Apt.nil _ _) (by simp)
  subst hK;obtain ⟨CB,hCB⟩ : ∃ z,chkN (n + 1) t = z := ⟨_,rfl⟩;have HCB : Hid (chkN (n + 1) t = CB) := hCB;rw [hCB] at HTK;clear hCB;go_wp2_with fail;refine (HTK.out _ hbw3).mono ?_;generalize (w2.alloc (Obj.cells #[.string QN,.slice fa FN fc,.slice ra RN rc] 52)) = W3 at *;obtain ⟨b7,hb7⟩ : ∃ z,w2.heap.size = z := ⟨_,rfl⟩;rw [hb7] at BM3;simp only [hb7];clear hb7;rintro e w4 ⟨rfl,hb4⟩;have hbw4 : Below w.heap.size w w4 := hbw3.trans (hb4.mono hbw3.size);have BS4 := BS3.below hb4;have BT4 := BT3.below hb4;have BR4 := BR3.below hb4;have BM4 := BM3.below hb4;clear hb4 hbw3 BS3 BT3 BR3 BM3 HTK ta0 ta1 ta2 ta3 ta4
  cases CB with
  | false =>
   have HV : Hid (projA (n + 1) s nm t = (tr0,false)) := (by rw [projA,if_neg (fun h => by rw [HCB.out] at h; cases h.2.2.2)] : _ = _);have r0 := (BR4.cell 0).trans rfl;have r1 := (BR4.cell 1).trans rfl;have r2 := (BR4.cell 2).trans rfl;have r3 := (BR4.cell 3).trans rfl;have r4 := (BR4.cell 4).trans rfl;have z0 := BR4.froz 0;have z1 := BR4.froz 1;have z2 := BR4.froz 2;have z3 := BR4.froz 3;have z4 := BR4.froz 4;go_wp2_with fail;refine bodyPost_ret (results_two rfl _ _ _ ⟨b0 + 2,0,none⟩ (.agg #[.int .i64 0,.int .i64 0,.string ⟨#[]⟩,.slice none 0 0,.slice none 0 0]) (by go_simp) (by go_simp)) rfl ?_;exact FIN.out w4 _ _ _ _ _ [] false (tr0,false) HV.out hbw4 rfl (zeroX _ _ _) (Apt.nil _ _) (by simp)
  | true =>
   have HOS : Hid (OkS s) := (checkA_ok s).1 HCA.out;obtain ⟨R,hR⟩ : ∃ z,prM (n + 1) s nm t = z := ⟨_,rfl⟩;have HV : Hid (projA (n + 1) s nm t = (R,true)) := (by rw [projA,if_pos ⟨HCA.out,HOK.out,HTI.out.2.2,HCB.out⟩,hR] : _ = _)
   have HCC : Hid (Calls Tryz.prog 27 #[.agg #[.string sn,.slice ma mn mc,.slice ea en ec,.slice ta tn tc],.agg #[.string QN,.slice fa FN fc,.slice ra RN rc],.agg #[.int .i64 3,.int .i64 N,.string S,.slice a1 n1 c1,.slice a2 n2 c2]] w4 (SeeP (n + 1) R w4)) := (by
    have hTC : TrC (n + 1) w4 [.int .i64 3,.int .i64 N,.string S,.slice a1 n1 c1,.slice a2 n2 c2] t := by
     obtain ⟨r,e,h⟩ := HTI.out.1.below hbw4;simp only [Value.agg.injEq] at e;have e' := congrArg Array.toList e;simp only at e';subst e';exact h
    have h1 := rpmsg_any (ok_kindsJ HOS.out) sn ma ea ta mn mc en ec tn tc (n + 1) nm t 3 N S a1 a2 n1 c1 n2 c2 QN _ _ w4 (HMS.out.below hbw4) (HVF.out.1.below hbw4) (HVF.out.2.below hbw4) hTC HTI.out.2.2 (by have := HCB.out; simp only [chkN,Bool.and_eq_true] at this; exact this.2) HTI.out.2.1;rw [hR] at h1
    exact h1 : Calls Tryz.prog _ _ _ _)
   clear hR;have sb0 := (BS4.cell 0).trans rfl;have sb1 := (BS4.cell 1).trans rfl;have sb2 := (BS4.cell 2).trans rfl;have sb3 := (BS4.cell 3).trans rfl;have mb0 := (BM4.cell 0).trans rfl;have mb1 := (BM4.cell 1).trans rfl;have mb2 := (BM4.cell 2).trans rfl;have tb0 := (BT4.cell 0).trans rfl;have tb1 := (BT4.cell 1).trans rfl;have tb2 := (BT4.cell 2).trans rfl;have tb3 := (BT4.cell 3).trans rfl;have tb4 := (BT4.cell 4).trans rfl;have HS4 : Hid (b0 + 2 < w4.heap.size) := BR4.lt;go_wp2_with fail;refine HCC.out.mono ?_;rintro e w5 ⟨r,bs,rfl,h1,h2,hb5⟩;obtain ⟨u1,m1,v1,u2,m2,v2,rfl⟩ := h1.open;have HTX : Hid (TrX (n + 1) w.heap.size w5 [.int .i64 R.kind,.int .i64 R.n,.string R.s,.slice u1 m1 v1,.slice u2 m2 v2] R bs) := h1.base hbw4.size;have HAX : Hid (Apt w.heap.size w5 bs ∧ b0 + 2 ∉ bs) := ⟨h2.base hbw4.size,fun e => by have := (h2.2 _ e).1; have := HS4.out; omega⟩;have hbw5 : Below w.heap.size w w5 := hbw4.trans (hb5.mono hbw4.size);have BR5 := BR4.below hb5;clear h1 h2 hb5 hbw4 BS4 BM4 BT4 BR4 sb0 sb1 sb2 sb3 mb0 mb1 mb2 tb0 tb1 tb2 tb3 tb4 HCC;have r0 := (BR5.cell 0).trans rfl;have r1 := (BR5.cell 1).trans rfl;have r2 := (BR5.cell 2).trans rfl;have r3 := (BR5.cell 3).trans rfl;have r4 := (BR5.cell 4).trans rfl;have z0 := BR5.froz 0;have z1 := BR5.froz 1;have z2 := BR5.froz 2;have z3 := BR5.froz 3;have z4 := BR5.froz 4;obtain ⟨R1,R2,R3,R4,R5⟩ := R;go_wp2_with fail;refine bodyPost_ret (results_two rfl _ _ _ ⟨b0 + 2,0,none⟩ (.agg #[.int .i64 R1,.int .i64 R2,.string R3,.slice u1 m1 v1,.slice u2 m2 v2]) (by go_simp) (by go_simp)) rfl ?_;exact FIN.out w5 _ _ _ _ _ bs true _ HV.out hbw5 rfl HTX.out HAX.out.1 HAX.out.2
theorem pjawake_any (w : World) : Calls Tryz.prog 7 #[] w fun e w' => e = .returned (.bool true) ∧ Below w.heap.size w w' := by
 have c1 : Hid (∀ W,Calls Tryz.prog 13 #[.int .i64 1099511627776] W fun e w' => e = .returned (.int .i64 2147483647) ∧ Below W.heap.size W w') := fun W => clamp_any 1099511627776 W
 have c2 : Hid (∀ W,Calls Tryz.prog 13 #[.int .i64 (-1099511627776)] W fun e w' => e = .returned (.int .i64 (-2147483648)) ∧ Below W.heap.size W w') := fun W => clamp_any (-1099511627776) W
 have c3 : Hid (∀ W,Calls Tryz.prog 13 #[.int .i64 5] W fun e w' => e = .returned (.int .i64 5) ∧ Below W.heap.size W w') := fun W => clamp_any 5 W
 go_enter Tryz.func7,Tryz.ntmps7
 go_wp2_with fail;refine (c1.out _).mono ?_;rintro e w1 ⟨rfl,h1⟩;go_wp2_with fail;refine (c2.out _).mono ?_;rintro e w2 ⟨rfl,h2⟩;have h2' := h1.trans (h2.mono h1.size);clear h2;go_wp2_with fail;refine (c3.out _).mono ?_;rintro e w3 ⟨rfl,h3⟩;have h3' := h2'.trans (h3.mono h2'.size);clear h3;go_wp2_with fail;go_ret;exact ⟨rfl,h3'⟩
theorem ints_any {w : World} {v : Value} {fs : List Int} (hr : RowG w v 1 (inRows fs)) (hl : fs.length ≤ 100) :
  Calls Tryz.prog 24 #[v] w fun e w' => ∃ r,e = .returned r ∧ w'.ownsRow w.heap.size 3 1 r fs.length (inRows fs).flatten ∧ Below w.heap.size w w' := by
 have hN : (inRows fs).length = fs.length := by simp [inRows]
 have HN : Hid ((inRows fs).length = fs.length) := hN;have HR : Hid (RowG w v 1 (inRows fs)) := hr;have HL : Hid (fs.length ≤ 100) := hl;clear hr hN hl
 go_enter Tryz.func24,Tryz.ntmps24
 go_wp2_with (first
  | (at_builtin; refine wpList_joinG rfl _ _ 50 3 1 8 _ rfl Tryz.underlying50 infoIn rfl (by decide) w.heap.size (.slice none 0 0) 0 [] rfl (World.ownsRow_nil _ _ _ _) v (inRows fs) rfl HR.out (inr_len fs) (inr_one fs) ?c1 (by decide) (Nat.le_refl _) ?_)
  | fail)
 case c1 => have h1 := HN.out; have h2 := HL.out; omega
 intro r w1 ho hg;have hb : Below w.heap.size w w1 := (Below.refl _ _).grown hg (Nat.le_refl _) (fun k hk => by cases hk)
 have HO : Hid (w1.ownsRow w.heap.size 3 1 r fs.length (inRows fs).flatten) := by
  show World.ownsRow _ _ _ _ _ _ _
  rw [HN.out] at ho;exact ho
 clear hg ho;go_wp2_with fail;go_ret;exact ⟨_,rfl,HO.out,hb⟩
def ApR (ps : List (Value × Value)) : Prop := ∀ (i j : Nat) (p q : Value × Value) (k : Nat),ps[i]? = some p → ps[j]? = some q → p.2.ownBlock = some k → q.2.ownBlock = some k → i = j
def ApE (ps : List Value) : Prop := ∀ (i j : Nat) (p q : Value) (k : Nat),ps[i]? = some p → ps[j]? = some q → p.ownBlock = some k → q.ownBlock = some k → i = j
theorem ApR.nil : ApR [] := fun i j p q k hp => by simp at hp
theorem ApE.nil : ApE [] := fun i j p q k hp => by simp at hp
theorem ApR.snoc {ps : List (Value × Value)} {vf vr : Value} {H : Nat} (h : ApR ps) (hH : ∀ (i : Nat) (p : Value × Value) (k : Nat),ps[i]? = some p → p.2.ownBlock = some k → k < H) (hr : ∀ k,vr.ownBlock = some k → H ≤ k) : ApR (ps ++ [(vf,vr)]) := by
 intro i j p q k hp hq hpk hqk
 rcases get_snoc hp with ⟨hi,hp⟩ | ⟨hi,rfl⟩
 ·rcases get_snoc hq with ⟨hj,hq⟩ | ⟨hj,rfl⟩
  ·exact h i j p q k hp hq hpk hqk
  ·have a1 := hH i p k hp hpk;have a2 := hr k hqk
   omega
 ·rcases get_snoc hq with ⟨hj,hq⟩ | ⟨hj,rfl⟩
  ·have a1 := hH j q k hq hqk;have a2 := hr k hpk
   omega
  ·omega
theorem ApE.snoc {ps : List Value} {vr : Value} {H : Nat} (h : ApE ps) (hH : ∀ (i : Nat) (p : Value) (k : Nat),ps[i]? = some p → p.ownBlock = some k → k < H) (hr : ∀ k,vr.ownBlock = some k → H ≤ k) : ApE (ps ++ [vr]) := by
 intro i j p q k hp hq hpk hqk
 rcases get_snoc hp with ⟨hi,hp1⟩ | ⟨hi,ep⟩
 ·rcases get_snoc hq with ⟨hj,hq1⟩ | ⟨hj,eq⟩
  ·exact h i j p q k hp1 hq1 hpk hqk
  ·have a1 := hH i p k hp1 hpk;rw [eq] at hqk;have a2 := hr k hqk
   omega
 ·rcases get_snoc hq with ⟨hj,hq1⟩ | ⟨hj,eq⟩
  ·have a1 := hH j q k hq1 hqk;rw [ep] at hpk;have a2 := hr k hpk
   omega
  ·omega
theorem MsO.highR {w : World} {B : Nat} {v : Value} {ms : List MsS} {ps : List (Value × Value)} (h : MsO w B v ms ps) : ∀ (i : Nat) (p : Value × Value) (k : Nat),ps[i]? = some p → p.2.ownBlock = some k → k < w.heap.size := by
 intro i p k hp hk
 have hi : i < ms.length := by rw [← h.len]; exact (List.getElem?_eq_some_iff.1 hp).1
 exact ((h.each i _ p (List.getElem?_eq_getElem hi) hp).2.lt k hk).2
theorem EnO.highE {w : World} {B : Nat} {v : Value} {ms : List EnS} {ps : List Value} (h : EnO w B v ms ps) : ∀ (i : Nat) (p : Value) (k : Nat),ps[i]? = some p → p.ownBlock = some k → k < w.heap.size := by
 intro i p k hp hk
 have hi : i < ms.length := by rw [← h.len]; exact (List.getElem?_eq_some_iff.1 hp).1
 exact ((h.each i _ p (List.getElem?_eq_getElem hi) hp).lt k hk).2
theorem schema_ap {w : World} {v : Value} {s : ScS} (hr : ScIn w v s) (hf : FewL s) :
  Calls Tryz.prog 10 #[v] w fun e w' => ∃ vm ve vt pm pe,e = .returned (.agg #[.string s.name,vm,ve,vt]) ∧ MsO w' w.heap.size vm s.msgs pm ∧ EnO w' w.heap.size ve s.enums pe ∧ w'.ownsRow w.heap.size 63 3 vt s.methods.length (mtRows s.methods).flatten ∧ Below w.heap.size w w' ∧ ApR pm ∧ ApE pe := by
 obtain ⟨vm0,ve0,vt0,rfl,hm,he,ht⟩ := hr;obtain ⟨am,cm,rfl,qm1,qm2⟩ := hm.form2;obtain ⟨ae,ce,rfl,qe1,qe2⟩ := he.form2;obtain ⟨at',ct,rfl,qt1,qt2⟩ := ht.form2
 have hT : (mtRows s.methods).length = s.methods.length := by simp [mtRows]
 rw [hT] at ht qt1 ⊢;clear hT;have HM : Hid (MsIn w (.slice am s.msgs.length cm) s.msgs) := hm;have HE : Hid (EnIn w (.slice ae s.enums.length ce) s.enums) := he;have HT : Hid (RowG w (.slice at' s.methods.length ct) 3 (mtRows s.methods)) := ht;have HF : Hid (FewL s) := hf;have h1 := hf.msgs;have h2 := hf.enums;have h3 := hf.meths;obtain ⟨nm,ms,es,ts⟩ := s;simp only at *;have HM : Hid (MsIn w (.slice am ms.length cm) ms) := HM;have HE : Hid (EnIn w (.slice ae es.length ce) es) := HE;have HT : Hid (RowG w (.slice at' ts.length ct) 3 (mtRows ts)) := HT;obtain ⟨M,hM⟩ : ∃ N,ms.length = N := ⟨_,rfl⟩;obtain ⟨E,hE⟩ : ∃ N,es.length = N := ⟨_,rfl⟩;obtain ⟨T,hT⟩ : ∃ N,ts.length = N := ⟨_,rfl⟩;rw [hM] at HM qm1 h1 ⊢;rw [hE] at HE qe1 h2 ⊢;rw [hT] at HT qt1 h3 ⊢;have HNM : Hid (ms.length = M) := hM;have HNE : Hid (es.length = E) := hE;have HNT : Hid (ts.length = T) := hT
 have HNR : Hid ((mtRows ts).length = T) := by show _ = _; simp [mtRows,hT]
 clear hM hE hT hf hm he ht
 go_enter Tryz.func10,Tryz.ntmps10
 go_wp2_with fail;refine M_region (T := fun W => W.cell? ⟨w.heap.size,0,none⟩ = some (.string nm) ∧ W.cell? ⟨w.heap.size,3,none⟩ = some (.slice at' T ct)) (m := 7) (by kernel_rfl) ?_;have HB0 : Hid (Below w.heap.size w ((w.alloc (.cells #[.string nm,.slice am M cm,.slice ae E ce,.slice at' T ct] 26)).alloc (.cells #[.string ⟨#[]⟩,.slice none 0 0,.slice none 0 0,.slice none 0 0] 26)).drew) := below_drewN 1 (((Below.refl _ _).alloc (Nat.le_refl _) _).alloc (by simp) _);have HX0 : Hid (Blk ((w.alloc (.cells #[.string nm,.slice am M cm,.slice ae E ce,.slice at' T ct] 26)).alloc (.cells #[.string ⟨#[]⟩,.slice none 0 0,.slice none 0 0,.slice none 0 0] 26)).drew w.heap.size #[.string nm,.slice am M cm,.slice ae E ce,.slice at' T ct] 26) := (Blk.new w _ _).below (below_drewN 1 ((Below.refl _ _).alloc (Nat.le_refl _) _))
 have HR0 : Hid (Blk ((w.alloc (.cells #[.string nm,.slice am M cm,.slice ae E ce,.slice at' T ct] 26)).alloc (.cells #[.string ⟨#[]⟩,.slice none 0 0,.slice none 0 0,.slice none 0 0] 26)).drew (w.heap.size + 1) #[.string ⟨#[]⟩,.slice none 0 0,.slice none 0 0,.slice none 0 0] 26) := by
  have := Blk.new (w.alloc (.cells #[.string nm,.slice am M cm,.slice ae E ce,.slice at' T ct] 26)) #[.string ⟨#[]⟩,.slice none 0 0,.slice none 0 0,.slice none 0 0] 26;rw [show (w.alloc (.cells #[.string nm,.slice am M cm,.slice ae E ce,.slice at' T ct] 26)).heap.size = w.heap.size + 1 by simp] at this;exact this
 have HS0 : Hid (((w.alloc (.cells #[.string nm,.slice am M cm,.slice ae E ce,.slice at' T ct] 26)).alloc (.cells #[.string ⟨#[]⟩,.slice none 0 0,.slice none 0 0,.slice none 0 0] 26)).drew.heap.size = w.heap.size + 2) := by show _ = _; simp [World.drew]
 generalize ((w.alloc (.cells #[.string nm,.slice am M cm,.slice ae E ce,.slice at' T ct] 26)).alloc (.cells #[.string ⟨#[]⟩,.slice none 0 0,.slice none 0 0,.slice none 0 0] 26)).drew = W0 at *;have hT : W0.cell? ⟨w.heap.size,0,none⟩ = some (.string nm) ∧ W0.cell? ⟨w.heap.size,3,none⟩ = some (.slice at' T ct) := ⟨HX0.out.cell 0,HX0.out.cell 3⟩;obtain ⟨b0,hb0⟩ : ∃ n,w.heap.size = n := ⟨_,rfl⟩;rw [hb0] at HX0 HR0 HS0 hT ⊢;have HBZ : Hid (w.heap.size = b0) := hb0;clear hb0;refine M_take 0 7 (.pointer (some ⟨b0,0,none⟩)) _ rfl rfl (by kernel_rfl) (by kernel_rfl) (by kernel_rfl) (by kernel_rfl) (by kernel_rfl) (fun _ _ _ h => h) (by rfl) (fun w' hw' => ?_) hT (listed' := bts 8 1) (by kernel_rfl) rfl ?_
 ·obtain ⟨g0,g3⟩ := hw'; go_simp
 simp only [zsA,zsZ,zsS];refine M_take 2 9 (.pointer (some ⟨b0,3,none⟩)) _ rfl rfl (by kernel_rfl) (by kernel_rfl) (by kernel_rfl) (by kernel_rfl) (by kernel_rfl) (fun _ _ _ h => h) (by rfl) (fun w' hw' => ?_) hT (listed' := bts 8 5) (by kernel_rfl) rfl ?_
 ·obtain ⟨g0,g3⟩ := hw'; go_simp
 simp only [zsA,zsZ,zsS];refine M_take 1 8 (.string nm) _ rfl rfl (by kernel_rfl) (by kernel_rfl) (by kernel_rfl) (by kernel_rfl) (by kernel_rfl) (fun _ _ _ h => h) (by rfl) (fun w' hw' => ?_) hT (listed' := bts 8 7) (by kernel_rfl) rfl ?_
 ·obtain ⟨g0,g3⟩ := hw'; go_simp
 simp only [zsA,zsZ,zsS];refine M_take 3 10 (.slice at' T ct) _ rfl rfl (by kernel_rfl) (by kernel_rfl) (by kernel_rfl) (by kernel_rfl) (by kernel_rfl) (fun _ _ _ h => h) (by rfl) (fun w' hw' => ?_) hT (listed' := bts 8 15) (by kernel_rfl) rfl ?_
 ·obtain ⟨g0,g3⟩ := hw'; go_simp
 simp only [zsA,zsZ,zsS]
 have HAPP : Hid (∀ W : World,Below W0.heap.size W0 W → ∃ u W1,(Builtin.append_ #[24,24] 24 #[.slice none 0 0,.slice at' T ct]).run Tryz.prog W = .ok u W1 ∧ (∃ a c,u = .slice a T c) ∧ W1.ownsRow (b0 + 2) 63 3 u T (mtRows ts).flatten ∧ Below W.heap.size W W1) := fun W hW => by
  obtain ⟨u,W1,r1,r2,r3⟩ := run_joinG (w := W) 24 24 63 3 48 _ Tryz.underlying24 infoMt rfl (by decide) (b0 + 2) (.slice none 0 0) 0 [] (World.ownsRow_nil _ _ _ _) (.slice at' T ct) (mtRows ts) (HT.out.below (HB0.out.trans (hW.mono HB0.out.size))) (mtr_len ts) (mtr_one ts) (by have := HNR.out; omega) (by decide) (by have := hW.size; have := HS0.out; omega);rw [List.nil_append,HNR.out,Nat.zero_add] at r2;exact ⟨u,W1,r1,own_form r2,r2,(Below.refl _ _).grown r3 (Nat.le_refl _) (fun k hk => by cases hk)⟩
 have hTb : ∀ W,Below W0.heap.size W0 W → W.cell? ⟨b0,0,none⟩ = some (.string nm) ∧ W.cell? ⟨b0,3,none⟩ = some (.slice at' T ct) := fun W hW => ⟨(HX0.out.below hW).cell 0,(HX0.out.below hW).cell 3⟩
 have hAl : ∀ W : World,Below W.heap.size W (W.alloc (.cells #[.string ⟨#[]⟩,.slice none 0 0,.slice none 0 0,.slice none 0 0] 26)) := fun W => (Below.refl _ _).alloc (Nat.le_refl _) _
 refine M_aa 4 6 5 11 3 12 (fun W => .pointer (some ⟨W.heap.size,0,none⟩)) (fun W => W.alloc (.cells #[.string ⟨#[]⟩,.slice none 0 0,.slice none 0 0,.slice none 0 0] 26)) (fun u => .agg #[.string nm,.slice none 0 0,.slice none 0 0,u]) (fun u => ∃ a c,u = .slice a T c)
  (fun u p W => ∃ bt,p = .pointer (some ⟨bt,0,none⟩) ∧ b0 + 2 ≤ bt ∧ Blk W bt #[.string ⟨#[]⟩,.slice none 0 0,.slice none 0 0,.slice none 0 0] 26 ∧ W.ownsRow (b0 + 2) 63 3 u T (mtRows ts).flatten ∧ Below W0.heap.size W0 W)
  rfl rfl rfl rfl rfl rfl (by decide) (by decide) (by decide) (by decide) (by kernel_rfl) (by kernel_rfl) (by kernel_rfl) (by kernel_rfl) (by kernel_rfl) (fun _ => rfl) (fun _ => rfl) (fun _ => rfl) (by kernel_rfl) (by kernel_rfl) (by kernel_rfl) (by kernel_rfl) (fun _ _ _ _ h => h) ?x2 ?hA ?hB ?xk ?xk' ?_
 case x2 => intro a' W'; go_simp
 case hA =>
  obtain ⟨u,W1,r1,r2,r3,r4⟩ := HAPP.out W0 (Below.refl _ _);have r5 : Below W0.heap.size W0 (W1.alloc (.cells #[.string ⟨#[]⟩,.slice none 0 0,.slice none 0 0,.slice none 0 0] 26)) := r4.trans ((hAl W1).mono r4.size);exact ⟨u,W1,append_run rfl rfl rfl r1,r2,hTb W1 r4,hTb _ r5,W1.heap.size,rfl,by have := r4.size; have := HS0.out; omega,Blk.new W1 _ _,own_below r3 (hAl W1),r5⟩
 case hB =>
  refine ⟨hTb _ (hAl W0),?_⟩;obtain ⟨u,W1,r1,r2,r3,r4⟩ := HAPP.out _ (hAl W0);have r5 : Below W0.heap.size W0 W1 := (hAl W0).trans (r4.mono (hAl W0).size);exact ⟨u,W1,append_run rfl rfl rfl r1,r2,hTb W1 r5,W0.heap.size,rfl,by have := HS0.out; omega,(Blk.new W0 _ _).below r4,r3,r5⟩
 case xk => rintro u W' ⟨a,c,rfl⟩; go_simp
 case xk' => rintro u v W' ⟨a,c,rfl⟩; go_simp
 rintro u p W1 ⟨ua,uc,rfl⟩ _ ⟨bt,rfl,hbt,BT,ho,hbel⟩;simp only [zsA,zsZ,zsS];have HO : Hid (W1.ownsRow (b0 + 2) 63 3 (.slice ua T uc) T (mtRows ts).flatten) := ho;have HX1 := HX0.out.below hbel;have HR1 := HR0.out.below hbel;have hbw : Below w.heap.size w W1 := HB0.out.trans (hbel.mono HB0.out.size);have t0 := (BT.cell 0).trans rfl;have t1 := (BT.cell 1).trans rfl;have t2 := (BT.cell 2).trans rfl;have t3 := (BT.cell 3).trans rfl;have z0 := BT.froz 0;have z1 := BT.froz 1;have z2 := BT.froz 2;have z3 := BT.froz 3;refine M_store 7 ((((W1.setCell ⟨bt,0,none⟩ (.string nm)).setCell ⟨bt,1,none⟩ (.slice none 0 0)).setCell ⟨bt,2,none⟩ (.slice none 0 0)).setCell ⟨bt,3,none⟩ (.slice ua T uc)) rfl rfl (by kernel_rfl) (by rfl) (listed' := bts 8 255) (by kernel_rfl) (by go_simp) (by kernel_rfl) ?_;refine M_done (by kernel_rfl) ?_ _
 have KS : Kp (fun k => k = bt) W1 ((((W1.setCell ⟨bt,0,none⟩ (.string nm)).setCell ⟨bt,1,none⟩ (.slice none 0 0)).setCell ⟨bt,2,none⟩ (.slice none 0 0)).setCell ⟨bt,3,none⟩ (.slice ua T uc)) := by
  refine Kp.setCell ?_ (fun _ => by simp) _;refine Kp.setCell ?_ (fun _ => by simp) _;refine Kp.setCell ?_ (fun _ => by simp) _;refine Kp.setCell ?_ (fun _ => by simp) _;exact Kp.refl _ _
 have BA : Blk (W1.setCell ⟨bt,0,none⟩ (.string nm)) bt #[.string nm,.slice none 0 0,.slice none 0 0,.slice none 0 0] 26 := BT.set 0 (.string nm) rfl;have BB : Blk ((W1.setCell ⟨bt,0,none⟩ (.string nm)).setCell ⟨bt,1,none⟩ (.slice none 0 0)) bt #[.string nm,.slice none 0 0,.slice none 0 0,.slice none 0 0] 26 := BA.set 1 (.slice none 0 0) rfl;have BC : Blk (((W1.setCell ⟨bt,0,none⟩ (.string nm)).setCell ⟨bt,1,none⟩ (.slice none 0 0)).setCell ⟨bt,2,none⟩ (.slice none 0 0)) bt #[.string nm,.slice none 0 0,.slice none 0 0,.slice none 0 0] 26 := BB.set 2 (.slice none 0 0) rfl;have BT2 : Blk ((((W1.setCell ⟨bt,0,none⟩ (.string nm)).setCell ⟨bt,1,none⟩ (.slice none 0 0)).setCell ⟨bt,2,none⟩ (.slice none 0 0)).setCell ⟨bt,3,none⟩ (.slice ua T uc)) bt #[.string nm,.slice none 0 0,.slice none 0 0,.slice ua T uc] 26 := BC.set 3 (.slice ua T uc) rfl;clear BA BB BC;have HO2 : Hid (((((W1.setCell ⟨bt,0,none⟩ (.string nm)).setCell ⟨bt,1,none⟩ (.slice none 0 0)).setCell ⟨bt,2,none⟩ (.slice none 0 0)).setCell ⟨bt,3,none⟩ (.slice ua T uc)).ownsRow (b0 + 2) 63 3 (.slice ua T uc) T (mtRows ts).flatten) := own_blk HO.out BT (by decide) KS;have BX2 := HX1.kp KS (by omega);have BR2 := HR1.kp KS (by omega);have hb2 : Below w.heap.size w ((((W1.setCell ⟨bt,0,none⟩ (.string nm)).setCell ⟨bt,1,none⟩ (.slice none 0 0)).setCell ⟨bt,2,none⟩ (.slice none 0 0)).setCell ⟨bt,3,none⟩ (.slice ua T uc)) := hbw.trans (KS.toBelow hbw.size (fun k e => by have := HBZ.out; omega));generalize ((((W1.setCell ⟨bt,0,none⟩ (.string nm)).setCell ⟨bt,1,none⟩ (.slice none 0 0)).setCell ⟨bt,2,none⟩ (.slice none 0 0)).setCell ⟨bt,3,none⟩ (.slice ua T uc)) = W2 at *;have hbt2 : bt < W2.heap.size := BT2.lt;clear t0 t1 t2 t3 z0 z1 z2 z3 KS HO HX1 HR1 hbw BT ho hbel hT hTb HAPP HB0 HX0 HR0 HS0 hAl;have HMS0 : Hid (MsO W2 (bt + 1) (.slice none 0 0) (ms.take 0) []) := MsO.nil W2 (bt + 1);go_wp2_with fail
 go_loopw [4] (fun iv wr => ∃ (k : Nat) (va : Option Addr) (vc : Nat) (pm : List (Value × Value)),iv = .int .i64 (k : Int) ∧ k ≤ M ∧ Hid (MsO wr (bt + 1) (.slice va k vc) (ms.take k) pm) ∧ Hid (ApR pm) ∧ Blk wr bt #[.string nm,.slice va k vc,.slice none 0 0,.slice ua T uc] 26 ∧ Hid (wr.ownsRow (b0 + 2) 63 3 (.slice ua T uc) T (mtRows ts).flatten) ∧ Blk wr b0 #[.string nm,.slice am M cm,.slice ae E ce,.slice at' T ct] 26 ∧ Blk wr (b0 + 1) #[.string ⟨#[]⟩,.slice none 0 0,.slice none 0 0,.slice none 0 0] 26 ∧ Below w.heap.size w wr) (fun iv _ => M - (intOf iv).toNat)
 case atStart => exact ⟨0,none,0,[],rfl,by omega,HMS0,ApR.nil,BT2,HO2,BX2,BR2,hb2⟩
 case round =>
  obtain ⟨k,va,vc,pm,rfl,hk,HMS,HAR,BT,HO,BX,BR,hbel⟩ := hrel;clear HMS0 BT2 HO2 BX2 BR2 hb2 hbt2;have hbtw : bt < wr.heap.size := BT.lt;have x1 : wr.cell? ⟨b0,1,none⟩ = some (.slice am M cm) := BX.cell 1
  by_cases hlt : k < M
  ·obtain ⟨m,hm⟩ : ∃ n,ms[k]? = some n := ⟨_,List.getElem?_eq_getElem (by rw [HNM.out]; exact hlt)⟩;obtain ⟨g,off,vf,vr,rfl,c0,c1,c2,hrf,hrr⟩ := (HM.out.below hbel).get hm;have HFf : Hid (RowG wr vf 5 (flRows m.fields)) := hrf;have HRr : Hid (RowG wr vr 1 (inRows m.reserved)) := hrr;obtain ⟨a3,c3,rfl,_,_⟩ := hrf.form2;obtain ⟨a4,c4,rfl,_,_⟩ := hrr.form2;have HFl : Hid (m.fields.length ≤ 20 ∧ m.reserved.length ≤ 40) := HF.out.flds m (List.mem_of_getElem? hm);have HTK : Hid (ms.take (k + 1) = ms.take k ++ [m]) := take_at hm
   have HLK : Hid ((ms.take k).length = k) := by show _ = _; rw [List.length_take,HNM.out]; omega
   obtain ⟨m0,mf,mr⟩ := m;simp only at c0 c1 c2 HFl HTK;have HFf : Hid (RowG wr (.slice a3 (flRows mf).length c3) 5 (flRows mf)) := HFf;have HRr : Hid (RowG wr (.slice a4 (inRows mr).length c4) 1 (inRows mr)) := HRr;generalize hnF : (flRows mf).length = nF at *;generalize hnR : (inRows mr).length = nR at *;clear hrf hrr hm hnF hnR
   have HLF : Hid ((flRows mf).length = mf.length) := by show _ = _; simp [flRows]
   go_wp2_with fail;clear c0 c1 c2 x1;refine M_region (T := fun W => W.cell? ⟨bt,1,none⟩ = some (.slice va k vc) ∧ W.cell? ⟨wr.heap.size,0,none⟩ = some (.string m0) ∧ W.cell? ⟨wr.heap.size,1,none⟩ = some (.slice a3 nF c3) ∧ W.cell? ⟨wr.heap.size,2,none⟩ = some (.slice a4 nR c4)) (m := 14) (by kernel_rfl) ?_;have hb0 : Below wr.heap.size wr (wr.alloc (.cells #[.string m0,.slice a3 nF c3,.slice a4 nR c4] 52)).drew := below_drewN 1 ((Below.refl _ _).alloc (Nat.le_refl _) _);have BM0 : Blk (wr.alloc (.cells #[.string m0,.slice a3 nF c3,.slice a4 nR c4] 52)).drew wr.heap.size #[.string m0,.slice a3 nF c3,.slice a4 nR c4] 52 := Blk.new wr #[.string m0,.slice a3 nF c3,.slice a4 nR c4] 52;generalize (wr.alloc (.cells #[.string m0,.slice a3 nF c3,.slice a4 nR c4] 52)).drew = W0 at *;have BT0 := BT.below hb0;have BX0 := BX.below hb0;have BR0 := BR.below hb0;have HMS0 : Hid (MsO W0 (bt + 1) (.slice va k vc) (ms.take k) pm) := HMS.out.below hb0;have HO0 : Hid (W0.ownsRow (b0 + 2) 63 3 (.slice ua T uc) T (mtRows ts).flatten) := own_below HO.out hb0;have HF0 : Hid (RowG W0 (.slice a3 nF c3) 5 (flRows mf)) := HFf.out.below hb0;have HR0 : Hid (RowG W0 (.slice a4 nR c4) 1 (inRows mr)) := HRr.out.below hb0;have hbel0 : Below w.heap.size w W0 := hbel.trans (hb0.mono hbel.size);have HOB : Hid (∀ q,(Value.slice va k vc).ownBlock = some q → q < wr.heap.size) := fun q hq => (HMS.out.own.lt q hq).2
   obtain ⟨bm,hbm⟩ : ∃ n,wr.heap.size = n := ⟨_,rfl⟩;rw [hbm] at BM0 hbtw HOB ⊢;clear hbm BT BX BR HMS HO HFf HRr hb0 hbel;have hTW : ∀ W,Below W0.heap.size W0 W → W.cell? ⟨bt,1,none⟩ = some (.slice va k vc) ∧ W.cell? ⟨bm,0,none⟩ = some (.string m0) ∧ W.cell? ⟨bm,1,none⟩ = some (.slice a3 nF c3) ∧ W.cell? ⟨bm,2,none⟩ = some (.slice a4 nR c4) := fun W hW => ⟨(BT0.below hW).cell 1,(BM0.below hW).cell 0,(BM0.below hW).cell 1,(BM0.below hW).cell 2⟩
   have hT := hTW W0 (Below.refl _ _);refine M_take 0 25 (.pointer (some ⟨bt,1,none⟩)) _ rfl rfl (by kernel_rfl) (by kernel_rfl) (by kernel_rfl) (by kernel_rfl) (by kernel_rfl) (fun _ _ _ h => h) (by rfl) (fun w' hw' => ?_) hT (listed' := bts 15 1) (by kernel_rfl) rfl ?_
   ·obtain ⟨g0,g1,g2,g3⟩ := hw'; go_simp
   simp only [zsA,zsZ,zsS];refine M_take 2 27 (.pointer (some ⟨bm,0,none⟩)) _ rfl rfl (by kernel_rfl) (by kernel_rfl) (by kernel_rfl) (by kernel_rfl) (by kernel_rfl) (fun _ _ _ h => h) (by rfl) (fun w' hw' => ?_) hT (listed' := bts 15 5) (by kernel_rfl) rfl ?_
   ·obtain ⟨g0,g1,g2,g3⟩ := hw'; go_simp
   simp only [zsA,zsZ,zsS];refine M_take 4 29 (.pointer (some ⟨bm,1,none⟩)) _ rfl rfl (by kernel_rfl) (by kernel_rfl) (by kernel_rfl) (by kernel_rfl) (by kernel_rfl) (fun _ _ _ h => h) (by rfl) (fun w' hw' => ?_) hT (listed' := bts 15 21) (by kernel_rfl) rfl ?_
   ·obtain ⟨g0,g1,g2,g3⟩ := hw'; go_simp
   simp only [zsA,zsZ,zsS];refine M_take 7 32 (.pointer (some ⟨bm,2,none⟩)) _ rfl rfl (by kernel_rfl) (by kernel_rfl) (by kernel_rfl) (by kernel_rfl) (by kernel_rfl) (fun _ _ _ h => h) (by rfl) (fun w' hw' => ?_) hT (listed' := bts 15 149) (by kernel_rfl) rfl ?_
   ·obtain ⟨g0,g1,g2,g3⟩ := hw'; go_simp
   simp only [zsA,zsZ,zsS];refine M_take 1 26 (.slice va k vc) _ rfl rfl (by kernel_rfl) (by kernel_rfl) (by kernel_rfl) (by kernel_rfl) (by kernel_rfl) (fun _ _ _ h => h) (by rfl) (fun w' hw' => ?_) hT (listed' := bts 15 151) (by kernel_rfl) rfl ?_
   ·obtain ⟨g0,g1,g2,g3⟩ := hw'; go_simp
   simp only [zsA,zsZ,zsS];refine M_take 3 28 (.string m0) _ rfl rfl (by kernel_rfl) (by kernel_rfl) (by kernel_rfl) (by kernel_rfl) (by kernel_rfl) (fun _ _ _ h => h) (by rfl) (fun w' hw' => ?_) hT (listed' := bts 15 159) (by kernel_rfl) rfl ?_
   ·obtain ⟨g0,g1,g2,g3⟩ := hw'; go_simp
   simp only [zsA,zsZ,zsS];refine M_take 5 30 (.slice a3 nF c3) _ rfl rfl (by kernel_rfl) (by kernel_rfl) (by kernel_rfl) (by kernel_rfl) (by kernel_rfl) (fun _ _ _ h => h) (by rfl) (fun w' hw' => ?_) hT (listed' := bts 15 191) (by kernel_rfl) rfl ?_
   ·obtain ⟨g0,g1,g2,g3⟩ := hw'; go_simp
   simp only [zsA,zsZ,zsS];refine M_take 8 33 (.slice a4 nR c4) _ rfl rfl (by kernel_rfl) (by kernel_rfl) (by kernel_rfl) (by kernel_rfl) (by kernel_rfl) (fun _ _ _ h => h) (by rfl) (fun w' hw' => ?_) hT (listed' := bts 15 447) (by kernel_rfl) rfl ?_
   ·obtain ⟨g0,g1,g2,g3⟩ := hw'; go_simp
   simp only [zsA,zsZ,zsS];obtain ⟨vf,W1,r1,r2,r3⟩ := run_joinG (w := W0) 49 49 56 5 56 _ Tryz.underlying49 infoFl rfl (by decide) W0.heap.size (.slice none 0 0) 0 [] (World.ownsRow_nil _ _ _ _) (.slice a3 nF c3) (flRows mf) HF0.out (flr_len mf) (flr_one mf) (by have := HLF.out; have := HFl.out; omega) (by decide) (Nat.le_refl _);rw [List.nil_append,HLF.out,Nat.zero_add] at r2;have hb1 : Below W0.heap.size W0 W1 := (Below.refl _ _).grown r3 (Nat.le_refl _) (fun k hk => by cases hk);obtain ⟨fa,fc,rfl⟩ := own_form r2;have HO1 : Hid (W1.ownsRow W0.heap.size 56 5 (.slice fa mf.length fc) mf.length (flRows mf).flatten) := r2;have HRUN : Hid _ := r1;clear r1 r2 r3;refine M_run 6 31 (.slice fa mf.length fc) (W1) rfl rfl (by kernel_rfl) (by rfl) (listed' := bts 15 511) (by kernel_rfl) (append_run rfl rfl rfl HRUN.out) (hTW W1 hb1) ?_;simp only [zsA,zsZ,zsS];clear HRUN;refine M_call 9 34 24 #[.slice a4 nR c4] rfl rfl (by kernel_rfl) (by rfl) (listed' := bts 15 1023) (by kernel_rfl) (fun W => by go_simp) ?_;refine (ints_any (HR0.out.below hb1) (by have := HFl.out; omega)).mono ?_;rintro e W2 ⟨vr,rfl,ho2,hb2⟩;have hb02 : Below W0.heap.size W0 W2 := hb1.trans (hb2.mono hb1.size);have hT := hTW W2 hb02;obtain ⟨ra,rc,hrv⟩ := own_form ho2;subst hrv;refine ⟨_,rfl,hT,?_⟩;simp only [zsA,zsZ,zsS];have HO2 : Hid (W2.ownsRow W0.heap.size 3 1 (.slice ra mr.length rc) mr.length (inRows mr).flatten) := own_base ho2 hb1.size;have HAR5 : Hid (ApR (pm ++ [(.slice fa mf.length fc,.slice ra mr.length rc)])) := HAR.out.snoc HMS0.out.highR (fun k hk => (HO2.out.lt k hk).1);have HO1 : Hid (W2.ownsRow W0.heap.size 56 5 (.slice fa mf.length fc) mf.length (flRows mf).flatten) := own_below HO1.out hb2;clear ho2 hb2 hb1;refine M_take 10 35 (.agg #[.string m0,.slice fa mf.length fc,.slice ra mr.length rc]) _ rfl rfl (by kernel_rfl) (by kernel_rfl) (by kernel_rfl) (by kernel_rfl) (by kernel_rfl) (fun _ _ _ h => h) (by rfl) (fun w' hw' => ?_) hT (listed' := bts 15 2047) (by kernel_rfl) rfl ?_
   ·obtain ⟨g0,g1,g2,g3⟩ := hw'; go_simp
   simp only [zsA,zsZ,zsS];have hal : Below W2.heap.size W2 (W2.alloc (.cells #[.string m0,.slice fa mf.length fc,.slice ra mr.length rc] 52)) := (Below.refl _ _).alloc (Nat.le_refl _) _;have hb03 : Below W0.heap.size W0 (W2.alloc (.cells #[.string m0,.slice fa mf.length fc,.slice ra mr.length rc] 52)) := hb02.trans (hal.mono hb02.size);have BE := Blk.new W2 #[.string m0,.slice fa mf.length fc,.slice ra mr.length rc] 52;have HO1 : Hid ((W2.alloc (.cells #[.string m0,.slice fa mf.length fc,.slice ra mr.length rc] 52)).ownsRow W0.heap.size 56 5 (.slice fa mf.length fc) mf.length (flRows mf).flatten) := own_below HO1.out hal;have HO2 : Hid ((W2.alloc (.cells #[.string m0,.slice fa mf.length fc,.slice ra mr.length rc] 52)).ownsRow W0.heap.size 3 1 (.slice ra mr.length rc) mr.length (inRows mr).flatten) := own_below HO2.out hal;obtain ⟨bz,hbz⟩ : ∃ n,W2.heap.size = n := ⟨_,rfl⟩;refine M_run 11 36 (.slice (some ⟨W2.heap.size,0,none⟩) 1 1) (W2.alloc (.cells #[.string m0,.slice fa mf.length fc,.slice ra mr.length rc] 52)) rfl rfl (by kernel_rfl) (by rfl) (listed' := bts 15 4095) (by kernel_rfl) (by go_simp) (hTW _ hb03) ?_;simp only [zsA,zsZ,zsS];rw [hbz] at BE ⊢;generalize (W2.alloc (.cells #[.string m0,.slice fa mf.length fc,.slice ra mr.length rc] 52)) = W3 at *;clear hbz hal hb02;have HMS3 : Hid (MsO W3 (bt + 1) (.slice va k vc) (ms.take k) pm) := HMS0.out.below hb03;obtain ⟨i0,hi0,hz0,hz1,hz2⟩ := info_parts infoMs;have hown := HMS3.out.own;rw [HLK.out] at hown
   obtain ⟨v',W4,r1,r2,r3,_⟩ := run_append_own W3 (bt + 1) 22 22 52 i0 _ 3 64 Tryz.underlying22 hi0 hz0 hz1 hz2 rfl (by decide) (.slice va k vc) k _ hown ⟨bz,0,none⟩ 1 1 [.string m0,.slice fa mf.length fc,.slice ra mr.length rc] rfl (fun j u hu => by
    have := BE.cell j;rw [Addr.add_lit,Nat.zero_add,this]
    simpa using hu) (fun u hu => by
    simp only [List.mem_cons,List.not_mem_nil,or_false] at hu
    rcases hu with rfl | rfl | rfl <;> rfl) (by unfold maxLen; omega) (by omega) (by have := hb03.size; have := BT0.lt; omega)
   have HRUN : Hid _ := r1;have KA : Kp (fun q => (Value.slice va k vc).ownBlock = some q) W3 W4 := (Kp.refl _ _).grown r3 (fun q hq _ => hq)
   have HMS4 : Hid (MsO W4 (bt + 1) v' (ms.take (k + 1)) (pm ++ [(.slice fa mf.length fc,.slice ra mr.length rc)])) := by
    show MsO _ _ _ _ _
    rw [HTK.out];refine MsO.snoc (m := ⟨m0,mf,mr⟩) HMS3.out HMS0.out.high (by have := BT0.lt; omega) HO1.out HO2.out ?_ KA;rw [HLK.out]; exact r2
   obtain ⟨na,nc,hv'⟩ := own_form r2;subst hv';have HMS4 : Hid (MsO W4 (bt + 1) (.slice na (k + 1) nc) (ms.take (k + 1)) (pm ++ [(.slice fa mf.length fc,.slice ra mr.length rc)])) := HMS4;have hnob : ∀ b cs t,Blk W3 b cs t → t ≠ 52 → ¬ (Value.slice va k vc).ownBlock = some b := fun b cs t hb ht hq => ht (own_type hown hq hb).symm
   have BT4 := (BT0.below hb03).kp KA (hnob _ _ _ (BT0.below hb03) (by decide));have BX4 := (BX0.below hb03).kp KA (hnob _ _ _ (BX0.below hb03) (by decide));have BR4 := (BR0.below hb03).kp KA (hnob _ _ _ (BR0.below hb03) (by decide));have BMb := BM0.below hb03;have HO4 : Hid (W4.ownsRow (b0 + 2) 63 3 (.slice ua T uc) T (mtRows ts).flatten) := own_kpV (own_below HO0.out hb03) KA (fun q hv hq => own_apart hown (own_below HO0.out hb03) (by decide) q hq hv);have hb4 : Below w.heap.size w W4 := (hbel0.trans (hb03.mono hbel0.size)).grown r3 (by have := hb03.size; have := hbel0.size; omega) (fun q hq => by have := (hown.lt q hq).1; have := HBZ.out; omega)
   have hTm : W4.cell? ⟨bt,1,none⟩ = some (.slice va k vc) ∧ W4.cell? ⟨bm,0,none⟩ = some (.string m0) ∧ W4.cell? ⟨bm,1,none⟩ = some (.slice a3 nF c3) ∧ W4.cell? ⟨bm,2,none⟩ = some (.slice a4 nR c4) := by
    have hq : ¬ (Value.slice va k vc).ownBlock = some bm := fun hq => by
     have := HOB.out bm hq
     omega
    exact ⟨BT4.cell 1,(BMb.kp KA hq).cell 0,(BMb.kp KA hq).cell 1,(BMb.kp KA hq).cell 2⟩
   clear r1 r2 r3 hown;refine M_run 12 37 (.slice na (k + 1) nc) (W4) rfl rfl (by kernel_rfl) (by rfl) (listed' := bts 15 8191) (by kernel_rfl) (append_run rfl rfl rfl HRUN.out) hTm ?_;simp only [zsA,zsZ,zsS];clear HRUN;have hT := hTm;refine M_take 13 38 (.pointer (some ⟨bt,1,none⟩)) _ rfl rfl (by kernel_rfl) (by kernel_rfl) (by kernel_rfl) (by kernel_rfl) (by kernel_rfl) (fun _ _ _ h => h) (by rfl) (fun w' hw' => ?_) hT (listed' := bts 15 16383) (by kernel_rfl) rfl ?_
   ·obtain ⟨g0,g1,g2,g3⟩ := hw'; go_simp
   simp only [zsA,zsZ,zsS];have y1 := (BT4.cell 1).trans rfl;have z1 := BT4.froz 1;refine M_store 14 (W4.setCell ⟨bt,1,none⟩ (.slice na (k + 1) nc)) rfl rfl (by kernel_rfl) (by rfl) (listed' := bts 15 32767) (by kernel_rfl) (by go_simp) (by kernel_rfl) ?_;refine M_done (by kernel_rfl) ?_ _
   have KS : Kp (fun q => q = bt) W4 (W4.setCell ⟨bt,1,none⟩ (.slice na (k + 1) nc)) := by
    refine Kp.setCell ?_ (fun _ => by simp) _;exact Kp.refl _ _
   have BT5 : Blk (W4.setCell ⟨bt,1,none⟩ (.slice na (k + 1) nc)) bt #[.string nm,.slice na (k + 1) nc,.slice none 0 0,.slice ua T uc] 26 := BT4.set 1 _ rfl;have BX5 := BX4.kp KS (by omega);have BR5 := BR4.kp KS (by omega);have HMS5 : Hid (MsO (W4.setCell ⟨bt,1,none⟩ (.slice na (k + 1) nc)) (bt + 1) (.slice na (k + 1) nc) (ms.take (k + 1)) (pm ++ [(.slice fa mf.length fc,.slice ra mr.length rc)])) := HMS4.out.kp KS (fun q h1 h2 => by omega);have HO5 : Hid ((W4.setCell ⟨bt,1,none⟩ (.slice na (k + 1) nc)).ownsRow (b0 + 2) 63 3 (.slice ua T uc) T (mtRows ts).flatten) := own_blk HO4.out BT4 (by decide) KS;have hb5 : Below w.heap.size w (W4.setCell ⟨bt,1,none⟩ (.slice na (k + 1) nc)) := hb4.trans (KS.toBelow hb4.size (fun q e => by have := HBZ.out; omega));generalize (W4.setCell ⟨bt,1,none⟩ (.slice na (k + 1) nc)) = W5 at *;clear y1 z1 KS BT4 BX4 BR4 HMS4 HO4 hb4 hT hTm hTW BM0 BT0 BX0 BR0 HMS0 HO0 HF0 HR0 hbel0 HMS3 KA BE hb03 HO1 HO2 hnob BMb;go_wp2_with fail
   go_roundw
   case rel => exact ⟨k + 1,_,_,_,by go_num,by omega,HMS5,HAR5,BT5,HO5,BX5,BR5,hb5⟩
   case measure => simp [intOf]; omega
  ·obtain rfl : k = M := by omega
   have HMS0 : Hid (MsO wr (bt + 1) (.slice va k vc) ms pm) := by
    have := HMS.out;rw [List.take_of_length_le (by rw [HNM.out]; omega)] at this;exact this
   have HES0 : Hid (EnO wr (bt + 1) (.slice none 0 0) (es.take 0) []) := EnO.nil wr (bt + 1);clear HMS;go_wp2_with fail;clear x1
   go_loopw [6] (fun iv wr => ∃ (i : Nat) (na : Option Addr) (nc : Nat) (pe : List Value),iv = .int .i64 (i : Int) ∧ i ≤ E ∧ Hid (EnO wr (bt + 1) (.slice na i nc) (es.take i) pe) ∧ Hid (ApE pe) ∧ Hid (MsO wr (bt + 1) (.slice va k vc) ms pm) ∧ Blk wr bt #[.string nm,.slice va k vc,.slice na i nc,.slice ua T uc] 26 ∧ Hid (wr.ownsRow (b0 + 2) 63 3 (.slice ua T uc) T (mtRows ts).flatten) ∧ Blk wr b0 #[.string nm,.slice am k cm,.slice ae E ce,.slice at' T ct] 26 ∧ Blk wr (b0 + 1) #[.string ⟨#[]⟩,.slice none 0 0,.slice none 0 0,.slice none 0 0] 26 ∧ Below w.heap.size w wr) (fun iv _ => E - (intOf iv).toNat)
   case atStart => exact ⟨0,none,0,[],rfl,by omega,HES0,ApE.nil,HMS0,BT,HO,BX,BR,hbel⟩
   case round =>
    obtain ⟨i,na,nc,pe,rfl,hi,HES,HAE,HMS,BT,HO,BX,BR,hbel⟩ := hrel;clear HES0 HMS0;have hbtw : bt < wr.heap.size := BT.lt;have x2 : wr.cell? ⟨b0,2,none⟩ = some (.slice ae E ce) := BX.cell 2
    by_cases hlt : i < E
    ·obtain ⟨m,hm⟩ : ∃ n,es[i]? = some n := ⟨_,List.getElem?_eq_getElem (by rw [HNE.out]; exact hlt)⟩;obtain ⟨g,off,vv,rfl,c0,c1,hrf⟩ := (HE.out).get hm;have HFf : Hid (RowG w vv 2 (nmRows m.values)) := hrf;obtain ⟨a3,c3,rfl,_,_⟩ := hrf.form2;have HFl : Hid (m.values.length ≤ 24) := HF.out.vals m (List.mem_of_getElem? hm);have HTK : Hid (es.take (i + 1) = es.take i ++ [m]) := take_at hm
     have HLK : Hid ((es.take i).length = i) := by show _ = _; rw [List.length_take,HNE.out]; omega
     obtain ⟨m0,mf⟩ := m;simp only at c0 c1 HFl HTK;have HFf : Hid (RowG w (.slice a3 (nmRows mf).length c3) 2 (nmRows mf)) := HFf;generalize hnF : (nmRows mf).length = nF at *;clear hrf hm hnF
     have HLF : Hid ((nmRows mf).length = mf.length) := by show _ = _; simp [nmRows]
     have hgb : g < b0 := by have h9 : g < w.heap.size := World.block_lt_of_cell? _ _ c0; have := HBZ.out; omega
     have C0 : Hid (w.cell? ⟨g,off + i * 2,none⟩ = some (.string m0)) := c0;have C1 : Hid (w.cell? ⟨g,off + i * 2 + 1,none⟩ = some (.slice a3 nF c3)) := c1;clear c0 c1;go_wp2_with fail;clear x2;refine M_region (T := fun W => W.cell? ⟨bt,2,none⟩ = some (.slice na i nc) ∧ W.cell? ⟨b0,2,none⟩ = some (.slice (some ⟨g,off,none⟩) E ce) ∧ W.cell? ⟨g,off + i * 2,none⟩ = some (.string m0) ∧ W.cell? ⟨g,off + i * 2 + 1,none⟩ = some (.slice a3 nF c3)) (m := 19) (by kernel_rfl) ?_;have hb0 : Below wr.heap.size wr wr.drew := below_drewN 1 (Below.refl _ _);generalize wr.drew = W0 at *;have BT0 := BT.below hb0;have BX0 := BX.below hb0;have BR0 := BR.below hb0;have HES0 : Hid (EnO W0 (bt + 1) (.slice na i nc) (es.take i) pe) := HES.out.below hb0;have HMS0 : Hid (MsO W0 (bt + 1) (.slice va k vc) ms pm) := HMS.out.below hb0;have HO0 : Hid (W0.ownsRow (b0 + 2) 63 3 (.slice ua T uc) T (mtRows ts).flatten) := own_below HO.out hb0;have hbel0 : Below w.heap.size w W0 := hbel.trans (hb0.mono hbel.size);have hbtw : bt < W0.heap.size := BT0.lt;clear BT BX BR HES HMS HO hb0 hbel
     have hTW : ∀ W,Below W0.heap.size W0 W → W.cell? ⟨bt,2,none⟩ = some (.slice na i nc) ∧ W.cell? ⟨b0,2,none⟩ = some (.slice (some ⟨g,off,none⟩) E ce) ∧ W.cell? ⟨g,off + i * 2,none⟩ = some (.string m0) ∧ W.cell? ⟨g,off + i * 2 + 1,none⟩ = some (.slice a3 nF c3) := fun W hW => by
      have hwW : Below w.heap.size w W := hbel0.trans (hW.mono hbel0.size);exact ⟨(BT0.below hW).cell 2,(BX0.below hW).cell 2,(hwW.cell (World.block_lt_of_cell? _ _ C0.out)).trans C0.out,(hwW.cell (World.block_lt_of_cell? _ _ C1.out)).trans C1.out⟩
     have hT := hTW W0 (Below.refl _ _);refine M_take 0 46 (.pointer (some ⟨bt,2,none⟩)) _ rfl rfl (by kernel_rfl) (by kernel_rfl) (by kernel_rfl) (by kernel_rfl) (by kernel_rfl) (fun _ _ _ h => h) (by rfl) (fun w' hw' => ?_) hT (listed' := bts 20 1) (by kernel_rfl) rfl ?_
     ·obtain ⟨g0,g1,g2,g3⟩ := hw'; go_simp
     simp only [zsA,zsZ,zsS];refine M_take 2 48 (.pointer (some ⟨b0,2,none⟩)) _ rfl rfl (by kernel_rfl) (by kernel_rfl) (by kernel_rfl) (by kernel_rfl) (by kernel_rfl) (fun _ _ _ h => h) (by rfl) (fun w' hw' => ?_) hT (listed' := bts 20 5) (by kernel_rfl) rfl ?_
     ·obtain ⟨g0,g1,g2,g3⟩ := hw'; go_simp
     simp only [zsA,zsZ,zsS];refine M_take 4 50 (.int .i64 (i : Int)) _ rfl rfl (by kernel_rfl) (by kernel_rfl) (by kernel_rfl) (by kernel_rfl) (by kernel_rfl) (fun _ _ _ h => h) (by rfl) (fun w' hw' => ?_) hT (listed' := bts 20 21) (by kernel_rfl) rfl ?_
     ·obtain ⟨g0,g1,g2,g3⟩ := hw'; go_simp
     simp only [zsA,zsZ,zsS];refine M_take 8 54 (.pointer (some ⟨b0,2,none⟩)) _ rfl rfl (by kernel_rfl) (by kernel_rfl) (by kernel_rfl) (by kernel_rfl) (by kernel_rfl) (fun _ _ _ h => h) (by rfl) (fun w' hw' => ?_) hT (listed' := bts 20 277) (by kernel_rfl) rfl ?_
     ·obtain ⟨g0,g1,g2,g3⟩ := hw'; go_simp
     simp only [zsA,zsZ,zsS];refine M_take 10 56 (.int .i64 (i : Int)) _ rfl rfl (by kernel_rfl) (by kernel_rfl) (by kernel_rfl) (by kernel_rfl) (by kernel_rfl) (fun _ _ _ h => h) (by rfl) (fun w' hw' => ?_) hT (listed' := bts 20 1301) (by kernel_rfl) rfl ?_
     ·obtain ⟨g0,g1,g2,g3⟩ := hw'; go_simp
     simp only [zsA,zsZ,zsS];refine M_take 1 47 (.slice na i nc) _ rfl rfl (by kernel_rfl) (by kernel_rfl) (by kernel_rfl) (by kernel_rfl) (by kernel_rfl) (fun _ _ _ h => h) (by rfl) (fun w' hw' => ?_) hT (listed' := bts 20 1303) (by kernel_rfl) rfl ?_
     ·obtain ⟨g0,g1,g2,g3⟩ := hw'; go_simp
     simp only [zsA,zsZ,zsS];refine M_take 3 49 (.slice (some ⟨g,off,none⟩) E ce) _ rfl rfl (by kernel_rfl) (by kernel_rfl) (by kernel_rfl) (by kernel_rfl) (by kernel_rfl) (fun _ _ _ h => h) (by rfl) (fun w' hw' => ?_) hT (listed' := bts 20 1311) (by kernel_rfl) rfl ?_
     ·obtain ⟨g0,g1,g2,g3⟩ := hw'; go_simp
     simp only [zsA,zsZ,zsS];refine M_take 9 55 (.slice (some ⟨g,off,none⟩) E ce) _ rfl rfl (by kernel_rfl) (by kernel_rfl) (by kernel_rfl) (by kernel_rfl) (by kernel_rfl) (fun _ _ _ h => h) (by rfl) (fun w' hw' => ?_) hT (listed' := bts 20 1823) (by kernel_rfl) rfl ?_
     ·obtain ⟨g0,g1,g2,g3⟩ := hw'; go_simp
     simp only [zsA,zsZ,zsS];refine M_take 5 51 (.pointer (some ⟨g,off + i * 2,none⟩)) _ rfl rfl (by kernel_rfl) (by kernel_rfl) (by kernel_rfl) (by kernel_rfl) (by kernel_rfl) (fun _ _ _ h => h) (by rfl) (fun w' hw' => ?_) hT (listed' := bts 20 1855) (by kernel_rfl) rfl ?_
     ·obtain ⟨g0,g1,g2,g3⟩ := hw'; go_simp
     simp only [zsA,zsZ,zsS];refine M_take 11 57 (.pointer (some ⟨g,off + i * 2,none⟩)) _ rfl rfl (by kernel_rfl) (by kernel_rfl) (by kernel_rfl) (by kernel_rfl) (by kernel_rfl) (fun _ _ _ h => h) (by rfl) (fun w' hw' => ?_) hT (listed' := bts 20 3903) (by kernel_rfl) rfl ?_
     ·obtain ⟨g0,g1,g2,g3⟩ := hw'; go_simp
     simp only [zsA,zsZ,zsS];refine M_take 6 52 (.pointer (some ⟨g,off + i * 2,none⟩)) _ rfl rfl (by kernel_rfl) (by kernel_rfl) (by kernel_rfl) (by kernel_rfl) (by kernel_rfl) (fun _ _ _ h => h) (by rfl) (fun w' hw' => ?_) hT (listed' := bts 20 3967) (by kernel_rfl) rfl ?_
     ·obtain ⟨g0,g1,g2,g3⟩ := hw'; go_simp
     simp only [zsA,zsZ,zsS];refine M_take 12 58 (.pointer (some ⟨g,off + i * 2 + 1,none⟩)) _ rfl rfl (by kernel_rfl) (by kernel_rfl) (by kernel_rfl) (by kernel_rfl) (by kernel_rfl) (fun _ _ _ h => h) (by rfl) (fun w' hw' => ?_) hT (listed' := bts 20 8063) (by kernel_rfl) rfl ?_
     ·obtain ⟨g0,g1,g2,g3⟩ := hw'; go_simp
     simp only [zsA,zsZ,zsS];refine M_take 7 53 (.string m0) _ rfl rfl (by kernel_rfl) (by kernel_rfl) (by kernel_rfl) (by kernel_rfl) (by kernel_rfl) (fun _ _ _ h => h) (by rfl) (fun w' hw' => ?_) hT (listed' := bts 20 8191) (by kernel_rfl) rfl ?_
     ·obtain ⟨g0,g1,g2,g3⟩ := hw'; go_simp
     simp only [zsA,zsZ,zsS];refine M_take 13 59 (.slice a3 nF c3) _ rfl rfl (by kernel_rfl) (by kernel_rfl) (by kernel_rfl) (by kernel_rfl) (by kernel_rfl) (fun _ _ _ h => h) (by rfl) (fun w' hw' => ?_) hT (listed' := bts 20 16383) (by kernel_rfl) rfl ?_
     ·obtain ⟨g0,g1,g2,g3⟩ := hw'; go_simp
     simp only [zsA,zsZ,zsS];obtain ⟨vf,W1,r1,r2,r3⟩ := run_joinG (w := W0) 57 57 61 2 24 _ Tryz.underlying57 infoNm rfl (by decide) W0.heap.size (.slice none 0 0) 0 [] (World.ownsRow_nil _ _ _ _) (.slice a3 nF c3) (nmRows mf) (HFf.out.below hbel0) (nmr_len mf) (nmr_one mf) (by have := HLF.out; have := HFl.out; omega) (by decide) (Nat.le_refl _);rw [List.nil_append,HLF.out,Nat.zero_add] at r2;have hb1 : Below W0.heap.size W0 W1 := (Below.refl _ _).grown r3 (Nat.le_refl _) (fun k hk => by cases hk);obtain ⟨fa,fc,rfl⟩ := own_form r2;have HO1 : Hid (W1.ownsRow W0.heap.size 61 2 (.slice fa mf.length fc) mf.length (nmRows mf).flatten) := r2;have HAE5 : Hid (ApE (pe ++ [.slice fa mf.length fc])) := HAE.out.snoc HES0.out.highE (fun k hk => (HO1.out.lt k hk).1);have HRUN : Hid _ := r1;have hT := hTW W1 hb1;clear r1 r2 r3;refine M_run 14 60 (.slice fa mf.length fc) (W1) rfl rfl (by kernel_rfl) (by rfl) (listed' := bts 20 32767) (by kernel_rfl) (append_run rfl rfl rfl HRUN.out) hT ?_;simp only [zsA,zsZ,zsS];clear HRUN;refine M_take 15 61 (.agg #[.string m0,.slice fa mf.length fc]) _ rfl rfl (by kernel_rfl) (by kernel_rfl) (by kernel_rfl) (by kernel_rfl) (by kernel_rfl) (fun _ _ _ h => h) (by rfl) (fun w' hw' => ?_) hT (listed' := bts 20 65535) (by kernel_rfl) rfl ?_
     ·obtain ⟨g0,g1,g2,g3⟩ := hw'; go_simp
     simp only [zsA,zsZ,zsS];have hal : Below W1.heap.size W1 (W1.alloc (.cells #[.string m0,.slice fa mf.length fc] 59)) := (Below.refl _ _).alloc (Nat.le_refl _) _;have hb03 : Below W0.heap.size W0 (W1.alloc (.cells #[.string m0,.slice fa mf.length fc] 59)) := hb1.trans (hal.mono hb1.size);have BE := Blk.new W1 #[.string m0,.slice fa mf.length fc] 59;have HO1 : Hid ((W1.alloc (.cells #[.string m0,.slice fa mf.length fc] 59)).ownsRow W0.heap.size 61 2 (.slice fa mf.length fc) mf.length (nmRows mf).flatten) := own_below HO1.out hal;obtain ⟨bz,hbz⟩ : ∃ n,W1.heap.size = n := ⟨_,rfl⟩;refine M_run 16 62 (.slice (some ⟨W1.heap.size,0,none⟩) 1 1) (W1.alloc (.cells #[.string m0,.slice fa mf.length fc] 59)) rfl rfl (by kernel_rfl) (by rfl) (listed' := bts 20 131071) (by kernel_rfl) (by go_simp) (hTW _ hb03) ?_;simp only [zsA,zsZ,zsS];rw [hbz] at BE ⊢;generalize (W1.alloc (.cells #[.string m0,.slice fa mf.length fc] 59)) = W3 at *;clear hbz hal hb1;have HES3 : Hid (EnO W3 (bt + 1) (.slice na i nc) (es.take i) pe) := HES0.out.below hb03;obtain ⟨i0,hi0,hz0,hz1,hz2⟩ := info_parts infoEn;have hown := HES3.out.own;rw [HLK.out] at hown
     obtain ⟨v',W4,r1,r2,r3,_⟩ := run_append_own W3 (bt + 1) 23 23 59 i0 _ 2 40 Tryz.underlying23 hi0 hz0 hz1 hz2 rfl (by decide) (.slice na i nc) i _ hown ⟨bz,0,none⟩ 1 1 [.string m0,.slice fa mf.length fc] rfl (fun j u hu => by
      have := BE.cell j;rw [Addr.add_lit,Nat.zero_add,this]
      simpa using hu) (fun u hu => by
      simp only [List.mem_cons,List.not_mem_nil,or_false] at hu
      rcases hu with rfl | rfl <;> rfl) (by unfold maxLen; omega) (by omega) (by have := hb03.size; omega)
     have HRUN : Hid _ := r1;have KA : Kp (fun q => (Value.slice na i nc).ownBlock = some q) W3 W4 := (Kp.refl _ _).grown r3 (fun q hq _ => hq)
     have HES4 : Hid (EnO W4 (bt + 1) v' (es.take (i + 1)) (pe ++ [.slice fa mf.length fc])) := by
      show EnO _ _ _ _ _
      rw [HTK.out];refine EnO.snoc (m := ⟨m0,mf⟩) HES3.out (H := W0.heap.size) (by omega) HO1.out ?_ KA;rw [HLK.out]; exact r2
     obtain ⟨oa,oc,hv'⟩ := own_form r2;subst hv';have HES4 : Hid (EnO W4 (bt + 1) (.slice oa (i + 1) oc) (es.take (i + 1)) (pe ++ [.slice fa mf.length fc])) := HES4;have hnob : ∀ b cs t,Blk W3 b cs t → t ≠ 59 → ¬ (Value.slice na i nc).ownBlock = some b := fun b cs t hb ht hq => ht (own_type hown hq hb).symm
     have BT4 := (BT0.below hb03).kp KA (hnob _ _ _ (BT0.below hb03) (by decide));have BX4 := (BX0.below hb03).kp KA (hnob _ _ _ (BX0.below hb03) (by decide));have BR4 := (BR0.below hb03).kp KA (hnob _ _ _ (BR0.below hb03) (by decide));have HMS4 : Hid (MsO W4 (bt + 1) (.slice va k vc) ms pm) := (HMS0.out.below hb03).beside hown (by decide) (by decide) (by decide) KA;have HO4 : Hid (W4.ownsRow (b0 + 2) 63 3 (.slice ua T uc) T (mtRows ts).flatten) := own_kpV (own_below HO0.out hb03) KA (fun q hv hq => own_apart hown (own_below HO0.out hb03) (by decide) q hq hv);have hb4 : Below w.heap.size w W4 := (hbel0.trans (hb03.mono hbel0.size)).grown r3 (by have := hb03.size; have := hbel0.size; omega) (fun q hq => by have := (hown.lt q hq).1; have := HBZ.out; omega)
     have hTm : W4.cell? ⟨bt,2,none⟩ = some (.slice na i nc) ∧ W4.cell? ⟨b0,2,none⟩ = some (.slice (some ⟨g,off,none⟩) E ce) ∧ W4.cell? ⟨g,off + i * 2,none⟩ = some (.string m0) ∧ W4.cell? ⟨g,off + i * 2 + 1,none⟩ = some (.slice a3 nF c3) :=
      ⟨BT4.cell 2,BX4.cell 2,(hb4.cell (World.block_lt_of_cell? _ _ C0.out)).trans C0.out,(hb4.cell (World.block_lt_of_cell? _ _ C1.out)).trans C1.out⟩
     clear r1 r2 r3 hown;refine M_run 17 63 (.slice oa (i + 1) oc) (W4) rfl rfl (by kernel_rfl) (by rfl) (listed' := bts 20 262143) (by kernel_rfl) (append_run rfl rfl rfl HRUN.out) hTm ?_;simp only [zsA,zsZ,zsS];clear HRUN;have hT := hTm;refine M_take 18 64 (.pointer (some ⟨bt,2,none⟩)) _ rfl rfl (by kernel_rfl) (by kernel_rfl) (by kernel_rfl) (by kernel_rfl) (by kernel_rfl) (fun _ _ _ h => h) (by rfl) (fun w' hw' => ?_) hT (listed' := bts 20 524287) (by kernel_rfl) rfl ?_
     ·obtain ⟨g0,g1,g2,g3⟩ := hw'; go_simp
     simp only [zsA,zsZ,zsS];have y1 := (BT4.cell 2).trans rfl;have z1 := BT4.froz 2;refine M_store 19 (W4.setCell ⟨bt,2,none⟩ (.slice oa (i + 1) oc)) rfl rfl (by kernel_rfl) (by rfl) (listed' := bts 20 1048575) (by kernel_rfl) (by go_simp) (by kernel_rfl) ?_;refine M_done (by kernel_rfl) ?_ _
     have KS : Kp (fun q => q = bt) W4 (W4.setCell ⟨bt,2,none⟩ (.slice oa (i + 1) oc)) := by
      refine Kp.setCell ?_ (fun _ => by simp) _;exact Kp.refl _ _
     have BT5 : Blk (W4.setCell ⟨bt,2,none⟩ (.slice oa (i + 1) oc)) bt #[.string nm,.slice va k vc,.slice oa (i + 1) oc,.slice ua T uc] 26 := BT4.set 2 _ rfl;have BX5 := BX4.kp KS (by omega);have BR5 := BR4.kp KS (by omega);have HES5 : Hid (EnO (W4.setCell ⟨bt,2,none⟩ (.slice oa (i + 1) oc)) (bt + 1) (.slice oa (i + 1) oc) (es.take (i + 1)) (pe ++ [.slice fa mf.length fc])) := HES4.out.kp KS (fun q h1 h2 => by omega);have HMS5 : Hid (MsO (W4.setCell ⟨bt,2,none⟩ (.slice oa (i + 1) oc)) (bt + 1) (.slice va k vc) ms pm) := HMS4.out.kp KS (fun q h1 h2 => by omega);have HO5 : Hid ((W4.setCell ⟨bt,2,none⟩ (.slice oa (i + 1) oc)).ownsRow (b0 + 2) 63 3 (.slice ua T uc) T (mtRows ts).flatten) := own_blk HO4.out BT4 (by decide) KS;have hb5 : Below w.heap.size w (W4.setCell ⟨bt,2,none⟩ (.slice oa (i + 1) oc)) := hb4.trans (KS.toBelow hb4.size (fun q e => by have := HBZ.out; omega));generalize (W4.setCell ⟨bt,2,none⟩ (.slice oa (i + 1) oc)) = W5 at *;clear y1 z1 KS BT4 BX4 BR4 HMS4 HES4 HO4 hb4 hT hTm hTW BT0 BX0 BR0 HMS0 HES0 HO0 hbel0 HES3 KA BE hb03 HO1 hnob;go_wp2_with fail
     go_roundw
     case rel => exact ⟨i + 1,_,_,_,by go_num,by omega,HES5,HAE5,HMS5,BT5,HO5,BX5,BR5,hb5⟩
     case measure => simp [intOf]; omega
    ·have HES1 : Hid (EnO wr (bt + 1) (.slice na i nc) es pe) := by
      have := HES.out;rw [List.take_of_length_le (by rw [HNE.out]; omega)] at this;exact this
     have t0 : wr.cell? ⟨bt,0,none⟩ = some (.string nm) := BT.cell 0;have t1 : wr.cell? ⟨bt,1,none⟩ = some (.slice va k vc) := BT.cell 1;have t2 : wr.cell? ⟨bt,2,none⟩ = some (.slice na i nc) := BT.cell 2;have t3 : wr.cell? ⟨bt,3,none⟩ = some (.slice ua T uc) := BT.cell 3;have r0 := (BR.cell 0).trans rfl;have r1 := (BR.cell 1).trans rfl;have r2 := (BR.cell 2).trans rfl;have r3 := (BR.cell 3).trans rfl;have z0 := BR.froz 0;have z1 := BR.froz 1;have z2 := BR.froz 2;have z3 := BR.froz 3;go_wp2_with fail;refine bodyPost_ret (results_cell rfl _ _ _ ⟨b0 + 1,0,none⟩ (.agg #[.string nm,.slice va k vc,.slice na i nc,.slice ua T uc]) (by go_simp) (by go_simp)) rfl ?_
     have KS : Kp (fun q => q = b0 + 1) wr ((((wr.setCell ⟨b0 + 1,0,none⟩ (.string nm)).setCell ⟨b0 + 1,1,none⟩ (.slice va k vc)).setCell ⟨b0 + 1,2,none⟩ (.slice na i nc)).setCell ⟨b0 + 1,3,none⟩ (.slice ua T uc)) := by
      refine Kp.setCell ?_ (fun _ => by simp) _;refine Kp.setCell ?_ (fun _ => by simp) _;refine Kp.setCell ?_ (fun _ => by simp) _;refine Kp.setCell ?_ (fun _ => by simp) _;exact Kp.refl _ _
     refine ⟨_,_,_,pm,pe,rfl,?_,?_,?_,?_,HAR.out,HAE.out⟩
     ·exact (HMS.out.kp KS (fun q h1 h2 => by omega)).base (by have := HBZ.out; omega)
     ·exact (HES1.out.kp KS (fun q h1 h2 => by omega)).base (by have := HBZ.out; omega)
     ·exact own_base (own_kp HO.out KS (fun q h1 h2 => by omega)) (by have := HBZ.out; omega)
     ·exact hbel.trans (KS.toBelow hbel.size (fun q e => by have := HBZ.out; omega))
theorem schema_any {w : World} {v : Value} {s : ScS} (hr : ScIn w v s) (hf : FewL s) :
  Calls Tryz.prog 10 #[v] w fun e w' => ∃ vm ve vt pm pe,e = .returned (.agg #[.string s.name,vm,ve,vt]) ∧ MsO w' w.heap.size vm s.msgs pm ∧ EnO w' w.heap.size ve s.enums pe ∧ w'.ownsRow w.heap.size 63 3 vt s.methods.length (mtRows s.methods).flatten ∧ Below w.heap.size w w' :=
 (schema_ap hr hf).mono fun e w' ⟨vm,ve,vt,pm,pe,h1,h2,h3,h4,h5,_⟩ => ⟨vm,ve,vt,pm,pe,h1,h2,h3,h4,h5⟩
end
end Go.Proofs.YtmgbhicogmclgaaGreat
