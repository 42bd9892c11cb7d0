/- Part 22 of what the proof stands on. -/
import Derived.Test.YtiajaocckkghgaaGreatPkCAU
import Derived.SizedLaws
import Derived.Deep.Slices
import Derived.Deep.Strs
import Derived.Lib.SmallJoins
namespace Go.Proofs.YtiajaocckkghgaaGreat
set_option maxHeartbeats 8000000
set_option linter.unusedVariables false
set_option linter.unusedSimpArgs false
set_option maxRecDepth 20000
section
open Go.ChangeShapes Go.WideShapes Go.ChangeAt Go.RowKit Go.Maps
theorem FewS.sm {s : ScS} (h : FewS s) : ∀ m ∈ s.msgs,m.name.size ≤ 20000 ∧ ∀ f ∈ m.fields,f.name.size ≤ 20000 := fun m hm => by
 have h1 := h.eachM m hm;refine ⟨by have := h1.1; omega,fun f hf => ?_⟩;have h2 := (h1.2.2.2 f hf);unfold flFew at h2
 omega
theorem FewS.sn {s : ScS} (h : FewS s) : ∀ m ∈ s.enums,m.name.size ≤ 20000 ∧ ∀ f ∈ m.values,f.name.size ≤ 20000 := fun m hm => by
 have h1 := h.eachE m hm;refine ⟨by have := h1.1; omega,fun f hf => ?_⟩;have h2 := (h1.2.2 f hf);unfold nmFew at h2
 omega
structure MayS (s : ScS) : Prop where
 may : MayL s
 name : s.name.size ≤ 20000
 sm : ∀ m ∈ s.msgs,m.name.size ≤ 20000 ∧ ∀ f ∈ m.fields,f.name.size ≤ 20000
 sn : ∀ m ∈ s.enums,m.name.size ≤ 20000 ∧ ∀ f ∈ m.values,f.name.size ≤ 20000
 st : ∀ m ∈ s.methods,m.name.size ≤ 20000
theorem FewS.mayS {s : ScS} (h : FewS s) : MayS s := ⟨h.few.may,Nat.le_trans h.name (by decide),h.sm,h.sn,fun m hm => Nat.le_trans (h.eachT m hm).1 (by decide)⟩
theorem rcheck_may {w : World} {v : Value} {s : ScS} (hr : ScIn w v s) (hfs : MayS s) :
  Calls Tryz.prog 21 #[v] w fun e w' => e = .returned (.int .i64 (checkA s)) ∧ Below w.heap.size w w' := by
 obtain ⟨vm0,ve0,vt0,rfl,hm,he,ht⟩ := hr;obtain ⟨am,cm,rfl,qm1,qm2⟩ := hm.form2;obtain ⟨ae,ce,rfl,qe1,qe2⟩ := he.form2;obtain ⟨at',ct,rfl,qt1,qt2⟩ := ht.form2
 have hTl : (mtRows s.methods).length = s.methods.length := by simp [mtRows]
 rw [hTl] at ht qt1 ⊢;obtain ⟨M,hM⟩ : ∃ N,s.msgs.length = N := ⟨_,rfl⟩;obtain ⟨E,hE⟩ : ∃ N,s.enums.length = N := ⟨_,rfl⟩;obtain ⟨T,hT⟩ : ∃ N,s.methods.length = N := ⟨_,rfl⟩;obtain ⟨nm,hnm⟩ : ∃ N,s.name = N := ⟨_,rfl⟩;rw [hM] at hm qm1 ⊢;rw [hE] at he qe1 ⊢;rw [hT] at ht qt1 ⊢;rw [hnm];have HM : Hid (MsIn w (.slice am M cm) s.msgs) := hm;have HE : Hid (EnIn w (.slice ae E ce) s.enums) := he;have HTR : Hid (RowG w (.slice at' T ct) 3 (mtRows s.methods)) := ht;have HLM : Hid (s.msgs.length = M) := hM;have HLE : Hid (s.enums.length = E) := hE;have HLT : Hid (s.methods.length = T) := hT;have HNM : Hid (s.name = nm) := hnm;have HF : Hid (MayS s) := hfs
 have hM14 : M ≤ 30000 := by have := hfs.may.msgs; omega
 have hE10 : E ≤ 30000 := by have := hfs.may.enums; omega
 have hT10 : T ≤ 30000 := by have := hfs.may.meths; omega
 have hns : nm.size ≤ 20000 := by have := hfs.name; rw [hnm] at this; omega
 clear hm he ht hM hE hT hnm hfs hTl;obtain ⟨A,hA⟩ : ∃ A,checkA s = A := ⟨_,rfl⟩;rw [hA];have HA : Hid (A = checkA s) := hA.symm;clear hA;have hba : Below w.heap.size w (w.alloc (.cells #[.string nm,.slice am M cm,.slice ae E ce,.slice at' T ct] 26)) := (Below.refl _ _).alloc (Nat.le_refl _) _;have BX0 := Blk.new w #[.string nm,.slice am M cm,.slice ae E ce,.slice at' T ct] 26
 go_enter Tryz.func21,Tryz.ntmps21
 go_wp2_with fail;refine (rfname_any nm _ hns).mono ?_;rintro e w1 ⟨rfl,hb1⟩;have hbw1 : Below w.heap.size w w1 := hba.trans (hb1.mono hba.size);have BX1 := BX0.below hb1;clear hb1 hba BX0
 cases hn : nameB nm with
 | false =>
  have HA2 : Hid (A = 6) := by show _ = _; rw [HA.out]; unfold checkA wholeA; rw [HNM.out,if_pos hn]; rfl
  clear HA hn;go_wp2_with fail;go_ret;exact ⟨ret_e HA2.out.symm,hbw1⟩
 | true =>
  have c0 : w1.cell? ⟨w.heap.size,0,none⟩ = some (.string nm) := BX1.cell 0;have c1 : w1.cell? ⟨w.heap.size,1,none⟩ = some (.slice am M cm) := BX1.cell 1;have c2 : w1.cell? ⟨w.heap.size,2,none⟩ = some (.slice ae E ce) := BX1.cell 2;have c3 : w1.cell? ⟨w.heap.size,3,none⟩ = some (.slice at' T ct) := BX1.cell 3
  by_cases hM0 : M = 0
  ·have HA2 : Hid (A = 12) := by show _ = _; rw [HA.out]; unfold checkA wholeA; rw [HNM.out,if_neg (by rw [hn]; decide),if_pos (by rw [HLM.out]; exact hM0)]; rfl
   clear HA hn;subst hM0;go_wp2_with fail;go_ret;exact ⟨ret_e HA2.out.symm,hbw1⟩
  by_cases hbig : 10 < M
  ·have HA2 : Hid (A = 4) := by show _ = _; rw [HA.out]; unfold checkA wholeA; rw [HNM.out,if_neg (by rw [hn]; decide),if_neg (by rw [HLM.out]; exact hM0),if_pos (by unfold bigS; rw [HLM.out,decide_eq_true (.inl hbig)])]; rfl
   clear HA hn;go_wp2_with fail;go_ret;exact ⟨ret_e HA2.out.symm,hbw1⟩
  by_cases hbig2 : 6 < E
  ·have HA2 : Hid (A = 4) := by show _ = _; rw [HA.out]; unfold checkA wholeA; rw [HNM.out,if_neg (by rw [hn]; decide),if_neg (by rw [HLM.out]; exact hM0),if_pos (by unfold bigS; rw [HLE.out,decide_eq_true (.inr (.inl hbig2))])]; rfl
   clear HA hn;go_wp2_with fail;go_ret;exact ⟨ret_e HA2.out.symm,hbw1⟩
  by_cases hbig3 : 6 < T
  ·have HA2 : Hid (A = 4) := by show _ = _; rw [HA.out]; unfold checkA wholeA; rw [HNM.out,if_neg (by rw [hn]; decide),if_neg (by rw [HLM.out]; exact hM0),if_pos (by unfold bigS; rw [HLT.out,decide_eq_true (.inr (.inr hbig3))])]; rfl
   clear HA hn;go_wp2_with fail;go_ret;exact ⟨ret_e HA2.out.symm,hbw1⟩
  obtain ⟨X,hX⟩ : ∃ X,partsA s = X := ⟨_,rfl⟩
  have HA2 : Hid (A = orE X (chkTs s.mn ((s.methods.take 0).map MtS.name) (s.methods.drop 0))) := by
   show _ = _
   rw [HA.out]; unfold checkA wholeA;rw [HNM.out,if_neg (by rw [hn]; decide),if_neg (by rw [HLM.out]; exact hM0),if_neg (by unfold bigS; rw [HLM.out,HLE.out,HLT.out,decide_eq_false (by omega)]; decide),orE_zero,hX]
   rfl
  have HP : Hid (∀ W,Below w.heap.size w W → Calls Tryz.prog 39 #[.agg #[.string nm,.slice am M cm,.slice ae E ce,.slice at' T ct]] W fun e W' => e = .returned (.int .i64 X) ∧ Below W.heap.size W W') := fun W hW => by
   rw [← hX];exact rparts_any (HM.out.below hW) (HE.out.below hW) HLM.out HLE.out hM14 hE10 HF.out.may.flds HF.out.may.vals HF.out.sm HF.out.sn
  clear HA hX hn;go_wp2_with fail;clear c0 c1 c2 c3;refine (HP.out w1 hbw1).mono ?_;rintro e w2 ⟨rfl,hb2⟩;have hbw2 : Below w.heap.size w w2 := hbw1.trans (hb2.mono hbw1.size);have BX2 := BX1.below hb2;clear hb2 hbw1 BX1 HP
  by_cases hX0 : X = 0
  case neg =>
   have HA3 : Hid (A = X) := by show _ = _; rw [HA2.out,orE_ne hX0]
   have hq : (X == 0) = false := by rw [beq_eq_false_iff_ne]; exact hX0
   clear HA2 hX0;go_wp2_with fail;go_ret;exact ⟨ret_e HA3.out.symm,hbw2⟩
  subst hX0
  have HA3 : Hid (A = chkTs s.mn ((s.methods.take 0).map MtS.name) (s.methods.drop 0)) := by show _ = _; rw [HA2.out,orE_zero]
  have HS0 : Hid (Seen w2 w.heap.size (.slice none 0 0) ((s.methods.take 0).map MtS.name)) := Seen.nil _ _;clear HA2;go_wp2_with fail
  go_loopw [4,5] (fun nv iv wr => ∃ (k : Nat) (sa : Option Addr) (sc : Nat),nv = .slice sa k sc ∧ iv = .int .i64 (k : Int) ∧ k ≤ T ∧ Hid (A = chkTs s.mn ((s.methods.take k).map MtS.name) (s.methods.drop k)) ∧ Hid (Seen wr w.heap.size (.slice sa k sc) ((s.methods.take k).map MtS.name)) ∧ Below w.heap.size w wr ∧ Blk wr w.heap.size #[.string nm,.slice am M cm,.slice ae E ce,.slice at' T ct] 26) (fun _ iv _ => T - (intOf iv).toNat)
  case atStart => exact ⟨0,none,0,rfl,rfl,by omega,HA3,HS0,hbw2,BX2⟩
  case round =>
   clear HA3 HS0 hbw2 BX2;obtain ⟨k,sa,sc,rfl,rfl,hk,HAk,HSE,hbel,BX⟩ := hrel;have x3 : wr.cell? ⟨w.heap.size,3,none⟩ = some (.slice at' T ct) := BX.cell 3
   by_cases hlt : k < T
   ·obtain ⟨m,hm⟩ : ∃ x,s.methods[k]? = some x := ⟨_,List.getElem?_eq_getElem (by rw [HLT.out]; exact hlt)⟩;have hsz := HF.out.st m (List.mem_of_getElem? hm);obtain ⟨m0,m1,m2⟩ := m;simp only at hsz
    have hfr : (mtRows s.methods)[k]? = some [.string m0,.string m1,.string m2] := by simp [mtRows,MtS.cells,hm]
    obtain ⟨g,off,rfl,hcs⟩ := HTR.out.get hfr;have C0 := hcs 0 _ rfl;have C1 := hcs 1 _ rfl;have C2 := hcs 2 _ rfl;simp only [Nat.add_zero] at C0 C1 C2
    have HTK : Hid ((s.methods.take (k + 1)).map MtS.name = (s.methods.take k).map MtS.name ++ [m0]) := by show _ = _; rw [List.take_add_one,hm]; simp
    obtain ⟨al,hal⟩ : ∃ al,(s.methods.take k).map MtS.name = al := ⟨_,rfl⟩;rw [hal] at HAk HSE HTK
    have HAL : Hid (al.length = k) := by show _ = _; rw [← hal,List.length_map,List.length_take,HLT.out]; omega
    have HA2 : Hid (A = if freshB m0 al = false then 6 else if (memB m1 s.mn && memB m2 s.mn) = false then 8 else chkTs s.mn (al ++ [m0]) (s.methods.drop (k + 1))) := by
     show _ = _
     rw [HAk.out,drop_at hm]; rfl
    have p0 : wr.cell? ⟨g,off + k * 3,none⟩ = some (.string m0) := (hbel.cell (World.block_lt_of_cell? _ _ C0)).trans C0;have p1 : wr.cell? ⟨g,off + k * 3 + 1,none⟩ = some (.string m1) := (hbel.cell (World.block_lt_of_cell? _ _ C1)).trans C1;have p2 : wr.cell? ⟨g,off + k * 3 + 2,none⟩ = some (.string m2) := (hbel.cell (World.block_lt_of_cell? _ _ C2)).trans C2;have ha : Below wr.heap.size wr (wr.alloc (.cells #[.string m0,.string m1,.string m2] 72)) := (Below.refl _ _).alloc (Nat.le_refl _) _;have BV := Blk.new wr #[.string m0,.string m1,.string m2] 72;clear C0 C1 C2 hcs hfr hm hal HAk;go_wp2_with fail;clear x3 p0 p1 p2;refine (rfresh_any m0 (by omega) (HSE.out.below ha).row).mono ?_;rintro e w1 ⟨rfl,hb1⟩;have hbw1 : Below w.heap.size w w1 := (hbel.trans (ha.mono hbel.size)).trans (hb1.mono (hbel.trans (ha.mono hbel.size)).size);have HS1 : Hid (Seen w1 w.heap.size (.slice sa k sc) al) := (HSE.out.below ha).below hb1;have BX1 := (BX.below ha).below hb1;have BV1 := BV.below hb1;clear BV ha hb1 HSE
    cases hfr : freshB m0 al with
    | false =>
     have HA4 : Hid (A = 6) := by show _ = _; rw [HA2.out,if_pos hfr]
     clear HA2;go_wp2_with fail;go_ret;exact ⟨ret_e HA4.out.symm,hbw1⟩
    | true =>
     have HA4 : Hid (A = if (memB m1 s.mn && memB m2 s.mn) = false then 8 else chkTs s.mn (al ++ [m0]) (s.methods.drop (k + 1))) := by show _ = _; rw [HA2.out,if_neg (by rw [hfr]; decide)]
     clear HA2 hfr;obtain ⟨bv,hbv⟩ : ∃ n,wr.heap.size = n := ⟨_,rfl⟩;rw [hbv] at BV1 ⊢;clear hbv hbel BX;have v0 : w1.cell? ⟨bv,0,none⟩ = some (.string m0) := BV1.cell 0
     go_wp2_with (first
      | (at_builtin; refine wpList_seen (al := al) (x := m0) rfl _ _ rfl rfl rfl HS1.out ?c1 ?c2 ?_)
      | fail)
     case c1 => exact hbw1.size
     case c2 => rw [HAL.out]; omega
     intro v' w2 hS2 hK2 hB2;obtain ⟨ta,tc,rfl⟩ := hS2.form
     have hl2 : (al ++ [m0]).length = k + 1 := by rw [List.length_append,HAL.out]; rfl
     rw [hl2] at hS2 ⊢;have HS2 : Hid (Seen w2 w.heap.size (.slice ta (k + 1) tc) (al ++ [m0])) := hS2;have HAL2 : Hid ((al ++ [m0]).length = k + 1) := hl2;have hb2 : Below w.heap.size w w2 := hbw1.trans hB2;have BX2 := BX1.kp hK2 (fun e => absurd (own_type HS1.out e BX1) (by decide));have BV2 := BV1.kp hK2 (fun e => absurd (own_type HS1.out e BV1) (by decide));clear v0 hS2 hl2 hK2 hB2 BX1 BV1 HS1 hbw1 HAL;have b0 : (w2).cell? ⟨w.heap.size,0,none⟩ = some (.string nm) := BX2.cell 0;have b1 : (w2).cell? ⟨w.heap.size,1,none⟩ = some (.slice am M cm) := BX2.cell 1;have b2 : (w2).cell? ⟨w.heap.size,2,none⟩ = some (.slice ae E ce) := BX2.cell 2;have b3 : (w2).cell? ⟨w.heap.size,3,none⟩ = some (.slice (some ⟨g,off,none⟩) T ct) := BX2.cell 3;have b4 : (w2).cell? ⟨bv,1,none⟩ = some (.string m1) := BV2.cell 1;go_wp2_with fail;refine (r7message_any (HM.out.below hb2)).mono ?_;rintro e wv ⟨vf,vr,rfl,h1,h2,hb⟩;rw [find_mn];obtain ⟨ya,yc,rfl,_,_⟩ := h1.form2;obtain ⟨yd,ye,rfl,_,_⟩ := h2.form2;generalize ((s.msgs.find? fun x => decide (x.name = m1)).getD zeroM).name = yn at *;generalize (flRows ((s.msgs.find? fun x => decide (x.name = m1)).getD zeroM).fields).length = yF at *;generalize (inRows ((s.msgs.find? fun x => decide (x.name = m1)).getD zeroM).reserved).length = yR at *;have ha : Below wv.heap.size wv (wv.alloc (.cells #[.string yn,.slice ya yF yc,.slice yd yR ye] 50)) := (Below.refl _ _).alloc (Nat.le_refl _) _;have hbwv : Below w.heap.size w (wv.alloc (.cells #[.string yn,.slice ya yF yc,.slice yd yR ye] 50)) := (hb2.trans (hb.mono hb2.size)).trans (ha.mono (hb2.trans (hb.mono hb2.size)).size);have BXwv := (BX2.below hb).below ha;have BVwv := (BV2.below hb).below ha;have HSwv : Hid (Seen (wv.alloc (.cells #[.string yn,.slice ya yF yc,.slice yd yR ye] 50)) w.heap.size (.slice ta (k + 1) tc) (al ++ [m0])) := Seen.below (Seen.below HS2.out hb) ha;obtain ⟨yB,hyB⟩ : ∃ B,memB m1 (s.msgs.map MsS.name) = B := ⟨_,rfl⟩;rw [hyB];have HyB : Hid (memB m1 s.mn = yB) := hyB;clear b0 b1 b2 b3 b4 h1 h2 hb hb2 BX2 BV2 ha hyB;have b0 : (wv.alloc (.cells #[.string yn,.slice ya yF yc,.slice yd yR ye] 50)).cell? ⟨w.heap.size,0,none⟩ = some (.string nm) := BXwv.cell 0;have b1 : (wv.alloc (.cells #[.string yn,.slice ya yF yc,.slice yd yR ye] 50)).cell? ⟨w.heap.size,1,none⟩ = some (.slice am M cm) := BXwv.cell 1;have b2 : (wv.alloc (.cells #[.string yn,.slice ya yF yc,.slice yd yR ye] 50)).cell? ⟨w.heap.size,2,none⟩ = some (.slice ae E ce) := BXwv.cell 2;have b3 : (wv.alloc (.cells #[.string yn,.slice ya yF yc,.slice yd yR ye] 50)).cell? ⟨w.heap.size,3,none⟩ = some (.slice (some ⟨g,off,none⟩) T ct) := BXwv.cell 3;have b4 : (wv.alloc (.cells #[.string yn,.slice ya yF yc,.slice yd yR ye] 50)).cell? ⟨bv,2,none⟩ = some (.string m2) := BVwv.cell 2;go_wp2_with fail;refine (r7message_any (HM.out.below hbwv)).mono ?_;rintro e wx ⟨vf,vr,rfl,h1,h2,hb⟩;rw [find_mn];obtain ⟨za,zc,rfl,_,_⟩ := h1.form2;obtain ⟨zd,ze,rfl,_,_⟩ := h2.form2;generalize ((s.msgs.find? fun x => decide (x.name = m2)).getD zeroM).name = zn at *;generalize (flRows ((s.msgs.find? fun x => decide (x.name = m2)).getD zeroM).fields).length = zF at *;generalize (inRows ((s.msgs.find? fun x => decide (x.name = m2)).getD zeroM).reserved).length = zR at *;have ha : Below wx.heap.size wx (wx.alloc (.cells #[.string zn,.slice za zF zc,.slice zd zR ze] 50)) := (Below.refl _ _).alloc (Nat.le_refl _) _;have hbwx : Below w.heap.size w (wx.alloc (.cells #[.string zn,.slice za zF zc,.slice zd zR ze] 50)) := (hbwv.trans (hb.mono hbwv.size)).trans (ha.mono (hbwv.trans (hb.mono hbwv.size)).size);have BXwx := (BXwv.below hb).below ha;have BVwx := (BVwv.below hb).below ha;have HSwx : Hid (Seen (wx.alloc (.cells #[.string zn,.slice za zF zc,.slice zd zR ze] 50)) w.heap.size (.slice ta (k + 1) tc) (al ++ [m0])) := Seen.below (Seen.below HSwv.out hb) ha;obtain ⟨zB,hzB⟩ : ∃ B,memB m2 (s.msgs.map MsS.name) = B := ⟨_,rfl⟩;rw [hzB];have HzB : Hid (memB m2 s.mn = zB) := hzB;clear b0 b1 b2 b3 b4 h1 h2 hb hbwv BXwv BVwv ha hzB
     cases yB with
     | false =>
      have HA5 : Hid (A = 8) := by show _ = _; rw [HA4.out,if_pos (by rw [HyB.out]; rfl)]
      clear HA4;go_wp2_with fail;go_ret;exact ⟨ret_e HA5.out.symm,hbwx⟩
     | true =>
      cases zB with
      | false =>
       have HA5 : Hid (A = 8) := by show _ = _; rw [HA4.out,if_pos (by rw [HyB.out,HzB.out]; rfl)]
       clear HA4;go_wp2_with fail;go_ret;exact ⟨ret_e HA5.out.symm,hbwx⟩
      | true =>
       have HA5 : Hid (A = chkTs s.mn ((s.methods.take (k + 1)).map MtS.name) (s.methods.drop (k + 1))) := by show _ = _; rw [HA4.out,if_neg (by rw [HyB.out,HzB.out]; decide),HTK.out]
       have HS4 : Hid (Seen (wx.alloc (.cells #[.string zn,.slice za zF zc,.slice zd zR ze] 50)) w.heap.size (.slice ta (k + 1) tc) ((s.methods.take (k + 1)).map MtS.name)) := by show Seen _ _ _ _; rw [HTK.out]; exact HSwx.out
       clear HA4;go_wp2_with fail
       go_roundw
       case rel => exact ⟨k + 1,ta,tc,rfl,by go_num,by omega,HA5,HS4,hbwx,BXwx⟩
       case measure => simp [intOf]; omega
   ·have HA3 : Hid (A = 0) := by show _ = _; rw [HAk.out,drop_end (by rw [HLT.out]; omega)]; rfl
    clear HAk;go_wp2_with fail;go_ret;exact ⟨ret_e HA3.out.symm,hbel⟩
theorem rcheck_any {w : World} {v : Value} {s : ScS} (hr : ScIn w v s) (hfs : FewS s) :
  Calls Tryz.prog 21 #[v] w fun e w' => e = .returned (.int .i64 (checkA s)) ∧ Below w.heap.size w w' := rcheck_may hr hfs.mayS
end
section
open Go.RowKit
theorem find_at {α β : Type} (key : α → β) {l : List α} (hn : (l.map key).Nodup) {i : Nat} {x : α} (hi : l[i]? = some x) (p : α → Bool) (hp : ∀ y,p y = true ↔ key y = key x) : l.find? p = some x := by
 induction l generalizing i with
 | nil => simp at hi
 | cons y l ih =>
  rw [List.map_cons,List.nodup_cons] at hn
  cases i with
  | zero =>
   simp at hi
   subst hi;rw [List.find?_cons,(hp y).2 rfl]
  | succ i =>
   simp at hi
   have hne : p y = false := by
    cases hpy : p y
    ·rfl
    ·have := (hp y).1 hpy;exact absurd (this ▸ List.mem_map_of_mem (List.mem_of_getElem? hi)) hn.1
   rw [List.find?_cons,hne];exact ih hn.2 hi
theorem ok_findM {s : ScS} (h : OkS s) {i : Nat} {m : MsS} (hi : s.msgs[i]? = some m) : (s.msgs.find? fun x => decide (x.name = m.name)) = some m :=
 find_at MsS.name h.names hi _ (fun y => by simp)
end
section
open Go.ChangeShapes Go.WideShapes Go.ChangeAt Go.RowKit
def Lite {H : Type} (t : TypeId) (d : DataW H) : Prop := ∀ n ∈ d.weights Tryz.prog t,n ≤ 140737488351232
theorem lite_all {H : Type} {e : TypeId} : ∀ {l : List (DataW H)} {d : DataW H},d ∈ l → ∀ n ∈ d.weights Tryz.prog e,n ∈ DataW.weightsAll Tryz.prog e l
 | x :: l,d,h,n,hn => by
  simp only [DataW.weightsAll,List.mem_append]
  rcases List.mem_cons.1 h with rfl | h
  ·exact .inl hn
  ·exact .inr (lite_all h n hn)
theorem lite_each {H : Type} {ts : List TypeId} {ds : List (DataW H)} (h : ∀ n ∈ DataW.weightsEach Tryz.prog ts ds,n ≤ 140737488351232) {j : Nat} {t : TypeId} {d : DataW H} (ht : ts[j]? = some t) (hd : ds[j]? = some d) : Lite t d :=
 fun n hn => h n (DataW.weights_mem_each ht hd n hn)
theorem lite_str {H : Type} {t : TypeId} {l : List UInt8} (h : Lite t (.lit (.string l) : DataW H)) : l.length ≤ 140737488351232 := h _ (by simp [DataW.weights])
section
variable {H : Type} {enc : TypeId × Value → H} {W : World} {base : Nat} {spare : Nat → Bool} {held : Bool}
theorem lite_struct {t : TypeId} {fs : Array Field} {ds : List (DataW H)} (hu : Tryz.prog.underlying t = some (.struct fs)) (h : Lite t (.agg ds : DataW H)) {j : Nat} {u : TypeId} {d : DataW H} (ht : (fs.toList.map (·.type))[j]? = some u) (hd : ds[j]? = some d) : Lite u d := by
 refine lite_each (ts := fs.toList.map (·.type)) (ds := ds) (fun n hn => h n ?_) ht hd;simp only [DataW.weights,hu];exact hn
theorem row_in {α : Type} {t e : TypeId} {size : Nat} (hc : Tryz.prog.cellsOf e = size) (hpos : 0 < size) (ht : Tryz.prog.underlying t = some (.slice e)) (cells : α → List Value) (hcl : ∀ r,(cells r).length = size) (P : α → Prop) (dflt : α)
  {fuel : Nat} {a : Option Addr} {len cap : Nat} {x : DataW H × List MemPlace} (h : DataW.trod enc Tryz.prog W base spare held fuel t [.slice a len cap] = some x) (hl : Lite t x.1)
  (one : ∀ n cs' y,DataW.trod enc Tryz.prog W base spare held n e cs' = some y → Lite e y.1 → ∃ r,cs' = cells r ∧ P r) :
  ∃ rs : List α,rs.length = len ∧ RowG W (.slice a len cap) size (rs.map cells) ∧ ∀ r ∈ rs,P r := by
 rcases Deep.open_slice ht h with ⟨hcs, -⟩ | ⟨ad,len',cap',m,n,D,Pl,hcs, -,hle,hm,hmm,hx0,hx⟩
 ·simp only [List.cons.injEq,Value.slice.injEq,and_true] at hcs;obtain ⟨rfl,rfl,rfl⟩ := hcs;exact ⟨[],rfl,RowG.nil _ _,by simp⟩
 ·simp only [List.cons.injEq,Value.slice.injEq,and_true] at hcs;obtain ⟨rfl,rfl,rfl⟩ := hcs;subst hx0
  have hml : len ≤ m := by rw [hmm]; split <;> omega
  rw [hc] at hx
  have each : ∀ i,i < len → ∃ r : α,W.cells? base (ad.add (i * size)) size = some (cells r) ∧ P r := fun i hi => by
   obtain ⟨cs',h1,h2⟩ := hx i (by omega)
   obtain ⟨r,rfl,hp⟩ := one n cs' _ h2 (fun k hk => hl k (by
    simp only [DataW.weights,ht,List.mem_cons,List.mem_append]
    exact .inr (.inl (lite_all (List.mem_map.2 ⟨i,List.mem_range.2 hi,rfl⟩) k hk))))
   exact ⟨r,h1,hp⟩
  obtain ⟨f,hf⟩ : ∃ f : Nat → α,∀ i,i < len → W.cells? base (ad.add (i * size)) size = some (cells (f i)) ∧ P (f i) :=
   ⟨fun i => if h : i < len then Classical.choose (each i h) else dflt,fun i hi => by simp only [dif_pos hi]; exact Classical.choose_spec (each i hi)⟩
  refine ⟨(List.range len).map f,by simp,?_,?_⟩
  ·refine ⟨some ad,cap,by simp,by simpa using hle,hm,(fun e => by cases e),fun hne => ?_⟩
   have hlen : 0 < len := by
    rcases Nat.eq_zero_or_pos len with h0 | h0
    ·subst h0; simp at hne
    ·exact h0
   have hcell : ∀ i,i < len → ∀ c,c < size → W.cell? ((ad.add (i * size)).add c) = (cells (f i))[c]? := fun i hi => (World.cells?_some (hf i hi).1).2.2
   obtain ⟨g,off,spot⟩ := ad
   have hspot : spot = none := by
    have h1 := hcell 0 hlen 0 hpos;obtain ⟨u,hu⟩ : ∃ u,(cells (f 0))[0]? = some u := ⟨_,List.getElem?_eq_getElem (by rw [hcl]; exact hpos)⟩;rw [hu] at h1
    simpa [Addr.add] using World.cell?_spot h1
   subst hspot;refine ⟨g,off,rfl,fun i c u j hi hj => ?_⟩;simp only [List.map_map,List.getElem?_map,Option.map_eq_some_iff,Function.comp_apply] at hi;obtain ⟨i',hi',rfl⟩ := hi;obtain ⟨hil,hie⟩ := List.getElem?_eq_some_iff.1 hi'
   simp at hie
   subst hie;simp only [List.length_range] at hil
   have hjs : j < size := by rw [← hcl (f i)]; exact (List.getElem?_eq_some_iff.1 hj).1
   have h2 := hcell i hil j hjs;rw [hj,Deep.add_add,Addr.add_lit] at h2;rw [Nat.add_assoc];exact h2
  ·intro r hr;simp only [List.mem_map,List.mem_range] at hr;obtain ⟨i,hi,rfl⟩ := hr;exact (hf i hi).2
theorem i64_ofS {n : Int} (h : (Lit.int .i64 n).wf = true) : I64 n := bounds_i64 h
theorem cellsIn : Tryz.prog.cellsOf 3 = 1 := by kernel_rfl
theorem cellsSt : Tryz.prog.cellsOf 9 = 1 := by kernel_rfl
theorem cellsTy : Tryz.prog.cellsOf 56 = 2 := by kernel_rfl
theorem cellsFl : Tryz.prog.cellsOf 58 = 5 := by kernel_rfl
theorem cellsNm : Tryz.prog.cellsOf 70 = 2 := by kernel_rfl
theorem cellsMt : Tryz.prog.cellsOf 72 = 3 := by kernel_rfl
theorem cellsMs : Tryz.prog.cellsOf 50 = 3 := by kernel_rfl
theorem cellsEn : Tryz.prog.cellsOf 68 = 2 := by kernel_rfl
theorem cellsSc : Tryz.prog.cellsOf 26 = 4 := by kernel_rfl
theorem cellsSl : Tryz.prog.cellsOf 48 = 1 ∧ Tryz.prog.cellsOf 46 = 1 ∧ Tryz.prog.cellsOf 66 = 1 ∧ Tryz.prog.cellsOf 22 = 1 ∧ Tryz.prog.cellsOf 23 = 1 ∧ Tryz.prog.cellsOf 24 = 1 := ⟨by kernel_rfl,by kernel_rfl,by kernel_rfl,by kernel_rfl,by kernel_rfl,by kernel_rfl⟩
theorem str_in {n : Nat} {c : Value} {y : DataW H × List MemPlace} (h : DataW.trod enc Tryz.prog W base spare held n 9 [c] = some y) (hl : Lite 9 y.1) : ∃ b : ByteArray,c = .string b ∧ b.size ≤ 140737488351232 := by
 obtain ⟨b,e,hy,w⟩ := DataW.trod_string Tryz.underlying9 h;simp only [List.cons.injEq,and_true] at e;subst e hy;exact ⟨b,rfl,lite_str hl⟩
theorem int_in {n : Nat} {c : Value} {y : DataW H × List MemPlace} (h : DataW.trod enc Tryz.prog W base spare held n 3 [c] = some y) : ∃ b : Int,c = .int .i64 b ∧ I64 b := by
 obtain ⟨b,e,hy,w⟩ := DataW.trod_int Tryz.underlying3 h;simp only [List.cons.injEq,and_true] at e;subst e;exact ⟨b,rfl,i64_ofS w⟩
theorem sfield_in : ∀ n cs' y,DataW.trod enc Tryz.prog W base spare held n 58 cs' = some y → Lite 58 y.1 → ∃ r : FlS,cs' = r.cells ∧ FlW r := by
 intro n cs y h hl;obtain ⟨y0,y1,y2,y3,m,hy,hc,h0,h1,h2,h3⟩ := _root_.Go.Joins.trod_struct4 Tryz.underlying58 h;rw [cellsFl] at hc
 match cs,hc with
 | [c0,c1,c2,c3,c4],_ =>
  rw [cellsIn] at h1 h2;rw [cellsSt] at h0;rw [cellsTy] at h3;simp only [List.drop_zero,List.drop_succ_cons,List.take_succ_cons,List.take_zero] at h0 h1 h2 h3;subst hy;obtain ⟨z0,z1,k,hz,hcz,g0,g1⟩ := trod_struct2 Tryz.underlying56 h3;rw [cellsIn] at g0;rw [cellsSt] at g1;simp only [List.drop_zero,List.drop_succ_cons,List.take_succ_cons,List.take_zero] at g0 g1;have l3 : Lite 56 y3.1 := lite_struct Tryz.underlying58 hl (j := 3) rfl rfl;subst hz;obtain ⟨b0,rfl,s0⟩ := str_in h0 (lite_struct Tryz.underlying58 hl (j := 0) rfl rfl);obtain ⟨b1,rfl,s1⟩ := int_in h1;obtain ⟨b2,rfl,s2⟩ := int_in h2;obtain ⟨b3,rfl,s3⟩ := int_in g0;obtain ⟨b4,rfl,s4⟩ := str_in g1 (lite_struct Tryz.underlying56 l3 (j := 1) rfl rfl);exact ⟨⟨b0,b1,b2,b3,b4⟩,rfl,s0,s4,s1,s2,s3⟩
theorem named_in : ∀ n cs' y,DataW.trod enc Tryz.prog W base spare held n 70 cs' = some y → Lite 70 y.1 → ∃ r : NmS,cs' = r.cells ∧ NmW r := by
 intro n cs y h hl;obtain ⟨y0,y1,m,hy,hc,h0,h1⟩ := trod_struct2 Tryz.underlying70 h;rw [cellsNm] at hc
 match cs,hc with
 | [c0,c1],_ =>
  rw [cellsIn] at h1;rw [cellsSt] at h0;simp only [List.drop_zero,List.drop_succ_cons,List.take_succ_cons,List.take_zero] at h0 h1;subst hy;obtain ⟨b0,rfl,s0⟩ := str_in h0 (lite_struct Tryz.underlying70 hl (j := 0) rfl rfl);obtain ⟨b1,rfl,s1⟩ := int_in h1;exact ⟨⟨b0,b1⟩,rfl,s0,s1⟩
theorem method_in : ∀ n cs' y,DataW.trod enc Tryz.prog W base spare held n 72 cs' = some y → Lite 72 y.1 → ∃ r : MtS,cs' = r.cells ∧ MtW r := by
 intro n cs y h hl;obtain ⟨y0,y1,y2,m,hy,hc,h0,h1,h2⟩ := Deep.trod_struct3 Tryz.underlying72 h;rw [cellsMt] at hc
 match cs,hc with
 | [c0,c1,c2],_ =>
  rw [cellsSt] at h0 h1 h2;simp only [List.drop_zero,List.drop_succ_cons,List.take_succ_cons,List.take_zero] at h0 h1 h2;subst hy;obtain ⟨b0,rfl,s0⟩ := str_in h0 (lite_struct Tryz.underlying72 hl (j := 0) rfl rfl);obtain ⟨b1,rfl,s1⟩ := str_in h1 (lite_struct Tryz.underlying72 hl (j := 1) rfl rfl);obtain ⟨b2,rfl,s2⟩ := str_in h2 (lite_struct Tryz.underlying72 hl (j := 2) rfl rfl);exact ⟨⟨b0,b1,b2⟩,rfl,s0,s1,s2⟩
theorem slice_form {t e : TypeId} {n : Nat} {c : Value} {y : DataW H × List MemPlace} (ht : Tryz.prog.underlying t = some (.slice e)) (h : DataW.trod enc Tryz.prog W base spare held n t [c] = some y) : ∃ a len cap,c = .slice a len cap := by
 rcases Deep.open_slice ht h with ⟨hcs, -⟩ | ⟨ad,len',cap',m,n,D,Pl,hcs, -⟩
 ·simp only [List.cons.injEq,and_true] at hcs; exact ⟨_,_,_,hcs⟩
 ·simp only [List.cons.injEq,and_true] at hcs; exact ⟨_,_,_,hcs⟩
theorem ints_in {n : Nat} {c : Value} {y : DataW H × List MemPlace} (h : DataW.trod enc Tryz.prog W base spare held n 46 [c] = some y) (hl : Lite 46 y.1) : ∃ ns : List Int,RowG W c 1 (inRows ns) ∧ ∀ x ∈ ns,I64 x := by
 obtain ⟨a,len,cap,rfl⟩ := slice_form Tryz.underlying46 h
 obtain ⟨rs,h1,h2,h3⟩ := row_in cellsIn (by decide) Tryz.underlying46 (fun x : Int => [.int .i64 x]) (fun _ => rfl) I64 0 h hl (fun n cs' y h _ => by
  obtain ⟨b,e,_,w⟩ := DataW.trod_int Tryz.underlying3 h
  exact ⟨b,e,i64_ofS w⟩)
 exact ⟨rs,h2,h3⟩
def msC (p : MsS × Value × Value) : List Value := [.string p.1.name,p.2.1,p.2.2]
def msP (W : World) (p : MsS × Value × Value) : Prop := RowG W p.2.1 5 (flRows p.1.fields) ∧ RowG W p.2.2 1 (inRows p.1.reserved) ∧ MsW p.1
theorem message_in : ∀ n cs' y,DataW.trod enc Tryz.prog W base spare held n 50 cs' = some y → Lite 50 y.1 → ∃ r : MsS × Value × Value,cs' = msC r ∧ msP W r := by
 intro n cs y h hl;obtain ⟨y0,y1,y2,m,hy,hc,h0,h1,h2⟩ := Deep.trod_struct3 Tryz.underlying50 h;rw [cellsMs] at hc
 match cs,hc with
 | [c0,c1,c2],_ =>
  rw [cellsSt] at h0;rw [cellsSl.1] at h1;rw [cellsSl.2.1] at h2;simp only [List.drop_zero,List.drop_succ_cons,List.take_succ_cons,List.take_zero] at h0 h1 h2;subst hy;obtain ⟨b0,rfl,s0⟩ := str_in h0 (lite_struct Tryz.underlying50 hl (j := 0) rfl rfl);obtain ⟨a,len,cap,rfl⟩ := slice_form Tryz.underlying48 h1;obtain ⟨fs, -,f2,f3⟩ := row_in cellsFl (by decide) Tryz.underlying48 FlS.cells (fun _ => rfl) FlW ⟨⟨#[]⟩,0,0,0,⟨#[]⟩⟩ h1 (lite_struct Tryz.underlying50 hl (j := 1) rfl rfl) sfield_in;obtain ⟨ns,n2,n3⟩ := ints_in h2 (lite_struct Tryz.underlying50 hl (j := 2) rfl rfl);exact ⟨(⟨b0,fs,ns⟩,_,_),rfl,f2,n2,s0,f3,n3⟩
def enC (p : EnS × Value) : List Value := [.string p.1.name,p.2]
def enP (W : World) (p : EnS × Value) : Prop := RowG W p.2 2 (nmRows p.1.values) ∧ EnW p.1
theorem enumer_in : ∀ n cs' y,DataW.trod enc Tryz.prog W base spare held n 68 cs' = some y → Lite 68 y.1 → ∃ r : EnS × Value,cs' = enC r ∧ enP W r := by
 intro n cs y h hl;obtain ⟨y0,y1,m,hy,hc,h0,h1⟩ := trod_struct2 Tryz.underlying68 h;rw [cellsEn] at hc
 match cs,hc with
 | [c0,c1],_ =>
  rw [cellsSt] at h0;rw [cellsSl.2.2.1] at h1;simp only [List.drop_zero,List.drop_succ_cons,List.take_succ_cons,List.take_zero] at h0 h1;subst hy;obtain ⟨b0,rfl,s0⟩ := str_in h0 (lite_struct Tryz.underlying68 hl (j := 0) rfl rfl);obtain ⟨a,len,cap,rfl⟩ := slice_form Tryz.underlying66 h1;obtain ⟨fs, -,f2,f3⟩ := row_in cellsNm (by decide) Tryz.underlying66 NmS.cells (fun _ => rfl) NmW ⟨⟨#[]⟩,0⟩ h1 (lite_struct Tryz.underlying68 hl (j := 1) rfl rfl) named_in;exact ⟨(⟨b0,fs⟩,_),rfl,f2,s0,f3⟩
theorem schema_in {r : Reach} {b0 : Nat} {v : Value} {d : DataW H} {p : List MemPlace} (hv : Value.okWide Tryz.prog W r b0 26 v) (h : DataW.Trod enc Tryz.prog W base spare held 26 v d p) (hl : Lite 26 d) : ∃ s : ScS,ScIn W v s ∧ ScW s := by
 obtain ⟨cs,rfl,hsz⟩ := okWide_struct Tryz.underlying26 hv;obtain ⟨fuel,hf⟩ := h;obtain ⟨y0,y1,y2,y3,m,hy,hc,h0,h1,h2,h3⟩ := _root_.Go.Joins.trod_struct4 Tryz.underlying26 hf;rw [cellsSc] at hc;obtain ⟨l⟩ := cs;simp only [Value.cells] at h0 h1 h2 h3 hc
 match l,hc with
 | [c0,c1,c2,c3],_ =>
  rw [cellsSt] at h0;rw [cellsSl.2.2.2.1] at h1;rw [cellsSl.2.2.2.2.1] at h2;rw [cellsSl.2.2.2.2.2] at h3;simp only [List.drop_zero,List.drop_succ_cons,List.take_succ_cons,List.take_zero] at h0 h1 h2 h3;have hd : d = .agg [y0.1,y1.1,y2.1,y3.1] := congrArg Prod.fst hy;subst hd;obtain ⟨b0,rfl,s0⟩ := str_in h0 (lite_struct Tryz.underlying26 hl (j := 0) rfl rfl);obtain ⟨a1,len1,cap1,rfl⟩ := slice_form Tryz.underlying22 h1;obtain ⟨a2,len2,cap2,rfl⟩ := slice_form Tryz.underlying23 h2;obtain ⟨a3,len3,cap3,rfl⟩ := slice_form Tryz.underlying24 h3;obtain ⟨ms,m1,m2,m3⟩ := row_in cellsMs (by decide) Tryz.underlying22 msC (fun _ => rfl) (msP W) (⟨⟨#[]⟩,[],[]⟩,.bool false,.bool false) h1 (lite_struct Tryz.underlying26 hl (j := 1) rfl rfl) message_in;obtain ⟨es,e1,e2,e3⟩ := row_in cellsEn (by decide) Tryz.underlying23 enC (fun _ => rfl) (enP W) (⟨⟨#[]⟩,[]⟩,.bool false) h2 (lite_struct Tryz.underlying26 hl (j := 2) rfl rfl) enumer_in;obtain ⟨ts,t1,t2,t3⟩ := row_in cellsMt (by decide) Tryz.underlying24 MtS.cells (fun _ => rfl) MtW ⟨⟨#[]⟩,⟨#[]⟩,⟨#[]⟩⟩ h3 (lite_struct Tryz.underlying26 hl (j := 3) rfl rfl) method_in;refine ⟨⟨b0,ms.map (·.1),es.map (·.1),ts⟩,⟨_,_,_,rfl,⟨ms.map msC,m2,by simp,fun i m hm => ?_⟩,⟨es.map enC,e2,by simp,fun i m hm => ?_⟩,t2⟩,s0,fun m hm => ?_,fun m hm => ?_,t3⟩
  ·simp only [List.getElem?_map,Option.map_eq_some_iff] at hm;obtain ⟨q,hq,rfl⟩ := hm;obtain ⟨g1,g2,_⟩ := m3 q (List.mem_of_getElem? hq);exact ⟨q.2.1,q.2.2,by simp [hq,msC],g1,g2⟩
  ·simp only [List.getElem?_map,Option.map_eq_some_iff] at hm;obtain ⟨q,hq,rfl⟩ := hm;obtain ⟨g1,_⟩ := e3 q (List.mem_of_getElem? hq);exact ⟨q.2,by simp [hq,enC],g1⟩
  ·obtain ⟨q,hq,rfl⟩ := List.mem_map.1 hm;exact (m3 q hq).2.2
  ·obtain ⟨q,hq,rfl⟩ := List.mem_map.1 hm;exact (e3 q hq).2
end
end
section
section
variable {P : Program} {md : Region.Mode} {ops : Array Oper} {Q : Exit → Act → World → Prop} {T : World → Prop} {m : Nat}
theorem M_cabl {o1 o2 ok ol : Oper} {fuel : Nat} {listed : Array Bool} {a : Act} {w : World} (i j k l d1 d2 dk dl f : Nat) (vals : Array Value) (u p q : Value) (z : World → Value) (N : World → World)
  (h1 : ops[i]? = some o1) (h2 : ops[j]? = some o2) (hk : ops[k]? = some ok) (hl : ops[l]? = some ol) (hd1 : o1.dst = some d1) (hd2 : o2.dst = some d2) (hdk : ok.dst = some dk) (hdl : ol.dst = some dl) (hij : i ≠ j) (hjk : j ≠ k) (hjl : j ≠ l) (d12 : d1 ≠ d2) (d2k : d2 ≠ dk) (d2l : d2 ≠ dl)
  (hr : Region.ready md ops listed = [i,j]) (hri : (Region.ready md ops (listed.setIfInBounds i true)).contains k = true) (hrik : (Region.ready md ops ((listed.setIfInBounds i true).setIfInBounds k true)).contains l = true) (hrikl : Region.ready md ops (((listed.setIfInBounds i true).setIfInBounds k true).setIfInBounds l true) = [j])
  (hrj : Region.ready md ops (listed.setIfInBounds j true) = [i]) (hrji : Region.ready md ops ((listed.setIfInBounds j true).setIfInBounds i true) = [k]) (hrjik : Region.ready md ops (((listed.setIfInBounds j true).setIfInBounds i true).setIfInBounds k true) = [l])
  (hw1 : ∀ t,Region.wanted o1 t = true) (hw2 : ∀ t,Region.wanted o2 t = true) (hwk : ∀ t,Region.wanted ok t = true) (hwl : ∀ t,Region.wanted ol t = true)
  (hs : Region.noSelect ops = true) (hfk : Region.free md ops (listed.setIfInBounds i true) k = true) (hmk : ((ops[m]?).any fun om => om.after.any fun e => Region.binds md e && e.on == k) = true) (hlm : (listed.setIfInBounds i true).getD m true = false)
  (hfl : Region.free md ops ((listed.setIfInBounds i true).setIfInBounds k true) l = true) (hml : ((ops[m]?).any fun om => om.after.any fun e => Region.binds md e && e.on == l) = true) (hlm2 : ((listed.setIfInBounds i true).setIfInBounds k true).getD m true = false)
  (hQ : ∀ v c a w,Q (.panic c) (a.put ok.dst v) w → Q (.panic c) a w) (hQ2 : ∀ v c a w,Q (.panic c) (a.put ol.dst v) w → Q (.panic c) a w)
  (hx1 : ∀ w',(execOp a.eval o1).run P w' = .ok (.enter f vals) w') (hx1' : ∀ v w',(execOp (a.put (some d2) v).eval o1).run P w' = .ok (.enter f vals) w')
  (hx2 : ∀ (a' : Act) w',(execOp a'.eval o2).run P w' = .ok (.value (z w')) (N w'))
  (hC : ∀ W,Calls P f vals W fun e w1 => e = .returned u ∧ w1 = W)
  (hxk : ∀ w',(execOp (a.put (some d1) u).eval ok).run P w' = .ok (.value p) w') (hxk' : ∀ v w',(execOp ((a.put (some d2) v).put (some d1) u).eval ok).run P w' = .ok (.value p) w')
  (hxl : ∀ w',T w' → (execOp ((a.put (some d1) u).put (some dk) p).eval ol).run P w' = .ok (.value q) w') (hxl' : ∀ v w',T w' → (execOp (((a.put (some d2) v).put (some d1) u).put (some dk) p).eval ol).run P w' = .ok (.value q) w')
  (hT : T w) (hTN : T (N w))
  (h : wpAnyM P md ops Q T m fuel ((((listed.setIfInBounds i true).setIfInBounds k true).setIfInBounds l true).setIfInBounds j true) { a with tmps := (((a.tmps.setIfInBounds d1 u).setIfInBounds dk p).setIfInBounds dl q).setIfInBounds d2 (z w) } (N w)) : wpAnyM P md ops Q T m (fuel + 4) listed a w := by
 refine ⟨fun h0 => (by rw [hr] at h0; cases h0),fun x hx => ?_⟩;rw [hr] at hx;simp only [List.mem_cons,List.not_mem_nil,or_false] at hx
 rcases hx with rfl | rfl
 ·unfold wpOp;simp only [h1];rw [if_pos (hw1 _)];refine .inl ?_;unfold Oper.wp;rw [hx1];refine Calls.mono (hC w) ?_;rintro e w1 ⟨rfl,hW⟩;subst hW;rw [hd1];refine ⟨fun _ => hT,?_⟩;refine M_take k dk p _ hk hdk hs hfk hri hmk hlm (fun c a w => hQ _ c a w) (hwk _) (fun w' _ => hxk w') hT rfl rfl ?_;refine M_take l dl q _ hl hdl hs hfl hrik hml hlm2 (fun c a w => hQ2 _ c a w) (hwl _) (fun w' ht => hxl w' ht) hT rfl rfl ?_;exact M_run j d2 (z w1) (N w1) h2 hd2 hrikl (hw2 _) rfl (hx2 _ w1) hTN h
 ·unfold wpOp;simp only [h2];rw [if_pos (hw2 _)];refine .inl ?_;unfold Oper.wp;rw [hx2,Oper.upon_value,hd2];refine ⟨fun _ => hTN,?_⟩;refine ⟨fun h0 => (by rw [hrj] at h0; cases h0),fun y hy => ?_⟩;rw [hrj,List.mem_singleton] at hy;subst hy;unfold wpOp;simp only [h1];rw [if_pos (hw1 _)];refine .inl ?_;unfold Oper.wp;rw [hx1'];refine Calls.mono (hC (N w)) ?_;rintro e w1 ⟨rfl,hW⟩;subst hW;rw [hd1];refine ⟨fun _ => hTN,?_⟩;refine M_run k dk p _ hk hdk hrji (hwk _) rfl (hxk' (z w) _) hTN ?_;refine M_run l dl q _ hl hdl hrjik (hwl _) rfl (hxl' (z w) _ hTN) hTN ?_;have hh := h;rw [Array.setIfInBounds_comm (xs := (listed.setIfInBounds y true).setIfInBounds k true) _ _ (Ne.symm hjl),Array.setIfInBounds_comm (xs := listed.setIfInBounds y true) _ _ (Ne.symm hjk),Array.setIfInBounds_comm (xs := listed) _ _ hij] at hh;rw [set_comm2 ((a.tmps.setIfInBounds d1 u).setIfInBounds dk p) (Ne.symm d2l),set_comm2 (a.tmps.setIfInBounds d1 u) (Ne.symm d2k),set_comm2 a.tmps d12] at hh;exact hh
end
section
variable {P : Program} {md : Region.Mode} {ops : Array Oper} {Q : Exit → Act → World → Prop} {T : World → Prop} {m : Nat}
theorem M_fork {o1 o2 : Oper} {fuel : Nat} {listed : Array Bool} {a : Act} {w : World} (i j d1 d2 f : Nat) (vals : Array Value) (v2 : Value) (w2 : World) (h1 : ops[i]? = some o1) (h2 : ops[j]? = some o2) (hd1 : o1.dst = some d1) (hd2 : o2.dst = some d2)
  (hr : Region.ready md ops listed = [i,j]) (hw1 : Region.wanted o1 (yielded ops a.tmps) = true) (hw2 : Region.wanted o2 (yielded ops a.tmps) = true)
  (hx1 : (execOp a.eval o1).run P w = .ok (.enter f vals) w) (hx2 : (execOp a.eval o2).run P w = .ok (.value v2) w2)
  (hA : Calls P f vals w fun e w' => ∃ v,e = .returned v ∧ T w' ∧ wpAnyM P md ops Q T m fuel (listed.setIfInBounds i true) { a with tmps := a.tmps.setIfInBounds d1 v } w')
  (hT : T w2) (hB : wpAnyM P md ops Q T m fuel (listed.setIfInBounds j true) { a with tmps := a.tmps.setIfInBounds d2 v2 } w2) : wpAnyM P md ops Q T m (fuel + 1) listed a w := by
 refine ⟨fun h0 => (by rw [hr] at h0; cases h0),fun k hk => ?_⟩;rw [hr] at hk;simp only [List.mem_cons,List.not_mem_nil,or_false] at hk
 rcases hk with rfl | rfl
 ·unfold wpOp;simp only [h1];rw [if_pos hw1];refine .inl ?_;unfold Oper.wp;rw [hx1];refine Calls.mono hA ?_;rintro e w' ⟨v,rfl,hT',h'⟩;rw [hd1];exact ⟨fun _ => hT',h'⟩
 ·unfold wpOp;simp only [h2];rw [if_pos hw2];refine .inl ?_;unfold Oper.wp;rw [hx2,Oper.upon_value,hd2];exact ⟨fun _ => hT,hB⟩
end
section
variable {P : Program} {md : Region.Mode} {ops : Array Oper} {Q : Exit → Act → World → Prop} {T : World → Prop} {m : Nat}
theorem M_forkAA {o1 o2 : Oper} {fuel : Nat} {listed : Array Bool} {a : Act} {w : World} (i j d1 d2 : Nat) (v1 v2 : Value) (w1 w2 : World) (h1 : ops[i]? = some o1) (h2 : ops[j]? = some o2) (hd1 : o1.dst = some d1) (hd2 : o2.dst = some d2)
  (hr : Region.ready md ops listed = [i,j]) (hw1 : Region.wanted o1 (yielded ops a.tmps) = true) (hw2 : Region.wanted o2 (yielded ops a.tmps) = true)
  (hx1 : (execOp a.eval o1).run P w = .ok (.value v1) w1) (hx2 : (execOp a.eval o2).run P w = .ok (.value v2) w2)
  (hT1 : T w1) (hA : wpAnyM P md ops Q T m fuel (listed.setIfInBounds i true) { a with tmps := a.tmps.setIfInBounds d1 v1 } w1)
  (hT2 : T w2) (hB : wpAnyM P md ops Q T m fuel (listed.setIfInBounds j true) { a with tmps := a.tmps.setIfInBounds d2 v2 } w2) : wpAnyM P md ops Q T m (fuel + 1) listed a w := by
 refine ⟨fun h0 => (by rw [hr] at h0; cases h0),fun k hk => ?_⟩;rw [hr] at hk;simp only [List.mem_cons,List.not_mem_nil,or_false] at hk
 rcases hk with rfl | rfl
 ·unfold wpOp;simp only [h1];rw [if_pos hw1];refine .inl ?_;unfold Oper.wp;rw [hx1,Oper.upon_value,hd1];exact ⟨fun _ => hT1,hA⟩
 ·unfold wpOp;simp only [h2];rw [if_pos hw2];refine .inl ?_;unfold Oper.wp;rw [hx2,Oper.upon_value,hd2];exact ⟨fun _ => hT2,hB⟩
end
end
section
open Go.ChangeShapes Go.WideShapes Go.ChangeAt Go.RowKit
theorem flds_n64 {n : Nat} {t : Tr} (h64 : N64 (n + 1) t) (hd : DpN (n + 1) t) : ∀ r ∈ fldsE (n + 1) t,Is64 r.n := fun r hr => by
 rcases List.mem_append.1 hr with hr | hr
 ·obtain ⟨p,hp,rfl⟩ := List.mem_map.1 hr;obtain ⟨e,he',x,hx,rfl⟩ := mem_fsE hp;refine flE_64 ?_;have := h64.2.2 e he' x hx
  cases n with
  | zero => exact (hd e he' x hx).elim
  | succ n => exact this.1
 ·exact h64.2.1 r hr
theorem flds_known {s : ScS} {nm : ByteArray} {m : MsS} {t : Tr} (hs : OkS s) (hm : msgOf s nm = some m) (h : FitT 6 s nm t) (he : errE (fsE (bytE 5) t.es) = 0) : ∀ r ∈ fldsE 6 t,(fldOf m.fields r.tag).isSome := fun r hr => by
 have hd := h.dfit hs (by rw [hm]; rfl);obtain ⟨m',hm',_,_,hes,_,_⟩ := hd;rw [hm] at hm'
 cases hm'
 have e1 : t.rest = [] := congrArg Tr.rest h.form
 rcases List.mem_append.1 hr with hr | hr
 ·obtain ⟨p,hp,rfl⟩ := List.mem_map.1 hr;have h0 := errE_all he p hp;obtain ⟨e,he',x,hx,rfl⟩ := mem_fsE hp;rw [flE_tagD h0];obtain ⟨f,hf,_⟩ := hes e he';rw [hf]; rfl
 ·rw [e1] at hr; cases hr
theorem last_facts {s : ScS} {nm : ByteArray} {m : MsS} {t1 t2 : Tr} (hs : OkS s) (hm : msgOf s nm = some m) (hl : ∀ f ∈ m.fields,f.label ≠ 3) (h1 : FitT 6 s nm t1) (h2 : FitT 6 s nm t2) (n1 : N64 6 t1) (n2 : N64 6 t2)
  (e1 : (encA 6 t1).2 = 0) (e2 : (encA 6 t2).2 = 0) (hw : (encA 6 t1).1.length + 2 * (encA 6 t2).1.length ≤ 4096) :
  ∃ T,decA s nm ((encA 6 t2).1 ++ (encA 6 t1).1 ++ (encA 6 t2).1) = (T,0) ∧ decA s nm ((encA 6 t1).1 ++ (encA 6 t2).1) = (T,0) := by
 have hms : (msgOf s nm).isSome = true := by rw [hm]; rfl
 have hck : checkA s = 0 := (checkA_ok s).2 hs
 have one : ∀ t : Tr,FitT 6 s nm t → N64 6 t → (encA 6 t).2 = 0 → FitR (decM 9 s) m.fields (sortF (fldsE 6 t)) ∧ (∀ r ∈ sortF (fldsE 6 t),(fldOf m.fields r.tag).isSome) ∧ (sortF (fldsE 6 t)).all okF = true ∧ (∀ r ∈ sortF (fldsE 6 t),Is64 r.n) ∧ (encA 6 t).1 = flatN (sortF (fldsE 6 t)) := fun t h n e => by
  obtain ⟨r0,ho,hq,_⟩ := enc_inv e;obtain ⟨_,_,_,he⟩ := raws_inv r0;refine ⟨?_,fun r hr => flds_known hs hm h he r ((sortF_perm _).mem_iff.1 hr),ho,fun r hr => flds_n64 (n := 5) n h.sm.dpD r ((sortF_perm _).mem_iff.1 hr),hq⟩
  exact fit_fields (k := 9) (n := 5) ((h.dfit hs hms).mono (by decide)) hm n h.sm.dpD he fun tag => by rw [ofT_sort]; rfl
 obtain ⟨a1,a2,a3,a4,a5⟩ := one t1 h1 n1 e1;obtain ⟨b1,b2,b3,b4,b5⟩ := one t2 h2 n2 e2;rw [a5,b5] at hw ⊢;obtain ⟨T,g1,g2⟩ := last_same (k := 9) hm hl a1 b1 a2 b2 a3 b3 a4 b4 hw;refine ⟨T,?_,?_⟩
 ·unfold decA;rw [hck,if_neg (by simp)];exact g1
 ·unfold decA;rw [hck,if_neg (by simp)];exact g2
theorem pushBytes {w : World} {B B2 : Nat} {v y : Value} {xs ms : List Nat} (h : w.ownsRow B 5 1 v xs.length (byteCells xs)) (hy : w.ownsRow B2 5 1 y ms.length (byteCells ms)) (hB : B ≤ w.heap.size) (hl : xs.length + ms.length ≤ 100000) :
  ∃ v' W',(Builtin.append_ #[27,27] 27 #[v,y]).run Tryz.prog w = .ok v' W' ∧ W'.ownsRow B 5 1 v' (xs ++ ms).length (byteCells (xs ++ ms)) ∧ Kp (fun q => q ∈ blkOf v) w W' := by
 obtain ⟨i0,hi,hz0,hz1,hz2⟩ := info_parts infoByte;obtain ⟨a,cap,rfl, -,hb, -, -,hh⟩ := own_open hy
 rcases hb with ⟨rfl,rfl,rfl⟩ | ⟨g,rfl, -, -⟩
 ·refine ⟨v,w,run_append_owned_none (P := Tryz.prog) (w := w) B 27 _ 5 i0 1 Tryz.underlying27 hi v _ _ h,?_,Kp.refl _ _⟩;rw [List.append_nil]; exact h
 ·obtain ⟨v',W',r1,r2,r3,_,_⟩ := run_append_own_at w B 27 27 5 i0 (.int .u8 0) 1 1 Tryz.underlying27 hi hz0 hz1 hz2 rfl (by decide) v xs.length _ h ⟨g,0,none⟩ ms.length cap (byteCells ms) (by rw [byteCells_len,Nat.mul_one]) (fun j u hu => hh _ rfl j u hu) (byteCells_one ms) (by unfold maxLen; omega) (by omega) hB;refine ⟨v',W',r1,?_,(Kp.refl _ _).grown r3 (fun k hk _ => mem_blkOf.2 hk)⟩;rw [byteCells_app,List.length_append];exact r2
theorem own_neB {w : World} {B n b : Nat} {v : Value} {xs : List Value} {cs : Array Value} (h : w.ownsRow B 5 1 v n xs) (hb : Blk w b cs 33) : b ∉ blkOf v := fun hc => by
 rcases h.2 with ⟨rfl,_⟩ | ⟨g,cap,cur,rfl,_,hg,_⟩
 ·simp [blkOf,Value.ownBlock] at hc
 ·simp only [blkOf,Value.ownBlock,List.mem_singleton] at hc;subst hc;have h1 : w.heap[b]? = some (.cells cs 33) := hb;rw [h1] at hg
  simp at hg
theorem dcd_store {w w0 : World} {b B : Nat} {r : List Value} {T : Tr} {bs : List Nat} {cs : Array Value} {x0 x1 x2 x3 x4 : Value} (hB : Blk w b cs 33) (hc : cs.size = 5) (hr : r = [x0,x1,x2,x3,x4]) (ht : TrO 11 B w r T bs) (hap : Apt B w bs) (hn : b ∉ bs) (h0 : Below w0.heap.size w0 w) (hb0 : w0.heap.size ≤ b) :
  Blk (set5 w b 0 x0 x1 x2 x3 x4) b #[x0,x1,x2,x3,x4] 33 ∧ TrIn 11 (set5 w b 0 x0 x1 x2 x3 x4) (.agg #[x0,x1,x2,x3,x4]) T ∧ Below w0.heap.size w0 (set5 w b 0 x0 x1 x2 x3 x4) := by
 have hk := set5_kp w b 0 x0 x1 x2 x3 x4;refine ⟨?_,?_,h0.trans (hk.toBelow h0.size fun q e => by rw [e]; exact hb0)⟩
 ·obtain ⟨c0,c1,c2,c3,c4,rfl⟩ : ∃ c0 c1 c2 c3 c4,cs = #[c0,c1,c2,c3,c4] := by
   obtain ⟨l⟩ := cs
   match l,hc with
   | [c0,c1,c2,c3,c4],_ => exact ⟨c0,c1,c2,c3,c4,rfl⟩
  have h1 := hB.set 0 x0 rfl;have h2 := h1.set 1 x1 rfl;have h3 := h2.set 2 x2 rfl;have h4 := h3.set 3 x3 rfl;have h5 := h4.set 4 x4 rfl;exact h5
 ·subst hr;exact (ht.sm (hk.sm fun k hk' => ⟨(hap.2 k hk').2,fun e => hn (e ▸ hk')⟩)).trIn
theorem bytes_any (a : Option Addr) (ns : List Nat) (cap N : Nat) (w : World) (hN : ns.length = N) (hl : N ≤ 140737488355328) (ha : a = none → ns = [] ∧ cap = 0) (hh : Holds w a ns) :
  Calls Tryz.prog 13 #[.slice a N cap] w fun e w' => ∃ r,e = .returned r ∧ w'.ownsRow w.heap.size 5 1 r N (byteCells ns) ∧ Below w.heap.size w w' := by
 have HH : Hid (Holds w a ns) := hh;have HA : Hid (a = none → ns = [] ∧ cap = 0) := ha;have HN : Hid (ns.length = N) := hN;clear hh ha hN
 go_enter Tryz.func13,Tryz.ntmps13
 go_wp2_with (first
  | (at_builtin; refine wpList_join rfl _ _ rfl w.heap.size (.slice none 0 0) 0 [] rfl (World.ownsRow_nil _ _ _ _) a ns _ _ rfl HN.out.symm HA.out HH.out ?c1 ?c2 ?_)
  | fail)
 case c1 => have := HN.out; simp; omega
 case c2 => exact Nat.le_refl _
 intro r w1 ho hg;have hb : Below w.heap.size w w1 := (Below.refl _ _).grown hg (Nat.le_refl _) (fun k hk => by cases hk)
 have HO : Hid (w1.ownsRow w.heap.size 5 1 r N (byteCells ns)) := by
  show World.ownsRow _ _ _ _ _ _ _
  try rw [List.nil_append] at ho
  rw [HN.out] at ho;exact ho
 clear hg ho;go_wp2_with fail;go_ret;exact ⟨_,rfl,HO.out,hb⟩
end
end Go.Proofs.YtiajaocckkghgaaGreat
