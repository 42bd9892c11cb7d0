/- Part 21 of what the proof stands on. -/
import Derived.Test.YtfnjbbaphmmjlaaGreatPkAT
namespace Go.Proofs.YtfnjbbaphmmjlaaGreat
set_option linter.unusedVariables false
set_option linter.unusedSimpArgs false
section
open Go.ChangeShapes Go.WideShapes Go.ChangeAt Go.RowKit Go.Maps
set_option maxRecDepth 20000
theorem FewS.sm {s : ScS} (h : FewS s) : ∀ m ∈ s.msgs,m.name.size ≤ 20000 ∧ ∀ f ∈ m.fields,f.name.size ≤ 20000 := fun m hm => by
 have h1 := h.eachM m hm
 refine ⟨by have := h1.1; omega,fun f hf => ?_⟩
 have h2 := (h1.2.2.2 f hf)
 unfold flFew at h2
 omega
theorem FewS.sn {s : ScS} (h : FewS s) : ∀ m ∈ s.enums,m.name.size ≤ 20000 ∧ ∀ f ∈ m.values,f.name.size ≤ 20000 := fun m hm => by
 have h1 := h.eachE m hm
 refine ⟨by have := h1.1; omega,fun f hf => ?_⟩
 have h2 := (h1.2.2 f hf)
 unfold nmFew at h2
 omega
structure MayS (s : ScS) : Prop where
 may : MayL s
 name : s.name.size ≤ 20000
 sm : ∀ m ∈ s.msgs,m.name.size ≤ 20000 ∧ ∀ f ∈ m.fields,f.name.size ≤ 20000
 sn : ∀ m ∈ s.enums,m.name.size ≤ 20000 ∧ ∀ f ∈ m.values,f.name.size ≤ 20000
 st : ∀ m ∈ s.methods,m.name.size ≤ 20000
theorem FewS.mayS {s : ScS} (h : FewS s) : MayS s := ⟨h.few.may,Nat.le_trans h.name (by decide),h.sm,h.sn,fun m hm => Nat.le_trans (h.eachT m hm).1 (by decide)⟩
set_option maxHeartbeats 8000000 in
theorem rcheck_may {w : World} {v : Value} {s : ScS} (hr : ScIn w v s) (hfs : MayS s) :
  Calls Tryz.prog 21 #[v] w fun e w' => e = .returned (.int .i64 (checkA s)) ∧ Below w.heap.size w w' := by
 obtain ⟨vm0,ve0,vt0,rfl,hm,he,ht⟩ := hr
 obtain ⟨am,cm,rfl,qm1,qm2⟩ := hm.form2
 obtain ⟨ae,ce,rfl,qe1,qe2⟩ := he.form2
 obtain ⟨at',ct,rfl,qt1,qt2⟩ := ht.form2
 have hTl : (mtRows s.methods).length = s.methods.length := by simp [mtRows]
 rw [hTl] at ht qt1 ⊢
 obtain ⟨M,hM⟩ : ∃ N,s.msgs.length = N := ⟨_,rfl⟩
 obtain ⟨E,hE⟩ : ∃ N,s.enums.length = N := ⟨_,rfl⟩
 obtain ⟨T,hT⟩ : ∃ N,s.methods.length = N := ⟨_,rfl⟩
 obtain ⟨nm,hnm⟩ : ∃ N,s.name = N := ⟨_,rfl⟩
 rw [hM] at hm qm1 ⊢
 rw [hE] at he qe1 ⊢
 rw [hT] at ht qt1 ⊢
 rw [hnm]
 have HM : Hid (MsIn w (.slice am M cm) s.msgs) := hm
 have HE : Hid (EnIn w (.slice ae E ce) s.enums) := he
 have HTR : Hid (RowG w (.slice at' T ct) 3 (mtRows s.methods)) := ht
 have HLM : Hid (s.msgs.length = M) := hM
 have HLE : Hid (s.enums.length = E) := hE
 have HLT : Hid (s.methods.length = T) := hT
 have HNM : Hid (s.name = nm) := hnm
 have HF : Hid (MayS s) := hfs
 have hM14 : M ≤ 30000 := by have := hfs.may.msgs; omega
 have hE10 : E ≤ 30000 := by have := hfs.may.enums; omega
 have hT10 : T ≤ 30000 := by have := hfs.may.meths; omega
 have hns : nm.size ≤ 20000 := by have := hfs.name; rw [hnm] at this; omega
 clear hm he ht hM hE hT hnm hfs hTl
 obtain ⟨A,hA⟩ : ∃ A,checkA s = A := ⟨_,rfl⟩
 rw [hA]
 have HA : Hid (A = checkA s) := hA.symm
 clear hA
 have hba : Below w.heap.size w (w.alloc (.cells #[.string nm,.slice am M cm,.slice ae E ce,.slice at' T ct] 26)) := (Below.refl _ _).alloc (Nat.le_refl _) _
 have BX0 := Blk.new w #[.string nm,.slice am M cm,.slice ae E ce,.slice at' T ct] 26
 go_enter Tryz.func21,Tryz.ntmps21
 go_wp2_with fail
 refine (rfname_any nm _ hns).mono ?_
 rintro e w1 ⟨rfl,hb1⟩
 have hbw1 : Below w.heap.size w w1 := hba.trans (hb1.mono hba.size)
 have BX1 := BX0.below hb1
 clear hb1 hba BX0
 cases hn : nameB nm with
 | false =>
  have HA2 : Hid (A = 6) := by show _ = _; rw [HA.out]; unfold checkA wholeA; rw [HNM.out,if_pos hn]; rfl
  clear HA hn
  go_wp2_with fail
  go_ret
  exact ⟨ret_e HA2.out.symm,hbw1⟩
 | true =>
  have c0 : w1.cell? ⟨w.heap.size,0,none⟩ = some (.string nm) := BX1.cell 0
  have c1 : w1.cell? ⟨w.heap.size,1,none⟩ = some (.slice am M cm) := BX1.cell 1
  have c2 : w1.cell? ⟨w.heap.size,2,none⟩ = some (.slice ae E ce) := BX1.cell 2
  have c3 : w1.cell? ⟨w.heap.size,3,none⟩ = some (.slice at' T ct) := BX1.cell 3
  by_cases hM0 : M = 0
  ·have HA2 : Hid (A = 12) := by show _ = _; rw [HA.out]; unfold checkA wholeA; rw [HNM.out,if_neg (by rw [hn]; decide),if_pos (by rw [HLM.out]; exact hM0)]; rfl
   clear HA hn
   subst hM0
   go_wp2_with fail
   go_ret
   exact ⟨ret_e HA2.out.symm,hbw1⟩
  by_cases hbig : 10 < M
  ·have HA2 : Hid (A = 4) := by show _ = _; rw [HA.out]; unfold checkA wholeA; rw [HNM.out,if_neg (by rw [hn]; decide),if_neg (by rw [HLM.out]; exact hM0),if_pos (by unfold bigS; rw [HLM.out,decide_eq_true (.inl hbig)])]; rfl
   clear HA hn
   go_wp2_with fail
   go_ret
   exact ⟨ret_e HA2.out.symm,hbw1⟩
  by_cases hbig2 : 6 < E
  ·have HA2 : Hid (A = 4) := by show _ = _; rw [HA.out]; unfold checkA wholeA; rw [HNM.out,if_neg (by rw [hn]; decide),if_neg (by rw [HLM.out]; exact hM0),if_pos (by unfold bigS; rw [HLE.out,decide_eq_true (.inr (.inl hbig2))])]; rfl
   clear HA hn
   go_wp2_with fail
   go_ret
   exact ⟨ret_e HA2.out.symm,hbw1⟩
  by_cases hbig3 : 6 < T
  ·have HA2 : Hid (A = 4) := by show _ = _; rw [HA.out]; unfold checkA wholeA; rw [HNM.out,if_neg (by rw [hn]; decide),if_neg (by rw [HLM.out]; exact hM0),if_pos (by unfold bigS; rw [HLT.out,decide_eq_true (.inr (.inr hbig3))])]; rfl
   clear HA hn
   go_wp2_with fail
   go_ret
   exact ⟨ret_e HA2.out.symm,hbw1⟩
  obtain ⟨X,hX⟩ : ∃ X,partsA s = X := ⟨_,rfl⟩
  have HA2 : Hid (A = orE X (chkTs s.mn ((s.methods.take 0).map MtS.name) (s.methods.drop 0))) := by
   show _ = _
   rw [HA.out]; unfold checkA wholeA
   rw [HNM.out,if_neg (by rw [hn]; decide),if_neg (by rw [HLM.out]; exact hM0),if_neg (by unfold bigS; rw [HLM.out,HLE.out,HLT.out,decide_eq_false (by omega)]; decide),orE_zero,hX]
   rfl
  have HP : Hid (∀ W,Below w.heap.size w W → Calls Tryz.prog 42 #[.agg #[.string nm,.slice am M cm,.slice ae E ce,.slice at' T ct]] W fun e W' => e = .returned (.int .i64 X) ∧ Below W.heap.size W W') := fun W hW => by
   rw [← hX]
   exact rparts_any (HM.out.below hW) (HE.out.below hW) HLM.out HLE.out hM14 hE10 HF.out.may.flds HF.out.may.vals HF.out.sm HF.out.sn
  clear HA hX hn
  go_wp2_with fail
  clear c0 c1 c2 c3
  refine (HP.out w1 hbw1).mono ?_
  rintro e w2 ⟨rfl,hb2⟩
  have hbw2 : Below w.heap.size w w2 := hbw1.trans (hb2.mono hbw1.size)
  have BX2 := BX1.below hb2
  clear hb2 hbw1 BX1 HP
  by_cases hX0 : X = 0
  case neg =>
   have HA3 : Hid (A = X) := by show _ = _; rw [HA2.out,orE_ne hX0]
   have hq : (X == 0) = false := by rw [beq_eq_false_iff_ne]; exact hX0
   clear HA2 hX0
   go_wp2_with fail
   go_ret
   exact ⟨ret_e HA3.out.symm,hbw2⟩
  subst hX0
  have HA3 : Hid (A = chkTs s.mn ((s.methods.take 0).map MtS.name) (s.methods.drop 0)) := by show _ = _; rw [HA2.out,orE_zero]
  have HS0 : Hid (Seen w2 w.heap.size (.slice none 0 0) ((s.methods.take 0).map MtS.name)) := Seen.nil _ _
  clear HA2
  go_wp2_with fail
  go_loopw [4,5] (fun nv iv wr => ∃ (k : Nat) (sa : Option Addr) (sc : Nat),nv = .slice sa k sc ∧ iv = .int .i64 (k : Int) ∧ k ≤ T ∧ Hid (A = chkTs s.mn ((s.methods.take k).map MtS.name) (s.methods.drop k)) ∧ Hid (Seen wr w.heap.size (.slice sa k sc) ((s.methods.take k).map MtS.name)) ∧ Below w.heap.size w wr ∧ Blk wr w.heap.size #[.string nm,.slice am M cm,.slice ae E ce,.slice at' T ct] 26) (fun _ iv _ => T - (intOf iv).toNat)
  case atStart => exact ⟨0,none,0,rfl,rfl,by omega,HA3,HS0,hbw2,BX2⟩
  case round =>
   clear HA3 HS0 hbw2 BX2
   obtain ⟨k,sa,sc,rfl,rfl,hk,HAk,HSE,hbel,BX⟩ := hrel
   have x3 : wr.cell? ⟨w.heap.size,3,none⟩ = some (.slice at' T ct) := BX.cell 3
   by_cases hlt : k < T
   ·obtain ⟨m,hm⟩ : ∃ x,s.methods[k]? = some x := ⟨_,List.getElem?_eq_getElem (by rw [HLT.out]; exact hlt)⟩
    have hsz := HF.out.st m (List.mem_of_getElem? hm)
    obtain ⟨m0,m1,m2⟩ := m
    simp only at hsz
    have hfr : (mtRows s.methods)[k]? = some [.string m0,.string m1,.string m2] := by simp [mtRows,MtS.cells,hm]
    obtain ⟨g,off,rfl,hcs⟩ := HTR.out.get hfr
    have C0 := hcs 0 _ rfl
    have C1 := hcs 1 _ rfl
    have C2 := hcs 2 _ rfl
    simp only [Nat.add_zero] at C0 C1 C2
    have HTK : Hid ((s.methods.take (k + 1)).map MtS.name = (s.methods.take k).map MtS.name ++ [m0]) := by show _ = _; rw [List.take_add_one,hm]; simp
    obtain ⟨al,hal⟩ : ∃ al,(s.methods.take k).map MtS.name = al := ⟨_,rfl⟩
    rw [hal] at HAk HSE HTK
    have HAL : Hid (al.length = k) := by show _ = _; rw [← hal,List.length_map,List.length_take,HLT.out]; omega
    have HA2 : Hid (A = if freshB m0 al = false then 6 else if (memB m1 s.mn && memB m2 s.mn) = false then 8 else chkTs s.mn (al ++ [m0]) (s.methods.drop (k + 1))) := by
     show _ = _
     rw [HAk.out,drop_at hm]; rfl
    have p0 : wr.cell? ⟨g,off + k * 3,none⟩ = some (.string m0) := (hbel.cell (World.block_lt_of_cell? _ _ C0)).trans C0
    have p1 : wr.cell? ⟨g,off + k * 3 + 1,none⟩ = some (.string m1) := (hbel.cell (World.block_lt_of_cell? _ _ C1)).trans C1
    have p2 : wr.cell? ⟨g,off + k * 3 + 2,none⟩ = some (.string m2) := (hbel.cell (World.block_lt_of_cell? _ _ C2)).trans C2
    have ha : Below wr.heap.size wr (wr.alloc (.cells #[.string m0,.string m1,.string m2] 72)) := (Below.refl _ _).alloc (Nat.le_refl _) _
    have BV := Blk.new wr #[.string m0,.string m1,.string m2] 72
    clear C0 C1 C2 hcs hfr hm hal HAk
    go_wp2_with fail
    clear x3 p0 p1 p2
    refine (rfresh_any m0 (by omega) (HSE.out.below ha).row).mono ?_
    rintro e w1 ⟨rfl,hb1⟩
    have hbw1 : Below w.heap.size w w1 := (hbel.trans (ha.mono hbel.size)).trans (hb1.mono (hbel.trans (ha.mono hbel.size)).size)
    have HS1 : Hid (Seen w1 w.heap.size (.slice sa k sc) al) := (HSE.out.below ha).below hb1
    have BX1 := (BX.below ha).below hb1
    have BV1 := BV.below hb1
    clear BV ha hb1 HSE
    cases hfr : freshB m0 al with
    | false =>
     have HA4 : Hid (A = 6) := by show _ = _; rw [HA2.out,if_pos hfr]
     clear HA2
     go_wp2_with fail
     go_ret
     exact ⟨ret_e HA4.out.symm,hbw1⟩
    | true =>
     have HA4 : Hid (A = if (memB m1 s.mn && memB m2 s.mn) = false then 8 else chkTs s.mn (al ++ [m0]) (s.methods.drop (k + 1))) := by show _ = _; rw [HA2.out,if_neg (by rw [hfr]; decide)]
     clear HA2 hfr
     obtain ⟨bv,hbv⟩ : ∃ n,wr.heap.size = n := ⟨_,rfl⟩
     rw [hbv] at BV1 ⊢
     clear hbv hbel BX
     have v0 : w1.cell? ⟨bv,0,none⟩ = some (.string m0) := BV1.cell 0
     go_wp2_with (first
      | (at_builtin; refine wpList_seen (al := al) (x := m0) rfl _ _ rfl rfl rfl HS1.out ?c1 ?c2 ?_)
      | fail)
     case c1 => exact hbw1.size
     case c2 => rw [HAL.out]; omega
     intro v' w2 hS2 hK2 hB2
     obtain ⟨ta,tc,rfl⟩ := hS2.form
     have hl2 : (al ++ [m0]).length = k + 1 := by rw [List.length_append,HAL.out]; rfl
     rw [hl2] at hS2 ⊢
     have HS2 : Hid (Seen w2 w.heap.size (.slice ta (k + 1) tc) (al ++ [m0])) := hS2
     have HAL2 : Hid ((al ++ [m0]).length = k + 1) := hl2
     have hb2 : Below w.heap.size w w2 := hbw1.trans hB2
     have BX2 := BX1.kp hK2 (fun e => absurd (own_type HS1.out e BX1) (by decide))
     have BV2 := BV1.kp hK2 (fun e => absurd (own_type HS1.out e BV1) (by decide))
     clear v0 hS2 hl2 hK2 hB2 BX1 BV1 HS1 hbw1 HAL
     have b0 : (w2).cell? ⟨w.heap.size,0,none⟩ = some (.string nm) := BX2.cell 0
     have b1 : (w2).cell? ⟨w.heap.size,1,none⟩ = some (.slice am M cm) := BX2.cell 1
     have b2 : (w2).cell? ⟨w.heap.size,2,none⟩ = some (.slice ae E ce) := BX2.cell 2
     have b3 : (w2).cell? ⟨w.heap.size,3,none⟩ = some (.slice (some ⟨g,off,none⟩) T ct) := BX2.cell 3
     have b4 : (w2).cell? ⟨bv,1,none⟩ = some (.string m1) := BV2.cell 1
     go_wp2_with fail
     refine (r7message_any (HM.out.below hb2)).mono ?_
     rintro e wv ⟨vf,vr,rfl,h1,h2,hb⟩
     rw [find_mn]
     obtain ⟨ya,yc,rfl,_,_⟩ := h1.form2
     obtain ⟨yd,ye,rfl,_,_⟩ := h2.form2
     generalize ((s.msgs.find? fun x => decide (x.name = m1)).getD zeroM).name = yn at *
     generalize (flRows ((s.msgs.find? fun x => decide (x.name = m1)).getD zeroM).fields).length = yF at *
     generalize (inRows ((s.msgs.find? fun x => decide (x.name = m1)).getD zeroM).reserved).length = yR at *
     have ha : Below wv.heap.size wv (wv.alloc (.cells #[.string yn,.slice ya yF yc,.slice yd yR ye] 50)) := (Below.refl _ _).alloc (Nat.le_refl _) _
     have hbwv : Below w.heap.size w (wv.alloc (.cells #[.string yn,.slice ya yF yc,.slice yd yR ye] 50)) := (hb2.trans (hb.mono hb2.size)).trans (ha.mono (hb2.trans (hb.mono hb2.size)).size)
     have BXwv := (BX2.below hb).below ha
     have BVwv := (BV2.below hb).below ha
     have HSwv : Hid (Seen (wv.alloc (.cells #[.string yn,.slice ya yF yc,.slice yd yR ye] 50)) w.heap.size (.slice ta (k + 1) tc) (al ++ [m0])) := Seen.below (Seen.below HS2.out hb) ha
     obtain ⟨yB,hyB⟩ : ∃ B,memB m1 (s.msgs.map MsS.name) = B := ⟨_,rfl⟩
     rw [hyB]
     have HyB : Hid (memB m1 s.mn = yB) := hyB
     clear b0 b1 b2 b3 b4 h1 h2 hb hb2 BX2 BV2 ha hyB
     have b0 : (wv.alloc (.cells #[.string yn,.slice ya yF yc,.slice yd yR ye] 50)).cell? ⟨w.heap.size,0,none⟩ = some (.string nm) := BXwv.cell 0
     have b1 : (wv.alloc (.cells #[.string yn,.slice ya yF yc,.slice yd yR ye] 50)).cell? ⟨w.heap.size,1,none⟩ = some (.slice am M cm) := BXwv.cell 1
     have b2 : (wv.alloc (.cells #[.string yn,.slice ya yF yc,.slice yd yR ye] 50)).cell? ⟨w.heap.size,2,none⟩ = some (.slice ae E ce) := BXwv.cell 2
     have b3 : (wv.alloc (.cells #[.string yn,.slice ya yF yc,.slice yd yR ye] 50)).cell? ⟨w.heap.size,3,none⟩ = some (.slice (some ⟨g,off,none⟩) T ct) := BXwv.cell 3
     have b4 : (wv.alloc (.cells #[.string yn,.slice ya yF yc,.slice yd yR ye] 50)).cell? ⟨bv,2,none⟩ = some (.string m2) := BVwv.cell 2
     go_wp2_with fail
     refine (r7message_any (HM.out.below hbwv)).mono ?_
     rintro e wx ⟨vf,vr,rfl,h1,h2,hb⟩
     rw [find_mn]
     obtain ⟨za,zc,rfl,_,_⟩ := h1.form2
     obtain ⟨zd,ze,rfl,_,_⟩ := h2.form2
     generalize ((s.msgs.find? fun x => decide (x.name = m2)).getD zeroM).name = zn at *
     generalize (flRows ((s.msgs.find? fun x => decide (x.name = m2)).getD zeroM).fields).length = zF at *
     generalize (inRows ((s.msgs.find? fun x => decide (x.name = m2)).getD zeroM).reserved).length = zR at *
     have ha : Below wx.heap.size wx (wx.alloc (.cells #[.string zn,.slice za zF zc,.slice zd zR ze] 50)) := (Below.refl _ _).alloc (Nat.le_refl _) _
     have hbwx : Below w.heap.size w (wx.alloc (.cells #[.string zn,.slice za zF zc,.slice zd zR ze] 50)) := (hbwv.trans (hb.mono hbwv.size)).trans (ha.mono (hbwv.trans (hb.mono hbwv.size)).size)
     have BXwx := (BXwv.below hb).below ha
     have BVwx := (BVwv.below hb).below ha
     have HSwx : Hid (Seen (wx.alloc (.cells #[.string zn,.slice za zF zc,.slice zd zR ze] 50)) w.heap.size (.slice ta (k + 1) tc) (al ++ [m0])) := Seen.below (Seen.below HSwv.out hb) ha
     obtain ⟨zB,hzB⟩ : ∃ B,memB m2 (s.msgs.map MsS.name) = B := ⟨_,rfl⟩
     rw [hzB]
     have HzB : Hid (memB m2 s.mn = zB) := hzB
     clear b0 b1 b2 b3 b4 h1 h2 hb hbwv BXwv BVwv ha hzB
     cases yB with
     | false =>
      have HA5 : Hid (A = 8) := by show _ = _; rw [HA4.out,if_pos (by rw [HyB.out]; rfl)]
      clear HA4
      go_wp2_with fail
      go_ret
      exact ⟨ret_e HA5.out.symm,hbwx⟩
     | true =>
      cases zB with
      | false =>
       have HA5 : Hid (A = 8) := by show _ = _; rw [HA4.out,if_pos (by rw [HyB.out,HzB.out]; rfl)]
       clear HA4
       go_wp2_with fail
       go_ret
       exact ⟨ret_e HA5.out.symm,hbwx⟩
      | true =>
       have HA5 : Hid (A = chkTs s.mn ((s.methods.take (k + 1)).map MtS.name) (s.methods.drop (k + 1))) := by show _ = _; rw [HA4.out,if_neg (by rw [HyB.out,HzB.out]; decide),HTK.out]
       have HS4 : Hid (Seen (wx.alloc (.cells #[.string zn,.slice za zF zc,.slice zd zR ze] 50)) w.heap.size (.slice ta (k + 1) tc) ((s.methods.take (k + 1)).map MtS.name)) := by show Seen _ _ _ _; rw [HTK.out]; exact HSwx.out
       clear HA4
       go_wp2_with fail
       go_roundw
       case rel => exact ⟨k + 1,ta,tc,rfl,by go_num,by omega,HA5,HS4,hbwx,BXwx⟩
       case measure => simp [intOf]; omega
   ·have HA3 : Hid (A = 0) := by show _ = _; rw [HAk.out,drop_end (by rw [HLT.out]; omega)]; rfl
    clear HAk
    go_wp2_with fail
    go_ret
    exact ⟨ret_e HA3.out.symm,hbel⟩
theorem rcheck_any {w : World} {v : Value} {s : ScS} (hr : ScIn w v s) (hfs : FewS s) :
  Calls Tryz.prog 21 #[v] w fun e w' => e = .returned (.int .i64 (checkA s)) ∧ Below w.heap.size w w' := rcheck_may hr hfs.mayS
end
section
open Go.ChangeShapes Go.WideShapes Go.ChangeAt Go.RowKit
set_option maxRecDepth 20000
theorem typeB_kindK {mn en : List ByteArray} {k : Int} {t : ByteArray} (h : typeB mn en k t = true) : 1 ≤ k ∧ k ≤ 7 := by
 unfold typeB at h
 by_cases h1 : 1 ≤ k ∧ k ≤ 7
 ·exact h1
 ·exfalso
  revert h
  simp
  intros
  omega
theorem ok_kindsK {s : ScS} (h : OkS s) : ∀ m ∈ s.msgs,∀ f ∈ m.fields,1 ≤ f.kind ∧ f.kind ≤ 7 := fun m hm f hf => typeB_kindK ((h.msgs m hm).2.2.2.2.1 f hf).1.2.2.2
set_option maxHeartbeats 8000000 in
theorem rvalidT_any {s : ScS} (sn : ByteArray) (ma ea ta : Option Addr) (mn mc en ec tn tc : Nat) (n : Nat) (t : Tr) (K N : Int) (S : ByteArray) (a1 a2 : Option Addr) (n1 c1 n2 c2 : Nat) (nm : ByteArray) (w : World) (hr : ScIn w (.agg #[.string sn,.slice ma mn mc,.slice ea en ec,.slice ta tn tc]) s) (hfs : FewS s) (ht : TrIn n w (.agg #[.int .i64 K,.int .i64 N,.string S,.slice a1 n1 c1,.slice a2 n2 c2]) t) (hsm : SmN n t) (hn : n ≤ 60) :
  Calls Tryz.prog 13 #[.agg #[.string sn,.slice ma mn mc,.slice ea en ec,.slice ta tn tc],.string nm,.agg #[.int .i64 K,.int .i64 N,.string S,.slice a1 n1 c1,.slice a2 n2 c2]] w fun e w' => e = .returned (.int .i64 (validA n s nm t)) ∧ Below w.heap.size w w' := by
 have al1 : Below w.heap.size w (w.alloc (Obj.cells #[.string sn,.slice ma mn mc,.slice ea en ec,.slice ta tn tc] 26)) := (Below.refl _ _).alloc (Nat.le_refl _) _
 have hZb : Below w.heap.size w ((w.alloc (Obj.cells #[.string sn,.slice ma mn mc,.slice ea en ec,.slice ta tn tc] 26)).alloc (Obj.cells #[.int .i64 K,.int .i64 N,.string S,.slice a1 n1 c1,.slice a2 n2 c2] 30)) := al1.alloc (by simp) _
 have BS : Blk ((w.alloc (Obj.cells #[.string sn,.slice ma mn mc,.slice ea en ec,.slice ta tn tc] 26)).alloc (Obj.cells #[.int .i64 K,.int .i64 N,.string S,.slice a1 n1 c1,.slice a2 n2 c2] 30)) w.heap.size #[.string sn,.slice ma mn mc,.slice ea en ec,.slice ta tn tc] 26 := (Blk.new w _ _).below ((Below.refl _ _).alloc (Nat.le_refl _) _)
 have BT : Blk ((w.alloc (Obj.cells #[.string sn,.slice ma mn mc,.slice ea en ec,.slice ta tn tc] 26)).alloc (Obj.cells #[.int .i64 K,.int .i64 N,.string S,.slice a1 n1 c1,.slice a2 n2 c2] 30)) (w.heap.size + 1) #[.int .i64 K,.int .i64 N,.string S,.slice a1 n1 c1,.slice a2 n2 c2] 30 := by
  have := Blk.new (w.alloc (Obj.cells #[.string sn,.slice ma mn mc,.slice ea en ec,.slice ta tn tc] 26)) #[.int .i64 K,.int .i64 N,.string S,.slice a1 n1 c1,.slice a2 n2 c2] 30
  rwa [show (w.alloc (Obj.cells #[.string sn,.slice ma mn mc,.slice ea en ec,.slice ta tn tc] 26)).heap.size = w.heap.size + 1 from by simp] at this
 have hms : MsIn w (.slice ma mn mc) s.msgs := by
  obtain ⟨vm,ve,vt,e,h1, -, -⟩ := hr
  simp only [Value.agg.injEq,Array.mk.injEq,List.cons.injEq,and_true,Value.string.injEq] at e
  obtain ⟨-,rfl, -, -⟩ := e
  exact h1
 have HMS : Hid (MsIn w (.slice ma mn mc) s.msgs) := hms
 have HMC : Hid (∀ W,Below w.heap.size w W → Calls Tryz.prog 37 #[.agg #[.string sn,.slice ma mn mc,.slice ea en ec,.slice ta tn tc],.string nm] W fun e w' => ∃ vf vr,e = .returned (.tuple #[.agg #[.string ((msgOf s nm).getD zMs).name,vf,vr],.bool (msgOf s nm).isSome]) ∧ RowG w vf 5 (flRows ((msgOf s nm).getD zMs).fields) ∧ RowG w vr 1 (inRows ((msgOf s nm).getD zMs).reserved) ∧ Below W.heap.size W w') := fun W hW => r7messageW_any (w0 := w) hW hms
 have hpt := ht.partsV
 have HRK : Hid (Calls Tryz.prog 21 #[.agg #[.string sn,.slice ma mn mc,.slice ea en ec,.slice ta tn tc]] ((w.alloc (Obj.cells #[.string sn,.slice ma mn mc,.slice ea en ec,.slice ta tn tc] 26)).alloc (Obj.cells #[.int .i64 K,.int .i64 N,.string S,.slice a1 n1 c1,.slice a2 n2 c2] 30)) fun e w' => e = .returned (.int .i64 (checkA s)) ∧ Below ((w.alloc (Obj.cells #[.string sn,.slice ma mn mc,.slice ea en ec,.slice ta tn tc] 26)).alloc (Obj.cells #[.int .i64 K,.int .i64 N,.string S,.slice a1 n1 c1,.slice a2 n2 c2] 30)).heap.size ((w.alloc (Obj.cells #[.string sn,.slice ma mn mc,.slice ea en ec,.slice ta tn tc] 26)).alloc (Obj.cells #[.int .i64 K,.int .i64 N,.string S,.slice a1 n1 c1,.slice a2 n2 c2] 30)) w') := rcheck_any (hr.below hZb) hfs
 have HTK : Hid (∀ W,Below w.heap.size w W → Calls Tryz.prog 22 #[.agg #[.int .i64 K,.int .i64 N,.string S,.slice a1 n1 c1,.slice a2 n2 c2]] W fun e w' => e = .returned (.bool (chkN n t)) ∧ Below W.heap.size W w') := fun W hW => rCheck_any n t _ W (ht.below hW) (by omega)
 have HTI : Hid (TrIn n w (.agg #[.int .i64 K,.int .i64 N,.string S,.slice a1 n1 c1,.slice a2 n2 c2]) t ∧ SmN n t ∧ t.kind = K) := ⟨ht,hsm,hpt.1⟩
 clear hr hfs ht hsm hn hpt hms al1
 obtain ⟨CA,hCA⟩ : ∃ z,checkA s = z := ⟨_,rfl⟩
 have HCA : Hid (checkA s = CA) := hCA
 rw [hCA] at HRK
 clear hCA
 go_enter Tryz.func13,Tryz.ntmps13
 go_wp2_with fail
 refine HRK.out.mono ?_
 generalize ((w.alloc (Obj.cells #[.string sn,.slice ma mn mc,.slice ea en ec,.slice ta tn tc] 26)).alloc (Obj.cells #[.int .i64 K,.int .i64 N,.string S,.slice a1 n1 c1,.slice a2 n2 c2] 30)) = Z at *
 obtain ⟨q,hq⟩ : ∃ z,w.heap.size = z := ⟨_,rfl⟩
 rw [hq] at BS BT
 simp only [hq]
 have HQ : Hid (w.heap.size = q) := hq
 clear hq
 rintro e w1 ⟨rfl,hb1⟩
 have hbw1 : Below w.heap.size w w1 := hZb.trans (hb1.mono hZb.size)
 have BS1 := BS.below hb1
 have BT1 := BT.below hb1
 clear BS BT hb1 hZb HRK
 by_cases hC0 : CA = 0
 rotate_left
 ·have dC : (CA != 0) = true := by simpa using hC0
  have HV : Hid (validA n s nm t = 1) := (by rw [validA,if_pos (by rw [HCA.out]; exact hC0)] : validA n s nm t = 1)
  clear hC0
  go_wp2_with fail
  go_ret
  exact ⟨congrArg (fun z : Int => Ending.returned (Value.int .i64 z)) HV.out.symm,hbw1⟩
 subst hC0
 have sa0 := (BS1.cell 0).trans rfl
 have sa1 := (BS1.cell 1).trans rfl
 have sa2 := (BS1.cell 2).trans rfl
 have sa3 := (BS1.cell 3).trans rfl
 go_wp2_with fail
 refine Calls.mono (HMC.out _ hbw1) ?_
 rintro e w2 ⟨vf,vr,rfl,hvf,hvr,hb2⟩
 obtain ⟨fa,fn,fc,rfl⟩ := row_sliceV hvf
 obtain ⟨ra,rn,rc,rfl⟩ := row_sliceV hvr
 have HVF : Hid (RowG w (.slice fa fn fc) 5 (flRows ((msgOf s nm).getD zMs).fields)) := hvf
 obtain ⟨QN,hQN⟩ : ∃ z,((msgOf s nm).getD zMs).name = z := ⟨_,rfl⟩
 rw [hQN]
 obtain ⟨OK,hOK⟩ : ∃ z,(msgOf s nm).isSome = z := ⟨_,rfl⟩
 have HOK : Hid ((msgOf s nm).isSome = OK) := hOK
 rw [hOK]
 have hbw2 : Below w.heap.size w w2 := hbw1.trans (hb2.mono hbw1.size)
 have al3 : Below w2.heap.size w2 (w2.alloc (Obj.cells #[.string QN,.slice fa fn fc,.slice ra rn rc] 50)) := (Below.refl _ _).alloc (Nat.le_refl _) _
 have hbw3 : Below w.heap.size w (w2.alloc (Obj.cells #[.string QN,.slice fa fn fc,.slice ra rn rc] 50)) := hbw2.trans (al3.mono hbw2.size)
 have BM3 : Blk (w2.alloc (Obj.cells #[.string QN,.slice fa fn fc,.slice ra rn rc] 50)) w2.heap.size #[.string QN,.slice fa fn fc,.slice ra rn rc] 50 := Blk.new w2 _ _
 have BS3 := (BS1.below hb2).below al3
 have BT3 := (BT1.below hb2).below al3
 clear hvf hvr hb2 hbw1 hbw2 al3 BS1 BT1 hQN hOK sa0 sa1 sa2 sa3 HMC
 cases OK with
 | false =>
  have HV : Hid (validA n s nm t = 14) := (by rw [validA,if_neg (by simp [HCA.out]),if_pos HOK.out] : validA n s nm t = 14)
  go_wp2_with fail
  go_ret
  exact ⟨congrArg (fun z : Int => Ending.returned (Value.int .i64 z)) HV.out.symm,hbw3⟩
 | true =>
  have ta0 := (BT3.cell 0).trans rfl
  have ta1 := (BT3.cell 1).trans rfl
  have ta2 := (BT3.cell 2).trans rfl
  have ta3 := (BT3.cell 3).trans rfl
  have ta4 := (BT3.cell 4).trans rfl
  by_cases hK : K = 3
  rotate_left
  ·have dK : (K != 3) = true := by simpa using hK
   have HV : Hid (validA n s nm t = 1) := (by rw [validA,if_neg (by simp [HCA.out]),if_neg (by simp [HOK.out]),if_pos (.inr (by rw [HTI.out.2.2]; exact hK))] : validA n s nm t = 1)
   clear hK
   go_wp2_with fail
   go_ret
   exact ⟨congrArg (fun z : Int => Ending.returned (Value.int .i64 z)) HV.out.symm,hbw3⟩
  subst hK
  obtain ⟨CB,hCB⟩ : ∃ z,chkN n t = z := ⟨_,rfl⟩
  have HCB : Hid (chkN n t = CB) := hCB
  rw [hCB] at HTK
  clear hCB
  go_wp2_with fail
  refine (HTK.out _ hbw3).mono ?_
  generalize (w2.alloc (Obj.cells #[.string QN,.slice fa fn fc,.slice ra rn rc] 50)) = W3 at *
  obtain ⟨b7,hb7⟩ : ∃ z,w2.heap.size = z := ⟨_,rfl⟩
  rw [hb7] at BM3
  simp only [hb7]
  clear hb7
  rintro e w4 ⟨rfl,hb4⟩
  have hbw4 : Below w.heap.size w w4 := hbw3.trans (hb4.mono hbw3.size)
  have BS4 := BS3.below hb4
  have BT4 := BT3.below hb4
  have BM4 := BM3.below hb4
  clear hb4 hbw3 BS3 BT3 BM3 HTK ta0 ta1 ta2 ta3 ta4
  cases CB with
  | false =>
   have HV : Hid (validA n s nm t = 1) := (by rw [validA,if_neg (by simp [HCA.out]),if_neg (by simp [HOK.out]),if_pos (.inl HCB.out)] : validA n s nm t = 1)
   go_wp2_with fail
   go_ret
   exact ⟨congrArg (fun z : Int => Ending.returned (Value.int .i64 z)) HV.out.symm,hbw4⟩
  | true =>
   have HV : Hid (validA n s nm t = msgV n s nm t) := (by rw [validA,if_neg (by simp [HCA.out]),if_neg (by simp [HOK.out]),if_neg (by rw [HCB.out,HTI.out.2.2]; simp)] : validA n s nm t = msgV n s nm t)
   have HOS : Hid (OkS s) := (checkA_ok s).1 HCA.out
   have HCC : Hid (Calls Tryz.prog 38 #[.agg #[.string sn,.slice ma mn mc,.slice ea en ec,.slice ta tn tc],.agg #[.string QN,.slice fa fn fc,.slice ra rn rc],.agg #[.int .i64 3,.int .i64 N,.string S,.slice a1 n1 c1,.slice a2 n2 c2]] w4 fun e w' => e = .returned (.int .i64 (msgV n s nm t)) ∧ Below w4.heap.size w4 w') := rmessage_any sn ma ea ta mn mc en ec tn tc (ok_kindsK HOS.out) w HMS.out n t _ _ _ _ _ _ _ _ _ nm QN fa ra fn fc rn rc w4 hbw4 HTI.out.1 HTI.out.2.1 HVF.out
   obtain ⟨E,hE⟩ : ∃ z,msgV n s nm t = z := ⟨_,rfl⟩
   rw [hE] at HCC HV
   clear hE
   have sb0 := (BS4.cell 0).trans rfl
   have sb1 := (BS4.cell 1).trans rfl
   have sb2 := (BS4.cell 2).trans rfl
   have sb3 := (BS4.cell 3).trans rfl
   have mb0 := (BM4.cell 0).trans rfl
   have mb1 := (BM4.cell 1).trans rfl
   have mb2 := (BM4.cell 2).trans rfl
   have tb0 := (BT4.cell 0).trans rfl
   have tb1 := (BT4.cell 1).trans rfl
   have tb2 := (BT4.cell 2).trans rfl
   have tb3 := (BT4.cell 3).trans rfl
   have tb4 := (BT4.cell 4).trans rfl
   go_wp2_with fail
   refine HCC.out.mono ?_
   rintro e w5 ⟨rfl,hb5⟩
   have hbw5 : Below w.heap.size w w5 := hbw4.trans (hb5.mono hbw4.size)
   go_wp2_with fail
   go_ret
   exact ⟨congrArg (fun z : Int => Ending.returned (Value.int .i64 z)) HV.out.symm,hbw5⟩
set_option maxHeartbeats 8000000 in
theorem rget_any {s : ScS} (sn : ByteArray) (ma ea ta : Option Addr) (mn mc en ec tn tc : Nat) (n : Nat) (t : Tr) (K N : Int) (S : ByteArray) (a1 a2 : Option Addr) (n1 c1 n2 c2 : Nat) (nm : ByteArray) (tag : Int) (w : World) (hr : ScIn w (.agg #[.string sn,.slice ma mn mc,.slice ea en ec,.slice ta tn tc]) s) (hok : OkS s) (ht : TrIn (n + 2) w (.agg #[.int .i64 K,.int .i64 N,.string S,.slice a1 n1 c1,.slice a2 n2 c2]) t) :
  Calls Tryz.prog 24 #[.agg #[.string sn,.slice ma mn mc,.slice ea en ec,.slice ta tn tc],.string nm,.agg #[.int .i64 K,.int .i64 N,.string S,.slice a1 n1 c1,.slice a2 n2 c2],.int .i64 tag] w (fun e w' => ∃ r,e = .returned (.tuple #[r,.bool (getA s nm t tag).isSome]) ∧ TrsIn (n + 1) w' r ((getA s nm t tag).getD []) ∧ Below w.heap.size w w') := by
 have al1 : Below w.heap.size w (w.alloc (Obj.cells #[.string sn,.slice ma mn mc,.slice ea en ec,.slice ta tn tc] 26)) := (Below.refl _ _).alloc (Nat.le_refl _) _
 have hZb : Below w.heap.size w ((w.alloc (Obj.cells #[.string sn,.slice ma mn mc,.slice ea en ec,.slice ta tn tc] 26)).alloc (Obj.cells #[.int .i64 K,.int .i64 N,.string S,.slice a1 n1 c1,.slice a2 n2 c2] 30)) := al1.alloc (by simp) _
 have BS : Blk ((w.alloc (Obj.cells #[.string sn,.slice ma mn mc,.slice ea en ec,.slice ta tn tc] 26)).alloc (Obj.cells #[.int .i64 K,.int .i64 N,.string S,.slice a1 n1 c1,.slice a2 n2 c2] 30)) w.heap.size #[.string sn,.slice ma mn mc,.slice ea en ec,.slice ta tn tc] 26 := (Blk.new w _ _).below ((Below.refl _ _).alloc (Nat.le_refl _) _)
 have BT : Blk ((w.alloc (Obj.cells #[.string sn,.slice ma mn mc,.slice ea en ec,.slice ta tn tc] 26)).alloc (Obj.cells #[.int .i64 K,.int .i64 N,.string S,.slice a1 n1 c1,.slice a2 n2 c2] 30)) (w.heap.size + 1) #[.int .i64 K,.int .i64 N,.string S,.slice a1 n1 c1,.slice a2 n2 c2] 30 := by
  have := Blk.new (w.alloc (Obj.cells #[.string sn,.slice ma mn mc,.slice ea en ec,.slice ta tn tc] 26)) #[.int .i64 K,.int .i64 N,.string S,.slice a1 n1 c1,.slice a2 n2 c2] 30
  rwa [show (w.alloc (Obj.cells #[.string sn,.slice ma mn mc,.slice ea en ec,.slice ta tn tc] 26)).heap.size = w.heap.size + 1 from by simp] at this
 have hms : MsIn w (.slice ma mn mc) s.msgs := by
  obtain ⟨vm,ve,vt,e,h1, -, -⟩ := hr
  simp only [Value.agg.injEq,Array.mk.injEq,List.cons.injEq,and_true,Value.string.injEq] at e
  obtain ⟨-,rfl, -, -⟩ := e
  exact h1
 have HMS : Hid (MsIn w (.slice ma mn mc) s.msgs) := hms
 have HMC : Hid (∀ W,Below w.heap.size w W → Calls Tryz.prog 37 #[.agg #[.string sn,.slice ma mn mc,.slice ea en ec,.slice ta tn tc],.string nm] W fun e w' => ∃ vf vr,e = .returned (.tuple #[.agg #[.string ((msgOf s nm).getD zMs).name,vf,vr],.bool (msgOf s nm).isSome]) ∧ RowG w vf 5 (flRows ((msgOf s nm).getD zMs).fields) ∧ RowG w vr 1 (inRows ((msgOf s nm).getD zMs).reserved) ∧ Below W.heap.size W w') := fun W hW => r7messageW_any (w0 := w) hW hms
 have HTI : Hid (TrIn (n + 2) w (.agg #[.int .i64 K,.int .i64 N,.string S,.slice a1 n1 c1,.slice a2 n2 c2]) t ∧ t.kind = K) := ⟨ht,ht.partsV.1⟩
 have HKD : Hid (∀ m ∈ s.msgs,∀ f ∈ m.fields,1 ≤ f.kind ∧ f.kind ≤ 7) := ok_kindsK hok
 clear hr hok ht hms al1
 go_enter Tryz.func24,Tryz.ntmps24
 go_wp2_with fail
 generalize ((w.alloc (Obj.cells #[.string sn,.slice ma mn mc,.slice ea en ec,.slice ta tn tc] 26)).alloc (Obj.cells #[.int .i64 K,.int .i64 N,.string S,.slice a1 n1 c1,.slice a2 n2 c2] 30)) = Z at *
 obtain ⟨q,hq⟩ : ∃ z,w.heap.size = z := ⟨_,rfl⟩
 rw [hq] at BS BT
 simp only [hq]
 have HQ : Hid (w.heap.size = q) := hq
 clear hq
 refine Calls.mono (HMC.out _ hZb) ?_
 rintro e w2 ⟨vf,vr,rfl,hvf,hvr,hb2⟩
 obtain ⟨fa,fn,fc,rfl⟩ := row_sliceV hvf
 obtain ⟨ra,rn,rc,rfl⟩ := row_sliceV hvr
 have HVF : Hid (RowG w (.slice fa fn fc) 5 (flRows ((msgOf s nm).getD zMs).fields)) := hvf
 obtain ⟨QN,hQN⟩ : ∃ z,((msgOf s nm).getD zMs).name = z := ⟨_,rfl⟩
 rw [hQN]
 obtain ⟨OK,hOK⟩ : ∃ z,(msgOf s nm).isSome = z := ⟨_,rfl⟩
 have HOK : Hid ((msgOf s nm).isSome = OK) := hOK
 rw [hOK]
 have hbw2 : Below w.heap.size w w2 := hZb.trans (hb2.mono hZb.size)
 have al3 : Below w2.heap.size w2 (w2.alloc (Obj.cells #[.string QN,.slice fa fn fc,.slice ra rn rc] 50)) := (Below.refl _ _).alloc (Nat.le_refl _) _
 have hbw3 : Below w.heap.size w (w2.alloc (Obj.cells #[.string QN,.slice fa fn fc,.slice ra rn rc] 50)) := hbw2.trans (al3.mono hbw2.size)
 have BM3 : Blk (w2.alloc (Obj.cells #[.string QN,.slice fa fn fc,.slice ra rn rc] 50)) w2.heap.size #[.string QN,.slice fa fn fc,.slice ra rn rc] 50 := Blk.new w2 _ _
 have BT3 := (BT.below hb2).below al3
 clear hvf hvr hb2 hbw2 al3 BS BT hQN hOK HMC hZb
 cases OK with
 | false =>
  have HG : Hid (getA s nm t tag = none) := (by rw [getA,fieldA_none HOK.out] : getA s nm t tag = none)
  go_wp2_with fail
  go_ret2
  exact ⟨_,by rw [HG.out]; rfl,by rw [HG.out]; exact RowP.nil _ _ _,hbw3⟩
 | true =>
  have ta0 := (BT3.cell 0).trans rfl
  have ma0 := (BM3.cell 0).trans rfl
  have ma1 := (BM3.cell 1).trans rfl
  have ma2 := (BM3.cell 2).trans rfl
  have hfa := fieldA_some (tag := tag) HOK.out
  by_cases hK : K = 3
  rotate_left
  ·have dK : (K != 3) = true := by simpa using hK
   have HG : Hid (getA s nm t tag = none) := (by
    rw [getA]
    cases fieldA s nm tag with
    | none => rfl
    | some f => simp only; rw [if_pos (by rw [HTI.out.2]; exact hK)] : getA s nm t tag = none)
   clear hK hfa
   go_wp2_with fail
   go_ret2
   exact ⟨_,by rw [HG.out]; rfl,by rw [HG.out]; exact RowP.nil _ _ _,hbw3⟩
  subst hK
  have HFC : Hid (Calls Tryz.prog 27 #[.agg #[.string QN,.slice fa fn fc,.slice ra rn rc],.int .i64 tag] (w2.alloc (Obj.cells #[.string QN,.slice fa fn fc,.slice ra rn rc] 50)) fun e' w' => e' = .returned (.tuple #[flV ((fieldA s nm tag).getD zeroF),.bool (fieldA s nm tag).isSome]) ∧ Below (w2.alloc (Obj.cells #[.string QN,.slice fa fn fc,.slice ra rn rc] 50)).heap.size (w2.alloc (Obj.cells #[.string QN,.slice fa fn fc,.slice ra rn rc] 50)) w') := (by
   have h1 := r7field_any (w := w2.alloc (Obj.cells #[.string QN,.slice fa fn fc,.slice ra rn rc] 50)) (snm := QN) (nm := tag) (am := ra) (M := rn) (cm := rc) (HVF.out.below hbw3)
   rw [hfa]
   exact h1 : Calls Tryz.prog 27 #[.agg #[.string QN,.slice fa fn fc,.slice ra rn rc],.int .i64 tag] (w2.alloc (Obj.cells #[.string QN,.slice fa fn fc,.slice ra rn rc] 50)) fun e' w' => e' = .returned (.tuple #[flV ((fieldA s nm tag).getD zeroF),.bool (fieldA s nm tag).isSome]) ∧ Below (w2.alloc (Obj.cells #[.string QN,.slice fa fn fc,.slice ra rn rc] 50)).heap.size (w2.alloc (Obj.cells #[.string QN,.slice fa fn fc,.slice ra rn rc] 50)) w')
  have HFA : Hid (fieldA s nm tag = fldOf ((msgOf s nm).getD zMs).fields tag) := hfa
  clear hfa
  go_wp2_with fail
  refine HFC.out.mono ?_
  generalize (w2.alloc (Obj.cells #[.string QN,.slice fa fn fc,.slice ra rn rc] 50)) = W3 at *
  obtain ⟨b7,hb7⟩ : ∃ z,w2.heap.size = z := ⟨_,rfl⟩
  rw [hb7] at BM3
  simp only [hb7]
  clear hb7
  rintro e w4 ⟨rfl,hb4⟩
  have hbw4 : Below w.heap.size w w4 := hbw3.trans (hb4.mono hbw3.size)
  have BT4 := BT3.below hb4
  clear hb4 hbw3 BT3 BM3 HFC ta0 ma0 ma1 ma2
  cases hfo : fieldA s nm tag with
  | none =>
   simp only [Option.isSome_none,Option.getD_none]
   have HG : Hid (getA s nm t tag = none) := (by rw [getA,hfo] : getA s nm t tag = none)
   have hbw5 : Below w.heap.size w (w4.alloc (Obj.cells #[.string ⟨#[]⟩,.int .i64 0,.int .i64 0,.int .i64 0,.string ⟨#[]⟩] 54)) := hbw4.alloc hbw4.size _
   simp only [flV,zeroF]
   clear hfo
   go_wp2_with fail
   go_ret2
   exact ⟨_,by rw [HG.out]; rfl,by rw [HG.out]; exact RowP.nil _ _ _,hbw5⟩
  | some f =>
   simp only [Option.isSome_some,Option.getD_some]
   have hkf : 1 ≤ f.kind ∧ f.kind ≤ 7 := by
    have h1 := HFA.out
    rw [hfo] at h1
    cases hmo : msgOf s nm with
    | none => rw [hmo] at h1; cases h1
    | some m =>
     rw [hmo] at h1
     exact HKD.out m (List.mem_of_find?_eq_some hmo) f (List.mem_of_find?_eq_some h1.symm)
   have HG : Hid (getA s nm t tag = some ((undL t.es tag).getD (zeroL f))) := (by
    rw [getA,hfo]
    simp only
    rw [if_neg (by simp [HTI.out.2])] : getA s nm t tag = some ((undL t.es tag).getD (zeroL f)))
   obtain ⟨y1,y2,y3,y4,y5⟩ := f
   simp only [flV]
   have HK4 : Hid (1 ≤ y4 ∧ y4 ≤ 7) := hkf
   have al5 : Below w4.heap.size w4 (w4.alloc (Obj.cells #[.string y1,.int .i64 y2,.int .i64 y3,.int .i64 y4,.string y5] 54)) := (Below.refl _ _).alloc (Nat.le_refl _) _
   have hbw5 : Below w.heap.size w (w4.alloc (Obj.cells #[.string y1,.int .i64 y2,.int .i64 y3,.int .i64 y4,.string y5] 54)) := hbw4.trans (al5.mono hbw4.size)
   have BF5 : Blk (w4.alloc (Obj.cells #[.string y1,.int .i64 y2,.int .i64 y3,.int .i64 y4,.string y5] 54)) w4.heap.size #[.string y1,.int .i64 y2,.int .i64 y3,.int .i64 y4,.string y5] 54 := Blk.new w4 _ _
   have BT5 := BT4.below al5
   have HHC : Hid (Calls Tryz.prog 28 #[.agg #[.int .i64 3,.int .i64 N,.string S,.slice a1 n1 c1,.slice a2 n2 c2],.int .i64 tag] (w4.alloc (Obj.cells #[.string y1,.int .i64 y2,.int .i64 y3,.int .i64 y4,.string y5] 54)) fun e w' => e = .returned (.bool (hasB t.es tag)) ∧ Below (w4.alloc (Obj.cells #[.string y1,.int .i64 y2,.int .i64 y3,.int .i64 y4,.string y5] 54)).heap.size (w4.alloc (Obj.cells #[.string y1,.int .i64 y2,.int .i64 y3,.int .i64 y4,.string y5] 54)) w') := rhas_any (n + 1) t _ tag _ (HTI.out.1.below hbw5)
   clear hfo hkf al5 hbw4 BT4
   have tb0 := (BT5.cell 0).trans rfl
   have tb1 := (BT5.cell 1).trans rfl
   have tb2 := (BT5.cell 2).trans rfl
   have tb3 := (BT5.cell 3).trans rfl
   have tb4 := (BT5.cell 4).trans rfl
   go_wp2_with fail
   refine HHC.out.mono ?_
   generalize (w4.alloc (Obj.cells #[.string y1,.int .i64 y2,.int .i64 y3,.int .i64 y4,.string y5] 54)) = W5 at *
   obtain ⟨b12,hb12⟩ : ∃ z,w4.heap.size = z := ⟨_,rfl⟩
   rw [hb12] at BF5
   simp only [hb12]
   clear hb12
   rintro e w6 ⟨rfl,hb6⟩
   have hbw6 : Below w.heap.size w w6 := hbw5.trans (hb6.mono hbw5.size)
   have BT6 := BT5.below hb6
   have BF6 := BF5.below hb6
   clear hb6 hbw5 BT5 BF5 HHC tb0 tb1 tb2 tb3 tb4
   cases hA : hasB t.es tag with
   | true =>
    have HU : Hid ((undL t.es tag).isSome = true) := (by
     cases hu : undL t.es tag with
     | some l => rfl
     | none =>
      exfalso
      simp only [hasB,List.any_eq_true] at hA
      obtain ⟨e,he,h1⟩ := hA
      unfold undL at hu
      rw [Option.map_eq_none_iff,List.find?_eq_none] at hu
      exact hu e he h1 : (undL t.es tag).isSome = true)
    have HUC : Hid (Calls Tryz.prog 29 #[.agg #[.int .i64 3,.int .i64 N,.string S,.slice a1 n1 c1,.slice a2 n2 c2],.int .i64 tag] w6 fun e' w' => ∃ r,e' = .returned r ∧ TrsIn (n + 1) w' r ((undL t.es tag).getD []) ∧ Below w6.heap.size w6 w') := runder_any (n + 1) t _ tag w6 (HTI.out.1.below hbw6)
    clear hA BF6
    have tc0 := (BT6.cell 0).trans rfl
    have tc1 := (BT6.cell 1).trans rfl
    have tc2 := (BT6.cell 2).trans rfl
    have tc3 := (BT6.cell 3).trans rfl
    have tc4 := (BT6.cell 4).trans rfl
    go_wp2_with fail
    refine Calls.mono HUC.out ?_
    rintro e w7 ⟨vu,rfl,hvu,hb7⟩
    have hbw7 : Below w.heap.size w w7 := hbw6.trans (hb7.mono hbw6.size)
    have HVU : Hid (TrsIn (n + 1) w7 vu ((undL t.es tag).getD [])) := hvu
    obtain ⟨ua,uc,huv, -⟩ := RowP.open hvu
    subst huv
    clear hvu hb7 tc0 tc1 tc2 tc3 tc4 HUC
    generalize ((undL t.es tag).getD []).length = ul at *
    go_wp2_with fail
    go_ret2
    refine ⟨_,by rw [HG.out]; rfl,?_,hbw7⟩
    rw [HG.out]
    have h1 := HU.out
    have h2 := HVU.out
    cases hu : undL t.es tag with
    | none => rw [hu] at h1; cases h1
    | some l => rw [hu] at h2; exact h2
   | false =>
    have hu : undL t.es tag = none := undL_no fun e he e1 => by
     simp only [hasB,List.any_eq_false] at hA
     exact hA e he (by simpa using e1)
    rw [hu] at HG
    simp only [Option.getD_none] at HG
    clear hA hu
    have fc2 := (BF6.cell 2).trans rfl
    have fc3 := (BF6.cell 3).trans rfl
    have fc4 := (BF6.cell 4).trans rfl
    by_cases hl : y3 = 1
    rotate_left
    ·have dl : (y3 != 1) = true := by simpa using hl
     have hzl : zeroL ⟨y1,y2,y3,y4,y5⟩ = [] := by
      unfold zeroL
      rw [if_neg (fun h => hl h.1)]
     rw [hzl] at HG
     clear hl hzl
     go_wp2_with fail
     go_ret2
     exact ⟨_,by rw [HG.out]; rfl,by rw [HG.out]; exact RowP.nil _ _ _,hbw6⟩
    ·subst hl
     obtain ⟨KT,hKT⟩ : ∃ z,kindT y4 = z := ⟨_,rfl⟩
     have HKC : Hid (Calls Tryz.prog 49 #[.agg #[.int .i64 y4,.string y5]] w6 fun e w' => e = .returned (.int .i64 KT) ∧ Below w6.heap.size w6 w') := (by
      have := rkind_any y4 y5 w6 HK4.out
      rw [hKT] at this
      exact this : Calls Tryz.prog 49 #[.agg #[.int .i64 y4,.string y5]] w6 fun e w' => e = .returned (.int .i64 KT) ∧ Below w6.heap.size w6 w')
     have hk0 : KT ≠ 0 := by
      rw [← hKT]
      obtain ⟨h1,h2⟩ := HK4.out
      unfold kindT
      by_cases g1 : y4 = 1 ∨ y4 = 2 ∨ y4 = 3 ∨ y4 = 6
      ·rw [if_pos g1]; decide
      ·rw [if_neg g1]
       by_cases g2 : y4 = 4 ∨ y4 = 5
       ·rw [if_pos g2]; decide
       ·rw [if_neg g2,if_pos (by omega)]; decide
     have hzl : zeroL ⟨y1,y2,1,y4,y5⟩ = [⟨KT,0,⟨#[]⟩,[],[]⟩] := by
      show (if (1 : Int) = 1 ∧ kindT y4 ≠ 0 then [(⟨kindT y4,0,⟨#[]⟩,[],[]⟩ : Tr)] else []) = _
      rw [if_pos ⟨rfl,by rw [hKT]; exact hk0⟩,hKT]
     have h64 : Is64 KT := by rw [← hKT]; exact kindT_64 y4
     rw [hzl] at HG
     have H64 : Hid (Is64 KT) := h64
     clear hKT hzl hk0 h64
     go_wp2_with fail
     refine HKC.out.mono ?_
     rintro e w7 ⟨rfl,hb7⟩
     have hbw7 : Below w.heap.size w w7 := hbw6.trans (hb7.mono hbw6.size)
     have hbw8 : Below w.heap.size w (w7.alloc (Obj.cells #[.int .i64 KT,.int .i64 0,.string ⟨#[]⟩,.slice none 0 0,.slice none 0 0] 30)) := hbw7.alloc hbw7.size _
     have B8 : Blk (w7.alloc (Obj.cells #[.int .i64 KT,.int .i64 0,.string ⟨#[]⟩,.slice none 0 0,.slice none 0 0] 30)) w7.heap.size #[.int .i64 KT,.int .i64 0,.string ⟨#[]⟩,.slice none 0 0,.slice none 0 0] 30 := Blk.new w7 _ _
     have HF : Hid (TrsIn (n + 1) (w7.alloc (Obj.cells #[.int .i64 KT,.int .i64 0,.string ⟨#[]⟩,.slice none 0 0,.slice none 0 0] 30)) (.slice (some ⟨w7.heap.size,0,none⟩) 1 1) [⟨KT,0,⟨#[]⟩,[],[]⟩]) := ⟨[[.int .i64 KT,.int .i64 0,.string ⟨#[]⟩,.slice none 0 0,.slice none 0 0]],(RowG.own (B := 0) (e := 30) (n := 1) (fun r hr => by simp at hr; subst hr; rfl) (by decide) ⟨rfl,.inr ⟨_,1,_,rfl,Nat.zero_le _,B8,Nat.le_refl _,by decide,rfl,rfl⟩⟩).1,rfl,fun i x hx => by
      match i,hx with
      | 0,hx => simp at hx; subst hx; exact ⟨_,rfl,_,_,rfl,H64.out,⟨(by show (-9223372036854775808 : Int) ≤ 0; decide),(by show (0 : Int) ≤ 9223372036854775807; decide)⟩,(by show (⟨#[]⟩ : ByteArray).size ≤ 140737488351232; decide),(fun f hf => by cases hf),RowG.nil _ _,RowP.nil _ _ _⟩
      | i + 1,hx => simp at hx⟩
     clear hb7 hbw6 hbw7 B8 fc2 fc3 fc4 HKC
     go_wp2_with fail
     go_ret2
     exact ⟨_,by rw [HG.out]; rfl,by rw [HG.out]; exact HF.out,hbw8⟩
end
end Go.Proofs.YtfnjbbaphmmjlaaGreat
