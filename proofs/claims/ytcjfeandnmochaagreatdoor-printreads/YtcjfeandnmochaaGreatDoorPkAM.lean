/- Part 13 of what the proof stands on. -/
import Derived.Test.YtcjfeandnmochaaGreatDoorPkAL
import Derived.Shelf.Strings.BuilderK
import Derived.Lib.ItoaLen
import Derived.Sort.Grow
namespace Go.Proofs.YtcjfeandnmochaaGreatDoor
open Go.ChangeShapes Go.WideShapes Go.ChangeAt Go.RowKit Go.Maps
set_option linter.unusedVariables false
set_option linter.unusedSimpArgs false
set_option maxRecDepth 20000
theorem FewS.sm {s : ScS} (h : FewS s) : ∀ m ∈ s.msgs, m.name.size ≤ 20000 ∧ ∀ f ∈ m.fields, f.name.size ≤ 20000 := fun m hm => by
 have h1 := h.eachM m hm
 refine ⟨by have := h1.1; omega, fun f hf => ?_⟩
 have h2 := (h1.2.2.2 f hf)
 unfold flFew at h2
 omega
theorem FewS.sn {s : ScS} (h : FewS s) : ∀ m ∈ s.enums, m.name.size ≤ 20000 ∧ ∀ f ∈ m.values, f.name.size ≤ 20000 := fun m hm => by
 have h1 := h.eachE m hm
 refine ⟨by have := h1.1; omega, fun f hf => ?_⟩
 have h2 := (h1.2.2 f hf)
 unfold nmFew at h2
 omega
structure MayS (s : ScS) : Prop where
 may : MayL s
 name : s.name.size ≤ 20000
 sm : ∀ m ∈ s.msgs, m.name.size ≤ 20000 ∧ ∀ f ∈ m.fields, f.name.size ≤ 20000
 sn : ∀ m ∈ s.enums, m.name.size ≤ 20000 ∧ ∀ f ∈ m.values, f.name.size ≤ 20000
 st : ∀ m ∈ s.methods, m.name.size ≤ 20000
set_option maxHeartbeats 8000000 in
theorem rcheck_may {w : World} {v : Value} {s : ScS} (hr : ScIn w v s) (hfs : MayS s) :
  Calls Tryz.prog 14 #[v] w fun e w' => e = .returned (.int .i64 (checkA s)) ∧ Below w.heap.size w w' := by
 obtain ⟨vm0, ve0, vt0, rfl, hm, he, ht⟩ := hr
 obtain ⟨am, cm, rfl, qm1, qm2⟩ := hm.form2
 obtain ⟨ae, ce, rfl, qe1, qe2⟩ := he.form2
 obtain ⟨at', ct, rfl, qt1, qt2⟩ := ht.form2
 have hTl : (mtRows s.methods).length = s.methods.length := by simp [mtRows]
 rw [hTl] at ht qt1 ⊢
 obtain ⟨M, hM⟩ : ∃ N, s.msgs.length = N := ⟨_, rfl⟩
 obtain ⟨E, hE⟩ : ∃ N, s.enums.length = N := ⟨_, rfl⟩
 obtain ⟨T, hT⟩ : ∃ N, s.methods.length = N := ⟨_, rfl⟩
 obtain ⟨nm, hnm⟩ : ∃ N, s.name = N := ⟨_, rfl⟩
 rw [hM] at hm qm1 ⊢
 rw [hE] at he qe1 ⊢
 rw [hT] at ht qt1 ⊢
 rw [hnm]
 have HM : Hid (MsIn w (.slice am M cm) s.msgs) := hm
 have HE : Hid (EnIn w (.slice ae E ce) s.enums) := he
 have HTR : Hid (RowG w (.slice at' T ct) 3 (mtRows s.methods)) := ht
 have HLM : Hid (s.msgs.length = M) := hM
 have HLE : Hid (s.enums.length = E) := hE
 have HLT : Hid (s.methods.length = T) := hT
 have HNM : Hid (s.name = nm) := hnm
 have HF : Hid (MayS s) := hfs
 have hM14 : M ≤ 30000 := by have := hfs.may.msgs; omega
 have hE10 : E ≤ 30000 := by have := hfs.may.enums; omega
 have hT10 : T ≤ 30000 := by have := hfs.may.meths; omega
 have hns : nm.size ≤ 20000 := by have := hfs.name; rw [hnm] at this; omega
 clear hm he ht hM hE hT hnm hfs hTl
 obtain ⟨A, hA⟩ : ∃ A, checkA s = A := ⟨_, rfl⟩
 rw [hA]
 have HA : Hid (A = checkA s) := hA.symm
 clear hA
 have hba : Below w.heap.size w (w.alloc (.cells #[.string nm, .slice am M cm, .slice ae E ce, .slice at' T ct] 27)) := (Below.refl _ _).alloc (Nat.le_refl _) _
 have BX0 := Blk.new w #[.string nm, .slice am M cm, .slice ae E ce, .slice at' T ct] 27
 go_enter Tryz.func14, Tryz.ntmps14
 go_wp2_with fail
 refine (rfname_any nm _ hns).mono ?_
 rintro e w1 ⟨rfl, hb1⟩
 have hbw1 : Below w.heap.size w w1 := hba.trans (hb1.mono hba.size)
 have BX1 := BX0.below hb1
 clear hb1 hba BX0
 cases hn : nameB nm with
 | false =>
  have HA2 : Hid (A = 6) := by show _ = _; rw [HA.out]; unfold checkA wholeA; rw [HNM.out, if_pos hn]; rfl
  clear HA hn
  go_wp2_with fail
  go_ret
  exact ⟨ret_e HA2.out.symm, hbw1⟩
 | true =>
  have c0 : w1.cell? ⟨w.heap.size, 0, none⟩ = some (.string nm) := BX1.cell 0
  have c1 : w1.cell? ⟨w.heap.size, 1, none⟩ = some (.slice am M cm) := BX1.cell 1
  have c2 : w1.cell? ⟨w.heap.size, 2, none⟩ = some (.slice ae E ce) := BX1.cell 2
  have c3 : w1.cell? ⟨w.heap.size, 3, none⟩ = some (.slice at' T ct) := BX1.cell 3
  by_cases hM0 : M = 0
  ·have HA2 : Hid (A = 12) := by show _ = _; rw [HA.out]; unfold checkA wholeA; rw [HNM.out, if_neg (by rw [hn]; decide), if_pos (by rw [HLM.out]; exact hM0)]; rfl
   clear HA hn
   subst hM0
   go_wp2_with fail
   go_ret
   exact ⟨ret_e HA2.out.symm, hbw1⟩
  by_cases hbig : 10 < M
  ·have HA2 : Hid (A = 4) := by show _ = _; rw [HA.out]; unfold checkA wholeA; rw [HNM.out, if_neg (by rw [hn]; decide), if_neg (by rw [HLM.out]; exact hM0), if_pos (by unfold bigS; rw [HLM.out, decide_eq_true (.inl hbig)])]; rfl
   clear HA hn
   go_wp2_with fail
   go_ret
   exact ⟨ret_e HA2.out.symm, hbw1⟩
  by_cases hbig2 : 6 < E
  ·have HA2 : Hid (A = 4) := by show _ = _; rw [HA.out]; unfold checkA wholeA; rw [HNM.out, if_neg (by rw [hn]; decide), if_neg (by rw [HLM.out]; exact hM0), if_pos (by unfold bigS; rw [HLE.out, decide_eq_true (.inr (.inl hbig2))])]; rfl
   clear HA hn
   go_wp2_with fail
   go_ret
   exact ⟨ret_e HA2.out.symm, hbw1⟩
  by_cases hbig3 : 6 < T
  ·have HA2 : Hid (A = 4) := by show _ = _; rw [HA.out]; unfold checkA wholeA; rw [HNM.out, if_neg (by rw [hn]; decide), if_neg (by rw [HLM.out]; exact hM0), if_pos (by unfold bigS; rw [HLT.out, decide_eq_true (.inr (.inr hbig3))])]; rfl
   clear HA hn
   go_wp2_with fail
   go_ret
   exact ⟨ret_e HA2.out.symm, hbw1⟩
  obtain ⟨X, hX⟩ : ∃ X, partsA s = X := ⟨_, rfl⟩
  have HA2 : Hid (A = orE X (chkTs s.mn ((s.methods.take 0).map MtS.name) (s.methods.drop 0))) := by
   show _ = _
   rw [HA.out]; unfold checkA wholeA
   rw [HNM.out, if_neg (by rw [hn]; decide), if_neg (by rw [HLM.out]; exact hM0), if_neg (by unfold bigS; rw [HLM.out, HLE.out, HLT.out, decide_eq_false (by omega)]; decide), orE_zero, hX]
   rfl
  have HP : Hid (∀ W, Below w.heap.size w W → Calls Tryz.prog 41 #[.agg #[.string nm, .slice am M cm, .slice ae E ce, .slice at' T ct]] W fun e W' => e = .returned (.int .i64 X) ∧ Below W.heap.size W W') := fun W hW => by
   rw [← hX]
   exact rparts_any (HM.out.below hW) (HE.out.below hW) HLM.out HLE.out hM14 hE10 HF.out.may.flds HF.out.may.vals HF.out.sm HF.out.sn
  clear HA hX hn
  go_wp2_with fail
  clear c0 c1 c2 c3
  refine (HP.out w1 hbw1).mono ?_
  rintro e w2 ⟨rfl, hb2⟩
  have hbw2 : Below w.heap.size w w2 := hbw1.trans (hb2.mono hbw1.size)
  have BX2 := BX1.below hb2
  clear hb2 hbw1 BX1 HP
  by_cases hX0 : X = 0
  case neg =>
   have HA3 : Hid (A = X) := by show _ = _; rw [HA2.out, orE_ne hX0]
   have hq : (X == 0) = false := by rw [beq_eq_false_iff_ne]; exact hX0
   clear HA2 hX0
   go_wp2_with fail
   go_ret
   exact ⟨ret_e HA3.out.symm, hbw2⟩
  subst hX0
  have HA3 : Hid (A = chkTs s.mn ((s.methods.take 0).map MtS.name) (s.methods.drop 0)) := by show _ = _; rw [HA2.out, orE_zero]
  have HS0 : Hid (Seen w2 w.heap.size (.slice none 0 0) ((s.methods.take 0).map MtS.name)) := Seen.nil _ _
  clear HA2
  go_wp2_with fail
  go_loopw [4, 5] (fun nv iv wr => ∃ (k : Nat) (sa : Option Addr) (sc : Nat), nv = .slice sa k sc ∧ iv = .int .i64 (k : Int) ∧ k ≤ T ∧ Hid (A = chkTs s.mn ((s.methods.take k).map MtS.name) (s.methods.drop k)) ∧ Hid (Seen wr w.heap.size (.slice sa k sc) ((s.methods.take k).map MtS.name)) ∧ Below w.heap.size w wr ∧ Blk wr w.heap.size #[.string nm, .slice am M cm, .slice ae E ce, .slice at' T ct] 27) (fun _ iv _ => T - (intOf iv).toNat)
  case atStart => exact ⟨0, none, 0, rfl, rfl, by omega, HA3, HS0, hbw2, BX2⟩
  case round =>
   clear HA3 HS0 hbw2 BX2
   obtain ⟨k, sa, sc, rfl, rfl, hk, HAk, HSE, hbel, BX⟩ := hrel
   have x3 : wr.cell? ⟨w.heap.size, 3, none⟩ = some (.slice at' T ct) := BX.cell 3
   by_cases hlt : k < T
   ·obtain ⟨m, hm⟩ : ∃ x, s.methods[k]? = some x := ⟨_, List.getElem?_eq_getElem (by rw [HLT.out]; exact hlt)⟩
    have hsz := HF.out.st m (List.mem_of_getElem? hm)
    obtain ⟨m0, m1, m2⟩ := m
    simp only at hsz
    have hfr : (mtRows s.methods)[k]? = some [.string m0, .string m1, .string m2] := by simp [mtRows, MtS.cells, hm]
    obtain ⟨g, off, rfl, hcs⟩ := HTR.out.get hfr
    have C0 := hcs 0 _ rfl
    have C1 := hcs 1 _ rfl
    have C2 := hcs 2 _ rfl
    simp only [Nat.add_zero] at C0 C1 C2
    have HTK : Hid ((s.methods.take (k + 1)).map MtS.name = (s.methods.take k).map MtS.name ++ [m0]) := by show _ = _; rw [List.take_add_one, hm]; simp
    obtain ⟨al, hal⟩ : ∃ al, (s.methods.take k).map MtS.name = al := ⟨_, rfl⟩
    rw [hal] at HAk HSE HTK
    have HAL : Hid (al.length = k) := by show _ = _; rw [← hal, List.length_map, List.length_take, HLT.out]; omega
    have HA2 : Hid (A = if freshB m0 al = false then 6 else if (memB m1 s.mn && memB m2 s.mn) = false then 8 else chkTs s.mn (al ++ [m0]) (s.methods.drop (k + 1))) := by
     show _ = _
     rw [HAk.out, drop_at hm]; rfl
    have p0 : wr.cell? ⟨g, off + k * 3, none⟩ = some (.string m0) := (hbel.cell (World.block_lt_of_cell? _ _ C0)).trans C0
    have p1 : wr.cell? ⟨g, off + k * 3 + 1, none⟩ = some (.string m1) := (hbel.cell (World.block_lt_of_cell? _ _ C1)).trans C1
    have p2 : wr.cell? ⟨g, off + k * 3 + 2, none⟩ = some (.string m2) := (hbel.cell (World.block_lt_of_cell? _ _ C2)).trans C2
    have ha : Below wr.heap.size wr (wr.alloc (.cells #[.string m0, .string m1, .string m2] 46)) := (Below.refl _ _).alloc (Nat.le_refl _) _
    have BV := Blk.new wr #[.string m0, .string m1, .string m2] 46
    clear C0 C1 C2 hcs hfr hm hal HAk
    go_wp2_with fail
    clear x3 p0 p1 p2
    refine (rfresh_any m0 (by omega) (HSE.out.below ha).row).mono ?_
    rintro e w1 ⟨rfl, hb1⟩
    have hbw1 : Below w.heap.size w w1 := (hbel.trans (ha.mono hbel.size)).trans (hb1.mono (hbel.trans (ha.mono hbel.size)).size)
    have HS1 : Hid (Seen w1 w.heap.size (.slice sa k sc) al) := (HSE.out.below ha).below hb1
    have BX1 := (BX.below ha).below hb1
    have BV1 := BV.below hb1
    clear BV ha hb1 HSE
    cases hfr : freshB m0 al with
    | false =>
     have HA4 : Hid (A = 6) := by show _ = _; rw [HA2.out, if_pos hfr]
     clear HA2
     go_wp2_with fail
     go_ret
     exact ⟨ret_e HA4.out.symm, hbw1⟩
    | true =>
     have HA4 : Hid (A = if (memB m1 s.mn && memB m2 s.mn) = false then 8 else chkTs s.mn (al ++ [m0]) (s.methods.drop (k + 1))) := by show _ = _; rw [HA2.out, if_neg (by rw [hfr]; decide)]
     clear HA2 hfr
     obtain ⟨bv, hbv⟩ : ∃ n, wr.heap.size = n := ⟨_, rfl⟩
     rw [hbv] at BV1 ⊢
     clear hbv hbel BX
     have v0 : w1.cell? ⟨bv, 0, none⟩ = some (.string m0) := BV1.cell 0
     go_wp2_with (first
      | (at_builtin; refine wpList_seen (al := al) (x := m0) rfl _ _ rfl rfl rfl HS1.out ?c1 ?c2 ?_)
      | fail)
     case c1 => exact hbw1.size
     case c2 => rw [HAL.out]; omega
     intro v' w2 hS2 hK2 hB2
     obtain ⟨ta, tc, rfl⟩ := hS2.form
     have hl2 : (al ++ [m0]).length = k + 1 := by rw [List.length_append, HAL.out]; rfl
     rw [hl2] at hS2 ⊢
     have HS2 : Hid (Seen w2 w.heap.size (.slice ta (k + 1) tc) (al ++ [m0])) := hS2
     have HAL2 : Hid ((al ++ [m0]).length = k + 1) := hl2
     have hb2 : Below w.heap.size w w2 := hbw1.trans hB2
     have BX2 := BX1.kp hK2 (fun e => absurd (own_type HS1.out e BX1) (by decide))
     have BV2 := BV1.kp hK2 (fun e => absurd (own_type HS1.out e BV1) (by decide))
     clear v0 hS2 hl2 hK2 hB2 BX1 BV1 HS1 hbw1 HAL
     have b0 : (w2).cell? ⟨w.heap.size, 0, none⟩ = some (.string nm) := BX2.cell 0
     have b1 : (w2).cell? ⟨w.heap.size, 1, none⟩ = some (.slice am M cm) := BX2.cell 1
     have b2 : (w2).cell? ⟨w.heap.size, 2, none⟩ = some (.slice ae E ce) := BX2.cell 2
     have b3 : (w2).cell? ⟨w.heap.size, 3, none⟩ = some (.slice (some ⟨g, off, none⟩) T ct) := BX2.cell 3
     have b4 : (w2).cell? ⟨bv, 1, none⟩ = some (.string m1) := BV2.cell 1
     go_wp2_with fail
     refine (r7message_any (HM.out.below hb2)).mono ?_
     rintro e wv ⟨vf, vr, rfl, h1, h2, hb⟩
     rw [find_mn]
     obtain ⟨ya, yc, rfl, _, _⟩ := h1.form2
     obtain ⟨yd, ye, rfl, _, _⟩ := h2.form2
     generalize ((s.msgs.find? fun x => decide (x.name = m1)).getD zeroM).name = yn at *
     generalize (flRows ((s.msgs.find? fun x => decide (x.name = m1)).getD zeroM).fields).length = yF at *
     generalize (inRows ((s.msgs.find? fun x => decide (x.name = m1)).getD zeroM).reserved).length = yR at *
     have ha : Below wv.heap.size wv (wv.alloc (.cells #[.string yn, .slice ya yF yc, .slice yd yR ye] 40)) := (Below.refl _ _).alloc (Nat.le_refl _) _
     have hbwv : Below w.heap.size w (wv.alloc (.cells #[.string yn, .slice ya yF yc, .slice yd yR ye] 40)) := (hb2.trans (hb.mono hb2.size)).trans (ha.mono (hb2.trans (hb.mono hb2.size)).size)
     have BXwv := (BX2.below hb).below ha
     have BVwv := (BV2.below hb).below ha
     have HSwv : Hid (Seen (wv.alloc (.cells #[.string yn, .slice ya yF yc, .slice yd yR ye] 40)) w.heap.size (.slice ta (k + 1) tc) (al ++ [m0])) := Seen.below (Seen.below HS2.out hb) ha
     obtain ⟨yB, hyB⟩ : ∃ B, memB m1 (s.msgs.map MsS.name) = B := ⟨_, rfl⟩
     rw [hyB]
     have HyB : Hid (memB m1 s.mn = yB) := hyB
     clear b0 b1 b2 b3 b4 h1 h2 hb hb2 BX2 BV2 ha hyB
     have b0 : (wv.alloc (.cells #[.string yn, .slice ya yF yc, .slice yd yR ye] 40)).cell? ⟨w.heap.size, 0, none⟩ = some (.string nm) := BXwv.cell 0
     have b1 : (wv.alloc (.cells #[.string yn, .slice ya yF yc, .slice yd yR ye] 40)).cell? ⟨w.heap.size, 1, none⟩ = some (.slice am M cm) := BXwv.cell 1
     have b2 : (wv.alloc (.cells #[.string yn, .slice ya yF yc, .slice yd yR ye] 40)).cell? ⟨w.heap.size, 2, none⟩ = some (.slice ae E ce) := BXwv.cell 2
     have b3 : (wv.alloc (.cells #[.string yn, .slice ya yF yc, .slice yd yR ye] 40)).cell? ⟨w.heap.size, 3, none⟩ = some (.slice (some ⟨g, off, none⟩) T ct) := BXwv.cell 3
     have b4 : (wv.alloc (.cells #[.string yn, .slice ya yF yc, .slice yd yR ye] 40)).cell? ⟨bv, 2, none⟩ = some (.string m2) := BVwv.cell 2
     go_wp2_with fail
     refine (r7message_any (HM.out.below hbwv)).mono ?_
     rintro e wx ⟨vf, vr, rfl, h1, h2, hb⟩
     rw [find_mn]
     obtain ⟨za, zc, rfl, _, _⟩ := h1.form2
     obtain ⟨zd, ze, rfl, _, _⟩ := h2.form2
     generalize ((s.msgs.find? fun x => decide (x.name = m2)).getD zeroM).name = zn at *
     generalize (flRows ((s.msgs.find? fun x => decide (x.name = m2)).getD zeroM).fields).length = zF at *
     generalize (inRows ((s.msgs.find? fun x => decide (x.name = m2)).getD zeroM).reserved).length = zR at *
     have ha : Below wx.heap.size wx (wx.alloc (.cells #[.string zn, .slice za zF zc, .slice zd zR ze] 40)) := (Below.refl _ _).alloc (Nat.le_refl _) _
     have hbwx : Below w.heap.size w (wx.alloc (.cells #[.string zn, .slice za zF zc, .slice zd zR ze] 40)) := (hbwv.trans (hb.mono hbwv.size)).trans (ha.mono (hbwv.trans (hb.mono hbwv.size)).size)
     have BXwx := (BXwv.below hb).below ha
     have BVwx := (BVwv.below hb).below ha
     have HSwx : Hid (Seen (wx.alloc (.cells #[.string zn, .slice za zF zc, .slice zd zR ze] 40)) w.heap.size (.slice ta (k + 1) tc) (al ++ [m0])) := Seen.below (Seen.below HSwv.out hb) ha
     obtain ⟨zB, hzB⟩ : ∃ B, memB m2 (s.msgs.map MsS.name) = B := ⟨_, rfl⟩
     rw [hzB]
     have HzB : Hid (memB m2 s.mn = zB) := hzB
     clear b0 b1 b2 b3 b4 h1 h2 hb hbwv BXwv BVwv ha hzB
     cases yB with
     | false =>
      have HA5 : Hid (A = 8) := by show _ = _; rw [HA4.out, if_pos (by rw [HyB.out]; rfl)]
      clear HA4
      go_wp2_with fail
      go_ret
      exact ⟨ret_e HA5.out.symm, hbwx⟩
     | true =>
      cases zB with
      | false =>
       have HA5 : Hid (A = 8) := by show _ = _; rw [HA4.out, if_pos (by rw [HyB.out, HzB.out]; rfl)]
       clear HA4
       go_wp2_with fail
       go_ret
       exact ⟨ret_e HA5.out.symm, hbwx⟩
      | true =>
       have HA5 : Hid (A = chkTs s.mn ((s.methods.take (k + 1)).map MtS.name) (s.methods.drop (k + 1))) := by show _ = _; rw [HA4.out, if_neg (by rw [HyB.out, HzB.out]; decide), HTK.out]
       have HS4 : Hid (Seen (wx.alloc (.cells #[.string zn, .slice za zF zc, .slice zd zR ze] 40)) w.heap.size (.slice ta (k + 1) tc) ((s.methods.take (k + 1)).map MtS.name)) := by show Seen _ _ _ _; rw [HTK.out]; exact HSwx.out
       clear HA4
       go_wp2_with fail
       go_roundw
       case rel => exact ⟨k + 1, ta, tc, rfl, by go_num, by omega, HA5, HS4, hbwx, BXwx⟩
       case measure => simp [intOf]; omega
   ·have HA3 : Hid (A = 0) := by show _ = _; rw [HAk.out, drop_end (by rw [HLT.out]; omega)]; rfl
    clear HAk
    go_wp2_with fail
    go_ret
    exact ⟨ret_e HA3.out.symm, hbel⟩
end Go.Proofs.YtcjfeandnmochaaGreatDoor
namespace Go.Proofs.YtcjfeandnmochaaGreatDoor
open Go.ChangeShapes Go.WideShapes Go.ChangeAt Go.RowKit
set_option linter.unusedVariables false
set_option linter.unusedSimpArgs false
set_option maxRecDepth 20000
structure Pg (w0 : World) (b : Nat) (bs : List UInt8) (w : World) : Prop where
 bel : Below w0.heap.size w0 w
 low : w0.heap.size ≤ b
 row : ∃ p v, (p = .pointer none ∨ p = .pointer (some ⟨b, 0, none⟩)) ∧ Blk w b #[p, v] 52 ∧ w.ownsRow w0.heap.size 5 1 v bs.length (Lib.byteCells bs)
def Ot (b : Nat) (w w' : World) : Prop := Lib.OthersKept 5 (some b) w w'
theorem Ot.refl (b : Nat) (w : World) : Ot b w w := Lib.OthersKept.refl _ _ _
theorem Ot.trans {b : Nat} {w w1 w2 : World} (h : Ot b w w1) (k : Ot b w1 w2) : Ot b w w2 := Lib.OthersKept.trans h k
theorem Ot.ofBelow {b : Nat} {w w1 : World} (h : Below w.heap.size w w1) : Ot b w w1 := fun k o hk _ _ => (h.block k (Array.getElem?_eq_some_iff.1 hk).1).trans hk
theorem Ot.blk {b k : Nat} {w w1 : World} {cs : Array Value} {t : TypeId} (h : Ot b w w1) (hb : Blk w k cs t) (hk : k ≠ b) (ht : t ≠ 5) : Blk w1 k cs t :=
 h k _ hb (fun e => hk (by simpa using e)) (fun c fz e => ht (by simp at e; exact e.2.1))
theorem Pg.below {w0 w w1 : World} {b : Nat} {bs : List UInt8} (h : Pg w0 b bs w) (hb : Below w.heap.size w w1) : Pg w0 b bs w1 := by
 obtain ⟨p, v, h1, h2, h3⟩ := h.row
 exact ⟨h.bel.trans (hb.mono h.bel.size), h.low, p, v, h1, h2.below hb, own_below h3 hb⟩
theorem Pg.lt {w0 w : World} {b : Nat} {bs : List UInt8} (h : Pg w0 b bs w) : b < w.heap.size := by
 obtain ⟨p, v, h1, h2, h3⟩ := h.row
 exact h2.lt
theorem Pg.new {w0 w : World} (hb : Below w0.heap.size w0 w) : Pg w0 w.heap.size [] (w.alloc (.cells #[.pointer none, .slice none 0 0] 52)) :=
 ⟨hb.alloc hb.size _, hb.size, .pointer none, .slice none 0 0, .inl rfl, Blk.new _ _ _, World.ownsRow_nil _ _ _ _⟩
theorem sizeBld : (Tryz.prog.info? 50).map (·.size) = some 2 := by kernel_rfl
theorem infoU8 : (Tryz.prog.info? 5).map (fun i => (i.zero, i.size, i.bytes)) = some (some (.int .u8 0), 1, 1) := by kernel_rfl
theorem liesPage : liesAt Tryz.prog Tryz.prog.depth 52 (2 / Tryz.prog.cellsOf 52) 0 50 1 = true := by kernel_rfl
set_option maxHeartbeats 1000000 in
theorem pgUsed_any {b : Nat} {w : World} (h0 : w.cell? ⟨b, 0, none⟩ = some (.pointer (some ⟨b, 0, none⟩))) :
  Calls Tryz.prog 90 #[.pointer (some ⟨b, 0, none⟩)] w fun e w' => e = .returned (.tuple #[]) ∧ w' = w := by
 obtain ⟨j, hj, _⟩ := Option.map_eq_some_iff.1 sizeBld
 go_enter Tryz.func90, Tryz.ntmps90
 go_wp2_with fail
 rw [Lib.run_neq_ptr_same w _ Tryz.underlying47 hj]
 go_wp2_with fail
 go_end0
 exact ⟨rfl, rfl⟩
set_option maxHeartbeats 1000000 in
theorem pgFresh_any {b : Nat} {w : World} (h0 : w.cell? ⟨b, 0, none⟩ = some (.pointer none)) (hsh : w.shape? b = some (52, 2)) (hfz : w.frozen? ⟨b, 0, none⟩ = false) :
  Calls Tryz.prog 90 #[.pointer (some ⟨b, 0, none⟩)] w fun e w' => e = .returned (.tuple #[]) ∧ w' = w.setCell ⟨b, 0, none⟩ (.pointer (some ⟨b, 0, none⟩)) := by
 obtain ⟨j, hj, hjs⟩ := Option.map_eq_some_iff.1 sizeBld
 go_enter Tryz.func90, Tryz.ntmps90
 go_wp2_with fail
 rw [Lib.run_to_unsafe w ⟨b, 0, none⟩ Tryz.underlying47 Tryz.underlying172 hj (by rw [hjs]; decide) hsh (Nat.zero_lt_succ 1)]
 simp only [Result.andThen]
 rw [Oper.upon_value]
 go_wp2_with fail
 rw [run_callFunc_extern Tryz.func125 (by kernel_rfl) (by kernel_rfl) (by kernel_rfl) (e := Extern.AbiNoEscape.same) (by kernel_rfl)]
 rw [Lib.run_noEscape]
 simp only [Result.andThen]
 rw [Oper.upon_value]
 go_wp2_with fail
 rw [Lib.run_from_unsafe w ⟨b, 0, none⟩ Tryz.underlying172 Tryz.underlying47 hj hsh liesPage]
 simp only [Result.andThen]
 rw [Oper.upon_value]
 go_wp2_with fail
 go_end0
 exact ⟨rfl, rfl⟩
def Pu (w0 : World) (b : Nat) (bs : List UInt8) (v : Value) (w : World) : Prop :=
 Below w0.heap.size w0 w ∧ w0.heap.size ≤ b ∧ Blk w b #[.pointer (some ⟨b, 0, none⟩), v] 52 ∧ w.ownsRow w0.heap.size 5 1 v bs.length (Lib.byteCells bs)
theorem Pu.pg {w0 : World} {b : Nat} {bs : List UInt8} {v : Value} {w : World} (h : Pu w0 b bs v w) : Pg w0 b bs w := ⟨h.1, h.2.1, _, v, .inr rfl, h.2.2.1, h.2.2.2⟩
theorem ot_set {b : Nat} {w w' : World} (h : Kp (fun k => k = b) w w') : Ot b w w' := fun k o hk hne _ => (h.block k (Array.getElem?_eq_some_iff.1 hk).1 (fun e => hne (by rw [e]))).trans hk
theorem own_type8 {w : World} {B : Nat} {v : Value} {n : Nat} {xs : List Value} {k : Nat} {cs : Array Value} {t : TypeId} (h : w.ownsRow B 5 1 v n xs) (hb : Blk w k cs t) (ht : t ≠ 5) : ¬ v.ownBlock = some k := by
 intro hk
 rcases h.2 with ⟨rfl, _⟩ | ⟨q, cap, cur, rfl, _, hq, _⟩
 ·cases hk
 ·simp only [Value.ownBlock, Option.some.injEq] at hk
  subst hk
  unfold Blk at hb
  rw [hq] at hb
  simp only [Option.some.injEq, Obj.cells.injEq] at hb
  exact ht hb.2.1.symm
theorem pgCheck_any {w0 w : World} {b : Nat} {bs : List UInt8} (h : Pg w0 b bs w) :
  Calls Tryz.prog 90 #[.pointer (some ⟨b, 0, none⟩)] w fun e w' => e = .returned (.tuple #[]) ∧ (∃ v, Pu w0 b bs v w') ∧ Ot b w w' := by
 obtain ⟨p, v, rfl | rfl, h2, h3⟩ := h.row
 ·refine (pgFresh_any (h2.cell 0) (by unfold Blk at h2; simp [World.shape?, h2]) (h2.froz 0)).mono ?_
  rintro e w' ⟨rfl, rfl⟩
  have hk : Kp (fun k => k = b) w (w.setCell ⟨b, 0, none⟩ (.pointer (some ⟨b, 0, none⟩))) := Kp.setCell (S := fun k => k = b) (Kp.refl _ w) (p := ⟨b, 0, none⟩) (fun _ => rfl) _
  refine ⟨rfl, ⟨v, h.bel.trans (hk.toBelow h.bel.size (fun k e => by subst e; exact h.low)), h.low, h2.set 0 _ rfl, own_kpV h3 hk (fun k hv e => by subst e; exact own_type8 h3 h2 (by decide) hv)⟩, ot_set hk⟩
 ·refine (pgUsed_any (h2.cell 0)).mono ?_
  rintro e w' ⟨rfl, rfl⟩
  exact ⟨rfl, ⟨v, h.bel, h.low, h2, h3⟩, Ot.refl _ _⟩
theorem pu_put {w0 w w2 : World} {b : Nat} {bs : List UInt8} {v v' : Value} (h : Pu w0 b bs v w) (bs' : List UInt8) (hown : w2.ownsRow w0.heap.size 5 1 v' bs'.length (Lib.byteCells bs')) (hg : w.grownBy w2 v.ownBlock) :
  Blk w2 b #[.pointer (some ⟨b, 0, none⟩), v] 52 ∧ Pu w0 b bs' v' (w2.setCell ⟨b, 1, none⟩ v') ∧ Ot b w (w2.setCell ⟨b, 1, none⟩ v') := by
 obtain ⟨h1, h2, h3, h4⟩ := h
 have hnb : ¬ v.ownBlock = some b := own_type8 h4 h3 (by decide)
 have hb2 : Blk w2 b #[.pointer (some ⟨b, 0, none⟩), v] 52 := (hg.block b h3.lt (fun e => hnb e.symm)).trans h3
 have hk : Kp (fun k => k = b) w2 (w2.setCell ⟨b, 1, none⟩ v') := Kp.setCell (S := fun k => k = b) (Kp.refl _ w2) (p := ⟨b, 1, none⟩) (fun _ => rfl) _
 have hbel : Below w0.heap.size w0 w2 := h1.grown hg h1.size (fun k hk => (h4.lt k hk).1)
 refine ⟨hb2, ⟨hbel.trans (hk.toBelow hbel.size (fun k e => by subst e; exact h2)), h2, hb2.set 1 _ rfl, own_kpV hown hk (fun k hv e => by subst e; exact own_type8 hown hb2 (by decide) hv)⟩, ?_⟩
 refine Ot.trans (w1 := w2) ?_ (ot_set hk)
 intro k o hko hne hn
 have hlt := (Array.getElem?_eq_some_iff.1 hko).1
 refine (hg.block k hlt (fun e => ?_)).trans hko
 rcases h4.2 with ⟨rfl, _⟩ | ⟨q, cap, cur, rfl, _, hq, _⟩
 ·cases e
 ·simp only [Value.ownBlock, Option.some.injEq] at e
  subst e
  rw [hq] at hko
  exact hn _ _ (Option.some.inj hko).symm
set_option maxHeartbeats 2000000 in
theorem pgStr_any {w0 w : World} {b : Nat} {bs : List UInt8} (s : ByteArray) (h : Pg w0 b bs w) (hlen : bs.length + s.size ≤ 1000000000) :
  Calls Tryz.prog 45 #[.pointer (some ⟨b, 0, none⟩), .string s] w fun e w' => e = .returned (.tuple #[.int .i64 s.size, .nilIface]) ∧ Pg w0 b (bs ++ s.data.toList) w' ∧ Ot b w w' := by
 obtain ⟨i0, hi, hz0, hz1, hz2⟩ := info_parts infoU8
 have HP : Hid (Pg w0 b bs w) := h
 clear h
 go_enter Tryz.func45, Tryz.ntmps45
 go_wp2_with (go_at_call 90; refine (pgCheck_any HP.out).mono ?_)
 rintro e w1 ⟨rfl, ⟨v, hu⟩, ho⟩
 have c1 := (hu.2.2.1.cell 1).trans rfl
 have hown := hu.2.2.2
 have HU : Hid (Pu w0 b bs v w1) := hu
 have HO : Hid (Ot b w w1) := ho
 have hbase := hu.1.size
 clear hu ho
 go_wp2_with (at_builtin; refine Lib.wpList_append_own_string _ rfl _ _ 48 9 rfl w0.heap.size 5 i0 Tryz.underlying48 Tryz.underlying9 hi hz0 hz1 hz2 _ _ _ rfl hown s rfl ?c3 ?c4 ?c5 ?_)
 case c3 => unfold maxLen; omega
 case c4 => omega
 case c5 => exact hbase
 intro v' w2 hown' hgrow _
 have hcells : Lib.byteCells bs ++ Lib.strCells s = Lib.byteCells (bs ++ s.data.toList) := by unfold Lib.byteCells Lib.strCells; rw [List.map_append]
 have hlen2 : bs.length + s.size = (bs ++ s.data.toList).length := by rw [List.length_append, Array.length_toList]; rfl
 rw [hcells, hlen2] at hown'
 obtain ⟨hb2, hpu, hot⟩ := pu_put HU.out _ hown' hgrow
 obtain ⟨ao, cap, hv⟩ := own_form hown'
 subst hv
 have d1 := (hb2.cell 1).trans rfl
 have f1 := hb2.froz 1
 have HPU : Hid (Pg w0 b (bs ++ s.data.toList) (w2.setCell ⟨b, 1, none⟩ (.slice ao (bs ++ s.data.toList).length cap))) := hpu.pg
 have HOT : Hid (Ot b w (w2.setCell ⟨b, 1, none⟩ (.slice ao (bs ++ s.data.toList).length cap))) := HO.out.trans hot
 generalize (bs ++ s.data.toList).length = N at *
 clear hcells hlen2 hown' hgrow hpu hot hown c1
 go_wp2_with fail
 go_ret2
 exact ⟨rfl, HPU.out, HOT.out⟩
set_option maxHeartbeats 2000000 in
theorem pgByte_any {w0 w : World} {b : Nat} {bs : List UInt8} (c : UInt8) (h : Pg w0 b bs w) (hlen : bs.length + 1 ≤ 1000000000) :
  Calls Tryz.prog 46 #[.pointer (some ⟨b, 0, none⟩), .int .u8 (c.toNat : Int)] w fun e w' => e = .returned .nilIface ∧ Pg w0 b (bs ++ [c]) w' ∧ Ot b w w' := by
 obtain ⟨i0, hi, hz0, hz1, hz2⟩ := info_parts infoU8
 have HP : Hid (Pg w0 b bs w) := h
 clear h
 generalize hC : (c.toNat : Int) = C
 have HC : Hid ((c.toNat : Int) = C) := hC
 clear hC
 go_enter Tryz.func46, Tryz.ntmps46
 go_wp2_with (go_at_call 90; refine (pgCheck_any HP.out).mono ?_)
 rintro e w1 ⟨rfl, ⟨v, hu⟩, ho⟩
 have c1 := (hu.2.2.1.cell 1).trans rfl
 have hal : Below w1.heap.size w1 (w1.alloc (.cells #[.int .u8 C] 5)) := (Below.refl _ _).alloc (Nat.le_refl _) _
 have hown := own_below hu.2.2.2 hal
 have HU : Hid (Pu w0 b bs v (w1.alloc (.cells #[.int .u8 C] 5))) := ⟨hu.1.trans (hal.mono hu.1.size), hu.2.1, hu.2.2.1.below hal, hown⟩
 have HO : Hid (Ot b w (w1.alloc (.cells #[.int .u8 C] 5))) := ho.trans (Ot.ofBelow hal)
 have hbase := hu.1.size
 clear hu ho hal
 go_wp2_with (at_builtin; refine wpList_append_own _ rfl _ _ 48 rfl w0.heap.size 5 i0 (.int .u8 0) 1 1 Tryz.underlying48 hi hz0 hz1 hz2 rfl (by decide) _ _ _ rfl hown ⟨w1.heap.size, 0, none⟩ 1 1 [.int .u8 C] rfl rfl ?c1 ?c2 ?c3 ?c4 ?c5 ?_)
 case c1 =>
  intro j u hj
  match j, hj with
  | 0, hj => simp at hj; subst hj; simp [Addr.add]
 case c2 => intro u hu; simp at hu; subst hu; rfl
 case c3 => unfold maxLen; omega
 case c4 => omega
 case c5 => simp; omega
 intro v' w2 hown' hgrow _
 have hcells : Lib.byteCells bs ++ [.int .u8 C] = Lib.byteCells (bs ++ [c]) := by unfold Lib.byteCells; rw [List.map_append, ← HC.out]; rfl
 have hlen2 : bs.length + 1 = (bs ++ [c]).length := by simp
 rw [hcells, hlen2] at hown'
 obtain ⟨hb2, hpu, hot⟩ := pu_put HU.out _ hown' hgrow
 obtain ⟨ao, cap, hv⟩ := own_form hown'
 subst hv
 have d1 := (hb2.cell 1).trans rfl
 have f1 := hb2.froz 1
 have HPU : Hid (Pg w0 b (bs ++ [c]) (w2.setCell ⟨b, 1, none⟩ (.slice ao (bs ++ [c]).length cap))) := hpu.pg
 have HOT : Hid (Ot b w (w2.setCell ⟨b, 1, none⟩ (.slice ao (bs ++ [c]).length cap))) := HO.out.trans hot
 generalize (bs ++ [c]).length = N at *
 clear hcells hlen2 hown' hgrow hpu hot hown c1
 go_wp2_with fail
 go_ret
 exact ⟨rfl, HPU.out, HOT.out⟩
theorem cellsU8 : Tryz.prog.cellsOf 5 = 1 := by kernel_rfl
set_option maxHeartbeats 2000000 in
theorem pgString_any {w0 w : World} {b : Nat} {l : List UInt8} (h : Pg w0 b l w) (h0 : l ≠ []) :
  Calls Tryz.prog 21 #[.pointer (some ⟨b, 0, none⟩)] w fun e w' => e = .returned (.string ⟨l.toArray⟩) ∧ Below w0.heap.size w0 w' := by
 obtain ⟨p, v, _, hbk, hown⟩ := h.row
 have hl0 : l.length ≠ 0 := by simpa using h0
 have hbel := h.bel
 obtain ⟨g, cap, cur, rfl, hbg, hg, hnc, hcm, hcs, htake⟩ : ∃ g cap cur, v = .slice (some ⟨g, 0, none⟩) l.length cap ∧ w0.heap.size ≤ g ∧ w.heap[g]? = some (.cells cur 5 (0, 0)) ∧ l.length ≤ cap ∧ cap ≤ maxLen ∧ cur.size = cap * 1 ∧ cur.toList.take (l.length * 1) = Lib.byteCells l := by
  rcases hown.2 with ⟨_, hz⟩ | ⟨g, cap, cur, hv, r⟩
  ·exact absurd hz hl0
  ·exact ⟨g, cap, cur, hv, r⟩
 have c1 : w.drew.cell? ⟨b, 1, none⟩ = some (.slice (some ⟨g, 0, none⟩) l.length cap) := by
  have : Blk w.drew b #[p, .slice (some ⟨g, 0, none⟩) l.length cap] 52 := hbk
  exact this.cell 1
 have hSD : (Builtin.unsafeSliceData_ #[48] 107 #[.slice (some ⟨g, 0, none⟩) l.length cap]).run Tryz.prog w.drew = .ok (.pointer (some ⟨g, 0, none⟩)) w.drew :=
  Lib.run_unsafeSliceData_row _ _ _ _ _ _ (by omega)
 have hUS : (Builtin.unsafeString_ #[107, 3] 9 #[.pointer (some ⟨g, 0, none⟩), .int .i64 l.length]).run Tryz.prog w.drew = .ok (.string ⟨l.toArray⟩) (w.drew.freeze ⟨g, 0, none⟩ l.length) := by
  refine Lib.run_unsafeString_row w.drew 107 3 9 5 Tryz.underlying107 cellsU8 g cur.size (by have hg' : w.drew.heap[g]? = some (.cells cur 5 (0, 0)) := hg; simp [World.shape?, hg']) l h0 (by omega) (by unfold maxLen at hcm; omega) ?_
  intro j x hx
  exact hown.cells (g := g) rfl j (.int .u8 x.toNat) (by simp [Lib.byteCells, hx])
 go_enter Tryz.func21, Tryz.ntmps21
 go_wp2_with fail
 go_region
 all_goals (go_wp2_with fail; go_ret; exact ⟨rfl, Lib.below_freeze (Below.drew hbel) (p := ⟨g, 0, none⟩) hbg _⟩)
def PTab (w : World) : Prop := Lib.TabIs Tryz.prog w "internal/strconv.uint64pow10" .u64 Lib.pow10Tab
theorem gPow : Tryz.prog.globalNamed "internal/strconv.uint64pow10" = some 1 := by kernel_rfl
theorem PTab.below {w w1 : World} (h : PTab w) (hb : Below w.heap.size w w1) : PTab w1 := by
 unfold PTab Lib.TabIs World.var? at *
 rw [gPow] at *
 simp only [Option.bind_some] at *
 rcases Nat.lt_or_ge 1 w.heap.size with h0 | h0
 ·rw [hb.block _ h0]; exact h
 ·rw [Array.getElem?_eq_none h0] at h; simp at h
theorem itoa_any (n : Int) (h0 : -9223372036854775808 ≤ n) (h1 : n ≤ 9223372036854775807) {w : World} (ht : PTab w) :
  Calls Tryz.prog 49 #[.int .i64 n] w fun e w' => e = .returned (.string ⟨(Lib.itoa n).toArray⟩) ∧ Below w.heap.size w w' := by
 refine (Any.strconv_Itoa laysM171 n h0 h1 w ht).mono ?_
 rintro e w' ⟨rfl, k, os, rfl⟩
 exact ⟨rfl, below_grow w k os⟩
def piecesL (ps : List ByteArray) : List UInt8 := (ps.map (·.data.toList)).flatten
theorem pieces_take {ps : List ByteArray} {k : Nat} {p : ByteArray} (h : ps[k]? = some p) : piecesL (ps.take (k + 1)) = piecesL (ps.take k) ++ p.data.toList := by
 unfold piecesL
 rw [List.take_add_one, h]
 simp
theorem pieces_le (ps : List ByteArray) (k : Nat) : (piecesL (ps.take k)).length ≤ (piecesL ps).length := by
 have : piecesL ps = piecesL (ps.take k) ++ piecesL (ps.drop k) := by
  unfold piecesL
  rw [← List.flatten_append, ← List.map_append, List.take_append_drop]
 rw [this, List.length_append]
 exact Nat.le_add_right _ _
set_option maxHeartbeats 2000000 in
theorem line_any {w0 w : World} {b g : Nat} {bs : List UInt8} {ps : List ByteArray} {n : Nat} (h : Pg w0 b bs w) (hB : Blk w g (ps.map Value.string).toArray 9) (hn : ps.length = n) (hn2 : n ≤ 100) (hlen : bs.length + (piecesL ps).length + 1 ≤ 1000000000) :
  Calls Tryz.prog 18 #[.pointer (some ⟨b, 0, none⟩), .slice (some ⟨g, 0, none⟩) n n] w fun e w' => e = .returned (.tuple #[]) ∧ Pg w0 b (bs ++ piecesL ps ++ [10]) w' ∧ Ot b w w' := by
 have HP : Hid (Pg w0 b bs w) := h
 have HB : Hid (Blk w g (ps.map Value.string).toArray 9) := hB
 have HN : Hid (ps.length = n) := hn
 have HL : Hid (bs.length + (piecesL ps).length + 1 ≤ 1000000000) := hlen
 have hgb : g ≠ b := by
  intro e
  obtain ⟨p, v, _, h2, _⟩ := h.row
  subst e
  unfold Blk at hB h2
  rw [hB] at h2
  simp at h2
 clear h hB hn hlen
 go_enter Tryz.func18, Tryz.ntmps18
 go_wp2_with fail
 go_loopw [8] (fun iv wr => ∃ k : Nat, iv = .int .i64 (k : Int) ∧ k ≤ n ∧ Hid (Pg w0 b (bs ++ piecesL (ps.take k)) wr) ∧ Hid (Ot b w wr)) (fun iv _ => n - (intOf iv).toNat)
 case atStart => exact ⟨0, rfl, by omega, by show Pg _ _ _ _; simpa [piecesL] using HP.out, Ot.refl _ _⟩
 case round =>
  obtain ⟨k, rfl, hk, HPk, HOk⟩ := hrel
  by_cases hlt : k < n
  ·obtain ⟨p, hp⟩ : ∃ p, ps[k]? = some p := ⟨_, List.getElem?_eq_getElem (by rw [HN.out]; exact hlt)⟩
   have c0 : wr.cell? ⟨g, k, none⟩ = some (.string p) := by
    rw [(HOk.out.blk HB.out hgb (by decide)).cell k]
    simp [hp]
   have hkn : (k : Int) < (n : Int) := by omega
   have HT := pieces_take hp
   have HS : Hid ((bs ++ piecesL (ps.take k)).length + p.size ≤ 1000000000) := by
    have h1 := pieces_le ps (k + 1)
    rw [HT, List.length_append] at h1
    have h2 : p.data.toList.length = p.size := rfl
    have h3 := HL.out
    show _ ≤ _
    rw [List.length_append]
    omega
   have HT : Hid (piecesL (ps.take (k + 1)) = piecesL (ps.take k) ++ p.data.toList) := HT
   clear hp
   go_wp2_with fail
   refine (pgStr_any p HPk.out HS.out).mono ?_
   rintro e w1 ⟨rfl, h1, h2⟩
   have HP1 : Hid (Pg w0 b (bs ++ piecesL (ps.take (k + 1))) w1) := by show Pg _ _ _ _; rw [HT.out, ← List.append_assoc]; exact h1
   have HO1 : Hid (Ot b w w1) := HOk.out.trans h2
   clear h1 h2 c0
   go_wp2_with fail
   go_roundw
   case rel => exact ⟨k + 1, by go_num, by omega, HP1, HO1⟩
   case measure => simp [intOf]; omega
  ·obtain rfl : k = n := by omega
   have HP1 : Hid (Pg w0 b (bs ++ piecesL ps) wr) := by
    have := HPk.out
    rw [List.take_of_length_le (by rw [HN.out]; omega)] at this
    exact this
   have hkn : ¬ (k : Int) < (k : Int) := by omega
   clear HPk
   go_wp2_with fail
   refine (pgByte_any 10 HP1.out (by have := HL.out; rw [List.length_append]; omega)).mono ?_
   rintro e w1 ⟨rfl, h1, h2⟩
   have HP2 : Hid (Pg w0 b (bs ++ piecesL ps ++ [10]) w1) := h1
   have HO2 : Hid (Ot b w w1) := HOk.out.trans h2
   clear h1 h2
   go_wp2_with fail
   go_end0
   exact ⟨rfl, HP2.out, HO2.out⟩
def labTx (n : Int) : ByteArray := ⟨(plabL n).toArray⟩
set_option maxHeartbeats 1000000 in
theorem plabel_any (n : Int) (w : World) : Calls Tryz.prog 47 #[.int .i64 n] w fun e w' => e = .returned (.string (labTx n)) ∧ w' = w := by
 by_cases h2 : n = 2
 ·subst h2
  go_enter Tryz.func47, Tryz.ntmps47
  go_wp2_with fail
  go_ret
  exact ⟨rfl, rfl⟩
 ·by_cases h3 : n = 3
  ·subst h3
   go_enter Tryz.func47, Tryz.ntmps47
   go_wp2_with fail
   go_ret
   exact ⟨rfl, rfl⟩
  ·have e : labTx n = ⟨#[]⟩ := by unfold labTx plabL; rw [if_neg h2, if_neg h3]
   have b2 : (n == 2) = false := by simpa using h2
   have b3 : (n == 3) = false := by simpa using h3
   rw [e]
   clear e h2 h3
   go_enter Tryz.func47, Tryz.ntmps47
   go_wp2_with fail
   go_ret
   exact ⟨rfl, rfl⟩
def wordTx (k : Int) (t : ByteArray) : ByteArray := ⟨(wordL k t).toArray⟩
set_option maxHeartbeats 2000000 in
theorem word_any (k : Int) (t : ByteArray) (w : World) : Calls Tryz.prog 48 #[.agg #[.int .i64 k, .string t]] w fun e w' => e = .returned (.string (wordTx k t)) ∧ Below w.heap.size w w' := by
 have hb : Below w.heap.size w (w.alloc (.cells #[.int .i64 k, .string t] 88)) := (Below.refl _ _).alloc (Nat.le_refl _) _
 by_cases h1 : k = 1
 ·subst h1
  go_enter Tryz.func48, Tryz.ntmps48
  go_wp2_with fail
  go_ret
  exact ⟨rfl, hb⟩
 by_cases h2 : k = 2
 ·subst h2
  go_enter Tryz.func48, Tryz.ntmps48
  go_wp2_with fail
  go_ret
  exact ⟨rfl, hb⟩
 by_cases h3 : k = 3
 ·subst h3
  go_enter Tryz.func48, Tryz.ntmps48
  go_wp2_with fail
  go_ret
  exact ⟨rfl, hb⟩
 by_cases h4 : k = 4
 ·subst h4
  go_enter Tryz.func48, Tryz.ntmps48
  go_wp2_with fail
  go_ret
  exact ⟨rfl, hb⟩
 by_cases h5 : k = 5
 ·subst h5
  go_enter Tryz.func48, Tryz.ntmps48
  go_wp2_with fail
  go_ret
  exact ⟨rfl, hb⟩
 have e : wordTx k t = t := by unfold wordTx wordL; rw [if_neg h1, if_neg h2, if_neg h3, if_neg h4, if_neg h5]
 have b1 : (k == 1) = false := by simpa using h1
 have b2 : (k == 2) = false := by simpa using h2
 have b3 : (k == 3) = false := by simpa using h3
 have b4 : (k == 4) = false := by simpa using h4
 have b5 : (k == 5) = false := by simpa using h5
 rw [e]
 clear e h1 h2 h3 h4 h5
 go_enter Tryz.func48, Tryz.ntmps48
 go_wp2_with fail
 go_ret
 exact ⟨rfl, hb⟩
theorem extra156 : Builder.Extra Tryz.prog lays156_ren :=
 { sizeBuilder := by kernel_rfl, liesBuilder := by kernel_rfl, t5 := Tryz.underlying5, a5 := Tryz.isAgg5, z5 := Tryz.sizeOf5, v5 := Tryz.zeroValue5, infoByte := by kernel_rfl, cellsByte := by kernel_rfl, sizeByte := by kernel_rfl, neB5 := by decide }
theorem pinfoSt : (Tryz.prog.info? 9).map (fun i => (i.zero, i.size, i.bytes)) = some (some (.string ⟨#[]⟩), 1, 16) := by kernel_rfl
def itoaB (n : Int) : ByteArray := ⟨(Lib.itoa n).toArray⟩
def numsB (ns : List Int) : ByteArray := ⟨(numsL ns).toArray⟩
theorem nums_len (ns : List Int) (h : ∀ n ∈ ns, -9223372036854775808 ≤ n ∧ n ≤ 9223372036854775807) : (numsL ns).length ≤ ns.length * 23 := by
 unfold numsL Lib.join
 induction ns with
 | nil => simp [List.intercalate]
 | cons a l ih =>
  have h1 := Lib.itoa_length_le a (h a (List.mem_cons_self ..)).1 (h a (List.mem_cons_self ..)).2
  have ih := ih (fun n hn => h n (List.mem_cons_of_mem _ hn))
  cases l with
  | nil => simp [List.intercalate]; omega
  | cons b l =>
   simp only [List.map_cons, List.length_cons] at ih ⊢
   have e : List.intercalate [44, 32] (Lib.itoa a :: Lib.itoa b :: List.map Lib.itoa l) = Lib.itoa a ++ ([44, 32] ++ List.intercalate [44, 32] (Lib.itoa b :: List.map Lib.itoa l)) := by simp [List.intercalate]
   rw [e, List.length_append, List.length_append]
   simp only [List.length_cons, List.length_nil] at *
   omega
set_option maxHeartbeats 2000000 in
theorem pnumbers_any {w : World} {v : Value} {ns : List Int} (hr : RowG w v 1 (inRows ns)) (hne : ns ≠ []) (hn : ns.length ≤ 1000) (hi : ∀ n ∈ ns, I64 n) (ht : PTab w) :
  Calls Tryz.prog 50 #[v] w fun e w' => e = .returned (.string (numsB ns)) ∧ Below w.heap.size w w' := by
 have HR : Hid (RowG w v 1 (inRows ns)) := hr
 obtain ⟨a, c, rfl, q1, q2, q3, q4⟩ := row_ints hr
 obtain ⟨g, off, rfl⟩ := q3 hne
 obtain ⟨N, hN⟩ : ∃ N, ns.length = N := ⟨_, rfl⟩
 have h0 : 0 < N := by rw [← hN]; exact List.length_pos_iff.2 hne
 rw [hN] at q1 hn HR ⊢
 have HN : Hid (ns.length = N) := hN
 have HI : Hid (∀ n ∈ ns, I64 n) := hi
 have HT : Hid (PTab w) := ht
 have HC : Hid (∀ (i : Nat) (n : Int), ns[i]? = some n → w.cell? ⟨g, off + i, none⟩ = some (.int .i64 n)) := q4 g off rfl
 have q2' : c ≤ 9223372036854775807 := by unfold maxLen at q2; omega
 obtain ⟨i0, hi0, hz0, hz1, hz2⟩ := info_parts pinfoSt
 obtain ⟨w1, hmk, ho1, hg1⟩ := run_makeSlice_full (P := Tryz.prog) w w.heap.size 91 9 i0 (.string ⟨#[]⟩) 1 Tryz.underlying91 hi0 hz0 hz1 .i64 .i64 N (by omega) (by rw [hz2]; omega) (by unfold maxLen; omega) (Nat.le_refl _)
 have hb1 : Below w.heap.size w w1 := (Below.refl _ _).grown hg1 (Nat.le_refl _) (fun k hk => by cases hk)
 have HO1 : Hid (w1.ownsRow w.heap.size 9 1 (.slice (some ⟨w.heap.size, 0, none⟩) N N) N (madeCells (Value.string ⟨#[]⟩).cells (N * 1)).toList) := ho1
 generalize (madeCells (Value.string ⟨#[]⟩).cells (N * 1)).toList = xs0 at *
 clear hN hi ht q4 q3 q2 hr ho1 hg1 hz0 hz1 hz2 hi0
 obtain ⟨q, hq⟩ : ∃ q, w.heap.size = q := ⟨_, rfl⟩
 have HQ : Hid (w.heap.size = q) := hq
 rw [hq] at hmk
 have HO1 : Hid (w1.ownsRow w.heap.size 9 1 (.slice (some ⟨q, 0, none⟩) N N) N xs0) := by rw [hq] at HO1 ⊢; exact HO1
 clear hq
 go_enter Tryz.func50, Tryz.ntmps50
 go_wp2_with fail
 clear hmk
 go_loopw [11] (fun iv wr => ∃ (k : Nat) (xs : List Value), iv = .int .i64 (k : Int) ∧ k ≤ N ∧ Hid (wr.ownsRow w.heap.size 9 1 (.slice (some ⟨q, 0, none⟩) N N) N xs) ∧ Hid (∀ j n, j < k → ns[j]? = some n → xs[j]? = some (.string (itoaB n))) ∧ Below w.heap.size w wr) (fun iv _ => N - (intOf iv).toNat)
 case atStart => exact ⟨0, _, rfl, by omega, HO1, fun j n hj => absurd hj (Nat.not_lt_zero _), hb1⟩
 case round =>
  obtain ⟨k, xs, rfl, hk, HOk, HXk, hbel⟩ := hrel
  by_cases hlt : k < N
  ·obtain ⟨n, hn'⟩ : ∃ n, ns[k]? = some n := ⟨_, List.getElem?_eq_getElem (by rw [HN.out]; exact hlt)⟩
   have c0 : wr.cell? ⟨g, off + k, none⟩ = some (.int .i64 n) := by
    have := HC.out k n hn'
    rw [hbel.cell (World.block_lt_of_cell? _ _ this)]; exact this
   have HNK : Hid (ns[k]? = some n) := hn'
   have hin := HI.out n (List.mem_of_getElem? hn')
   have HIN : Hid (I64 n) := hin
   have hkn : (k : Int) < (N : Int) := by omega
   clear hn' hin
   go_wp2_with fail
   refine (itoa_any n HIN.out.1 HIN.out.2 (HT.out.below hbel)).mono ?_
   rintro e w2 ⟨rfl, hb2⟩
   have HO2 : Hid (w2.ownsRow w.heap.size 9 1 (.slice (some ⟨q, 0, none⟩) N N) N xs) := own_below HOk.out hb2
   have hbel2 : Below w.heap.size w w2 := hbel.trans (hb2.mono hbel.size)
   have hxl : xs.length = N := by have := HO2.out.1; omega
   obtain ⟨u, hu⟩ : ∃ u, xs[k]? = some u := ⟨_, List.getElem?_eq_getElem (by omega)⟩
   have d0 : w2.cell? ⟨q, k, none⟩ = some u := by
    have := HO2.out.cells (g := q) rfl k u hu
    rw [Addr.add_lit, Nat.zero_add] at this
    exact this
   have f0 := own_froz HO2.out k
   have hset := own_set HO2.out (j := k) (.string ⟨(Lib.itoa n).toArray⟩)
   have KS : Kp (fun b => b = q) w2 (w2.setCell ⟨q, k, none⟩ (.string ⟨(Lib.itoa n).toArray⟩)) := by
    refine Kp.setCell ?_ (fun _ => by simp) _
    exact Kp.refl _ _
   have HO3 : Hid ((w2.setCell ⟨q, k, none⟩ (.string ⟨(Lib.itoa n).toArray⟩)).ownsRow w.heap.size 9 1 (.slice (some ⟨q, 0, none⟩) N N) N (xs.set k (.string ⟨(Lib.itoa n).toArray⟩))) := hset
   have HX3 : Hid (∀ j m, j < k + 1 → ns[j]? = some m → (xs.set k (.string ⟨(Lib.itoa n).toArray⟩))[j]? = some (.string (itoaB m))) := by
    intro j m hj hm
    by_cases e : k = j
    ·subst e
     rw [HNK.out] at hm
     cases hm
     rw [List.getElem?_set_self (by omega)]
     rfl
    ·rw [List.getElem?_set_ne e]
     exact HXk.out j m (by omega) hm
   have hbel3 : Below w.heap.size w (w2.setCell ⟨q, k, none⟩ (.string ⟨(Lib.itoa n).toArray⟩)) := hbel2.trans (KS.toBelow hbel2.size (fun b e => by have := HQ.out; omega))
   clear hset KS hu hxl
   generalize (⟨(Lib.itoa n).toArray⟩ : ByteArray) = tx at *
   go_wp2_with fail
   go_roundw
   case rel => exact ⟨k + 1, _, by go_num, by omega, HO3, HX3, hbel3⟩
   case measure => simp [intOf]; omega
  ·obtain rfl : k = N := by omega
   have hkn : ¬ (k : Int) < (k : Int) := by omega
   have hxl : xs.length = k := by have := HOk.out.1; omega
   have HJ := Any.strings_Join lays156 extra156 q 0 k (ns.map itoaB) ⟨#[44, 32]⟩ wr (fun j x hx => by
    simp only [List.getElem?_map, Option.map_eq_some_iff] at hx
    obtain ⟨n, hn1, rfl⟩ := hx
    have hj : j < k := by rw [← HN.out]; exact (List.getElem?_eq_some_iff.1 hn1).1
    have := HOk.out.cells (g := q) rfl j _ (HXk.out j n hj hn1)
    rwa [Addr.add_lit] at this) ((HOk.out.lt q rfl).2) (by rw [List.length_map, HN.out]; omega) (by rw [List.length_map, HN.out]; exact Nat.le_refl _) (by
    have h1 := nums_len ns (fun n hn => HI.out n hn)
    have h2 := HN.out
    have e : (ns.map itoaB).map (·.data.toList) = ns.map Lib.itoa := by rw [List.map_map]; rfl
    rw [e]
    show (numsL ns).length ≤ _
    omega)
   rw [List.length_map, HN.out, show (ns.map itoaB).map (·.data.toList) = ns.map Lib.itoa by rw [List.map_map]; rfl] at HJ
   have HJ : Hid (Calls Tryz.prog 92 #[.slice (some ⟨q, 0, none⟩) k k, .string ⟨#[44, 32]⟩] wr fun e w' => e = .returned (.string (numsB ns)) ∧ Below wr.heap.size wr w') := HJ
   clear HOk HXk hxl
   go_wp2_with fail
   refine Calls.mono HJ.out ?_
   rintro e w2 ⟨rfl, hb2⟩
   have hbel2 : Below w.heap.size w w2 := hbel.trans (hb2.mono hbel.size)
   go_wp2_with fail
   go_ret
   exact ⟨rfl, hbel2⟩
theorem map_take {α β : Type} (f : α → List β) {l : List α} {k : Nat} {x : α} (h : l[k]? = some x) : ((l.take (k + 1)).map f).flatten = ((l.take k).map f).flatten ++ f x := by
 rw [List.take_add_one, h]; simp
theorem map_take_le {α β : Type} (f : α → List β) (l : List α) (k : Nat) : ((l.take k).map f).flatten.length ≤ (l.map f).flatten.length := by
 have e : (l.map f).flatten = ((l.take k).map f).flatten ++ ((l.drop k).map f).flatten := by
  rw [← List.flatten_append, ← List.map_append, List.take_append_drop]
 rw [e, List.length_append]; exact Nat.le_add_right _ _
theorem field_pieces (f : FlS) : piecesL [⟨#[32, 32]⟩, labTx f.label, wordTx f.kind f.tname, ⟨#[32]⟩, f.name, ⟨#[32, 61, 32]⟩, ⟨(Lib.itoa f.tag).toArray⟩, ⟨#[59]⟩] ++ [10] = fieldL f := by
 simp [piecesL, fieldL, labTx, wordTx]
theorem val_pieces (f : NmS) : piecesL [⟨#[32, 32]⟩, f.name, ⟨#[32, 61, 32]⟩, ⟨(Lib.itoa f.n).toArray⟩, ⟨#[59]⟩] ++ [10] = valL f := by
 simp [piecesL, valL]
def mHead (m : MsS) : List UInt8 := [109, 101, 115, 115, 97, 103, 101, 32] ++ m.name.data.toList ++ [32, 123, 10]
def eHead (m : EnS) : List UInt8 := [101, 110, 117, 109, 32] ++ m.name.data.toList ++ [32, 123, 10]
theorem mhead_pieces (n : ByteArray) (f : List FlS) (r : List Int) : piecesL [⟨#[109, 101, 115, 115, 97, 103, 101, 32]⟩, n, ⟨#[32, 123]⟩] ++ [10] = mHead ⟨n, f, r⟩ := by
 simp [piecesL, mHead]
theorem ehead_pieces (n : ByteArray) (f : List NmS) : piecesL [⟨#[101, 110, 117, 109, 32]⟩, n, ⟨#[32, 123]⟩] ++ [10] = eHead ⟨n, f⟩ := by
 simp [piecesL, eHead]
theorem msgL_eq (m : MsS) : msgL m = mHead m ++ (m.fields.map fieldL).flatten ++ resL m.reserved ++ [125, 10] := by simp [msgL, mHead]
theorem enumL_eq (m : EnS) : enumL m = eHead m ++ (m.values.map valL).flatten ++ [125, 10] := by simp [enumL, eHead]
theorem res_pieces {ns : List Int} (h : ns ≠ []) : piecesL [⟨#[32, 32, 114, 101, 115, 101, 114, 118, 101, 100, 32]⟩, numsB ns, ⟨#[59]⟩] ++ [10] = resL ns := by
 unfold resL
 rw [if_neg h]
 simp [piecesL, numsB]
set_option maxHeartbeats 2000000 in
theorem enum_any {w0 w : World} {b : Nat} {bs : List UInt8} {vf : Value} {m : EnS} (h : Pg w0 b bs w) (hf : RowG w0 vf 2 (nmRows m.values)) (ht : PTab w0) (hw : EnW m) (hlen : bs.length + (enumL m).length ≤ 1000000000) :
  Calls Tryz.prog 20 #[.pointer (some ⟨b, 0, none⟩), .agg #[.string m.name, vf]] w fun e w' => e = .returned (.tuple #[]) ∧ Pg w0 b (bs ++ enumL m) w' ∧ Ot b w w' := by
 obtain ⟨af, cf, rfl, p1, p2⟩ := hf.form2
 obtain ⟨nm, mf⟩ := m
 simp only at *
 have HW : Hid (EnW ⟨nm, mf⟩) := hw
 have HL : Hid (bs.length + (enumL ⟨nm, mf⟩).length ≤ 1000000000) := hlen
 have HML : Hid (enumL ⟨nm, mf⟩ = eHead ⟨nm, mf⟩ ++ (mf.map valL).flatten ++ [125, 10]) := enumL_eq _
 have HF : Hid (RowG w0 (.slice af (nmRows mf).length cf) 2 (nmRows mf)) := hf
 have HLF : Hid ((nmRows mf).length = mf.length) := by show _ = _; simp [nmRows]
 generalize hnF : (nmRows mf).length = nF at *
 have HP : Hid (Pg w0 b bs w) := h
 have HT : Hid (PTab w0) := ht
 have hlt := h.lt
 have HLT : Hid (b < w.heap.size) := hlt
 have hbx : Below w.heap.size w (w.alloc (.cells #[.string nm, .slice af nF cf] 44)) := (Below.refl _ _).alloc (Nat.le_refl _) _
 have BX0 : Blk (w.alloc (.cells #[.string nm, .slice af nF cf] 44)) w.heap.size #[.string nm, .slice af nF cf] 44 := Blk.new w _ _
 have HOX : Hid (Ot b w (w.alloc (.cells #[.string nm, .slice af nF cf] 44))) := Ot.ofBelow hbx
 have HPX : Hid (Pg w0 b bs (w.alloc (.cells #[.string nm, .slice af nF cf] 44))) := h.below hbx
 clear h hf ht hw hlen hlt hnF
 go_enter Tryz.func20, Tryz.ntmps20
 go_wp2_with fail
 obtain ⟨bx, hbxe⟩ : ∃ n, w.heap.size = n := ⟨_, rfl⟩
 rw [hbxe] at BX0 HLT hbx
 have hne : bx ≠ b := by have := HLT.out; omega
 have hal : ∀ (W : World) (cs : Array Value), Below W.heap.size W (W.alloc (.cells cs 9)) := fun W cs => (Below.refl _ _).alloc (Nat.le_refl _) _
 refine (line_any (n := 3) (ps := [⟨#[101, 110, 117, 109, 32]⟩, nm, ⟨#[32, 123]⟩]) (HPX.out.below (hal _ _)) (Blk.newAt (b := w.heap.size + 1) (by simp)) rfl (by decide) (by
  have h1 := HL.out
  have h2 : (piecesL [⟨#[101, 110, 117, 109, 32]⟩, nm, ⟨#[32, 123]⟩] ++ [10]).length = (eHead ⟨nm, mf⟩).length := by rw [ehead_pieces nm mf]
  rw [HML.out] at h1
  simp only [List.length_append, List.length_cons, List.length_nil] at h1 h2 ⊢
  omega)).mono ?_
 rintro e w1 ⟨rfl, hp1, ho1⟩
 have HP1 : Hid (Pg w0 b (bs ++ eHead ⟨nm, mf⟩ ++ ((mf.take 0).map valL).flatten) w1) := by
  show Pg _ _ _ _
  rw [List.take_zero, List.map_nil, List.flatten_nil, List.append_nil, ← ehead_pieces nm mf, ← List.append_assoc]
  exact hp1
 have HO1 : Hid (Ot b w w1) := HOX.out.trans ((Ot.ofBelow (hal _ _)).trans ho1)
 have BX1 : Blk w1 bx #[.string nm, .slice af nF cf] 44 := ho1.blk (BX0.below (hal _ _)) hne (by decide)
 rw [hbxe]
 clear hp1 ho1 BX0 HPX HOX hbx hbxe
 have x1 := (BX1.cell 1).trans rfl
 go_wp2_with fail
 clear x1
 go_loopw [14] (fun iv wr => ∃ k : Nat, iv = .int .i64 (k : Int) ∧ k ≤ nF ∧ Hid (Pg w0 b (bs ++ eHead ⟨nm, mf⟩ ++ ((mf.take k).map valL).flatten) wr) ∧ Hid (Ot b w wr) ∧ Blk wr bx #[.string nm, .slice af nF cf] 44) (fun iv _ => nF - (intOf iv).toNat)
 case atStart => exact ⟨0, rfl, by omega, HP1, HO1, BX1⟩
 case round =>
  obtain ⟨k, rfl, hk, HPk, HOk, BXk⟩ := hrel
  clear HP1 HO1 BX1
  by_cases hlt : k < nF
  ·obtain ⟨f, hf⟩ : ∃ n, mf[k]? = some n := ⟨_, List.getElem?_eq_getElem (by rw [← HLF.out]; exact hlt)⟩
   have hrr : (nmRows mf)[k]? = some f.cells := by simp [nmRows, hf]
   obtain ⟨g, off, rfl, cc⟩ := (HF.out.below HPk.out.bel).get hrr
   have HFW : Hid (NmW f) := HW.out.2 f (List.mem_of_getElem? hf)
   have HTK : Hid (((mf.take (k + 1)).map valL).flatten = ((mf.take k).map valL).flatten ++ valL f) := map_take valL hf
   have HLE : Hid ((bs ++ eHead ⟨nm, mf⟩ ++ ((mf.take k).map valL).flatten).length + (valL f).length ≤ 1000000000) := by
    have h1 := HL.out
    have h2 := map_take_le valL mf (k + 1)
    rw [HTK.out, List.length_append] at h2
    rw [HML.out] at h1
    simp only [List.length_append, List.length_cons, List.length_nil] at h1 h2
    show _ ≤ _
    simp only [List.length_append]
    omega
   obtain ⟨f0, f1⟩ := f
   have c0 := cc 0 _ rfl
   have c1 := cc 1 _ rfl
   rw [Nat.add_zero] at c0
   clear hf hrr cc
   have hkn : (k : Int) < (nF : Int) := by omega
   go_wp2_with fail
   clear c0 c1
   have BF0 : Blk (wr.alloc (.cells #[.string f0, .int .i64 f1] 96)).drew wr.heap.size #[.string f0, .int .i64 f1] 96 := Blk.new wr _ _
   have hbf : Below wr.heap.size wr (wr.alloc (.cells #[.string f0, .int .i64 f1] 96)).drew := below_drewN 1 ((Below.refl _ _).alloc (Nat.le_refl _) _)
   have HPW : Hid (Pg w0 b (bs ++ eHead ⟨nm, mf⟩ ++ ((mf.take k).map valL).flatten) (wr.alloc (.cells #[.string f0, .int .i64 f1] 96)).drew) := HPk.out.below hbf
   have HOW : Hid (Ot b w (wr.alloc (.cells #[.string f0, .int .i64 f1] 96)).drew) := HOk.out.trans (Ot.ofBelow hbf)
   have BXW := BXk.below hbf
   have hbfb : wr.heap.size ≠ b := by have := HPk.out.lt; omega
   refine wp_region_held_drew (S := fun W => Blk W wr.heap.size #[.string f0, .int .i64 f1] 96) (by kernel_rfl) BF0 (fun hS => ?_)
   clear BF0
   generalize (wr.alloc (.cells #[.string f0, .int .i64 f1] 96)).drew = W0 at *
   obtain ⟨bf, hbfe⟩ : ∃ n, wr.heap.size = n := ⟨_, rfl⟩
   rw [hbfe] at hS hbfb ⊢
   clear hbfe hbf HPk HOk BXk
   refine rg_take 0 18 (.pointer (some ⟨b, 0, none⟩)) _ rfl rfl (by kernel_rfl) (by kernel_rfl) (by kernel_rfl) (fun _ _ _ h => h) (by rfl) (fun w' hw' => ?_) hS (listed' := #[true, false, false, false, false, false, false, false]) (by kernel_rfl) rfl ?_
   ·go_simp
   simp only [List.setIfInBounds_toArray, List.set_cons_zero, List.set_cons_succ]
   refine rg_take 1 19 (.pointer (some ⟨bf, 0, none⟩)) _ rfl rfl (by kernel_rfl) (by kernel_rfl) (by kernel_rfl) (fun _ _ _ h => h) (by rfl) (fun w' hw' => ?_) hS (listed' := #[true, true, false, false, false, false, false, false]) (by kernel_rfl) rfl ?_
   ·go_simp
   simp only [List.setIfInBounds_toArray, List.set_cons_zero, List.set_cons_succ]
   refine rg_take 3 21 (.pointer (some ⟨bf, 1, none⟩)) _ rfl rfl (by kernel_rfl) (by kernel_rfl) (by kernel_rfl) (fun _ _ _ h => h) (by rfl) (fun w' hw' => ?_) hS (listed' := #[true, true, false, true, false, false, false, false]) (by kernel_rfl) rfl ?_
   ·go_simp
   simp only [List.setIfInBounds_toArray, List.set_cons_zero, List.set_cons_succ]
   refine rg_take 2 20 (.string f0) _ rfl rfl (by kernel_rfl) (by kernel_rfl) (by kernel_rfl) (fun _ _ _ h => h) (by rfl) (fun w' hw' => ?_) hS (listed' := #[true, true, true, true, false, false, false, false]) (by kernel_rfl) rfl ?_
   ·have c0 := (hw'.cell 0).trans rfl; go_simp
   simp only [List.setIfInBounds_toArray, List.set_cons_zero, List.set_cons_succ]
   refine rg_take 4 22 (.int .i64 f1) _ rfl rfl (by kernel_rfl) (by kernel_rfl) (by kernel_rfl) (fun _ _ _ h => h) (by rfl) (fun w' hw' => ?_) hS (listed' := #[true, true, true, true, true, false, false, false]) (by kernel_rfl) rfl ?_
   ·have c1 := (hw'.cell 1).trans rfl; go_simp
   simp only [List.setIfInBounds_toArray, List.set_cons_zero, List.set_cons_succ]
   refine rg_call 5 23 49 #[.int .i64 f1] rfl rfl (by kernel_rfl) (by rfl) (listed' := #[true, true, true, true, true, true, false, false]) (by kernel_rfl) (fun W => by go_simp) ?_
   refine (itoa_any f1 HFW.out.2.1 HFW.out.2.2 (HT.out.below HPW.out.bel)).mono ?_
   rintro e W3 ⟨rfl, hb3⟩
   have hS := hS.below hb3
   refine ⟨_, rfl, hS, ?_⟩
   simp only [List.setIfInBounds_toArray, List.set_cons_zero, List.set_cons_succ]
   have HPL : Hid (piecesL [⟨#[32, 32]⟩, f0, ⟨#[32, 61, 32]⟩, ⟨(Lib.itoa f1).toArray⟩, ⟨#[59]⟩] ++ [10] = valL ⟨f0, f1⟩) := val_pieces ⟨f0, f1⟩
   have HP3 : Hid (Pg w0 b (bs ++ eHead ⟨nm, mf⟩ ++ ((mf.take k).map valL).flatten) W3) := HPW.out.below hb3
   have HO3 : Hid (Ot b w W3) := HOW.out.trans (Ot.ofBelow hb3)
   have BX3 := BXW.below hb3
   generalize (⟨(Lib.itoa f1).toArray⟩ : ByteArray) = t3 at *
   have hS4 := hS.below (hal W3 #[.string ⟨#[32, 32]⟩, .string f0, .string ⟨#[32, 61, 32]⟩, .string t3, .string ⟨#[59]⟩])
   refine rg_run 6 24 (.slice (some ⟨W3.heap.size, 0, none⟩) 5 5) (W3.alloc (.cells #[.string ⟨#[32, 32]⟩, .string f0, .string ⟨#[32, 61, 32]⟩, .string t3, .string ⟨#[59]⟩] 9)) rfl rfl (by kernel_rfl) (by rfl) (listed' := #[true, true, true, true, true, true, true, false]) (by kernel_rfl) (by go_simp) hS4 ?_
   simp only [List.setIfInBounds_toArray, List.set_cons_zero, List.set_cons_succ]
   refine rg_call 7 25 18 #[.pointer (some ⟨b, 0, none⟩), .slice (some ⟨W3.heap.size, 0, none⟩) 5 5] rfl rfl (by kernel_rfl) (by rfl) (listed' := #[true, true, true, true, true, true, true, true]) (by kernel_rfl) (fun W => by go_simp) ?_
   refine (line_any (n := 5) (ps := [⟨#[32, 32]⟩, f0, ⟨#[32, 61, 32]⟩, t3, ⟨#[59]⟩]) (HP3.out.below (hal _ _)) (Blk.new _ _ _) rfl (by decide) (by
    have h1 := HLE.out
    rw [← HPL.out] at h1
    simp only [List.length_append, List.length_cons, List.length_nil] at h1 ⊢
    omega)).mono ?_
   rintro e W5 ⟨rfl, hp5, ho5⟩
   have HP5 : Hid (Pg w0 b (bs ++ eHead ⟨nm, mf⟩ ++ ((mf.take (k + 1)).map valL).flatten) W5) := by
    show Pg _ _ _ _
    rw [HTK.out, ← HPL.out, ← List.append_assoc, ← List.append_assoc]
    exact hp5
   have HO5 : Hid (Ot b w W5) := HO3.out.trans ((Ot.ofBelow (hal _ _)).trans ho5)
   have BX5 := ho5.blk (BX3.below (hal _ _)) hne (by decide)
   have hS5 : Blk W5 bf #[.string f0, .int .i64 f1] 96 := ho5.blk hS4 hbfb (by decide)
   refine ⟨_, rfl, hS5, ?_⟩
   simp only [List.setIfInBounds_toArray, List.set_cons_zero, List.set_cons_succ]
   refine wpAnyH_done (by kernel_rfl) ?_ _
   clear hp5 ho5 hS4 hS5 hS HP3 HO3 BX3 HPW HOW BXW
   go_wp2_with fail
   go_roundw
   case rel => exact ⟨k + 1, by go_num, by omega, HP5, HO5, BX5⟩
   case measure => simp [intOf]; omega
  ·obtain rfl : k = nF := by omega
   have hkn : ¬ (k : Int) < (k : Int) := by omega
   have HP1 : Hid (Pg w0 b (bs ++ eHead ⟨nm, mf⟩ ++ (mf.map valL).flatten) wr) := by
    have := HPk.out
    rw [List.take_of_length_le (by rw [← HLF.out]; omega)] at this
    exact this
   clear HPk
   go_wp2_with fail
   refine (line_any (n := 1) (ps := [⟨#[125]⟩]) (HP1.out.below (hal _ _)) (Blk.new _ _ _) rfl (by decide) (by
    have h1 := HL.out
    rw [HML.out] at h1
    simp only [piecesL, List.map_cons, List.map_nil, List.flatten_cons, List.flatten_nil, List.length_append, List.length_cons, List.length_nil] at h1 ⊢
    omega)).mono ?_
   rintro e w9 ⟨rfl, hp9, ho9⟩
   have HP9 : Hid (Pg w0 b (bs ++ enumL ⟨nm, mf⟩) w9) := by
    show Pg _ _ _ _
    rw [HML.out]
    simpa [piecesL, List.append_assoc] using hp9
   have HO9 : Hid (Ot b w w9) := HOk.out.trans ((Ot.ofBelow (hal _ _)).trans ho9)
   clear hp9 ho9
   go_wp2_with fail
   go_end0
   exact ⟨rfl, HP9.out, HO9.out⟩
set_option maxHeartbeats 2000000 in
theorem message_any {w0 w : World} {b : Nat} {bs : List UInt8} {vf vr : Value} {m : MsS} (h : Pg w0 b bs w) (hf : RowG w0 vf 5 (flRows m.fields)) (hr : RowG w0 vr 1 (inRows m.reserved)) (ht : PTab w0) (hw : MsW m) (hrn : m.reserved.length ≤ 1000) (hlen : bs.length + (msgL m).length ≤ 1000000000) :
  Calls Tryz.prog 19 #[.pointer (some ⟨b, 0, none⟩), .agg #[.string m.name, vf, vr]] w fun e w' => e = .returned (.tuple #[]) ∧ Pg w0 b (bs ++ msgL m) w' ∧ Ot b w w' := by
 obtain ⟨af, cf, rfl, p1, p2⟩ := hf.form2
 obtain ⟨ar, cr, rfl, q1, q2⟩ := hr.form2
 obtain ⟨nm, mf, mr⟩ := m
 simp only at *
 have HR : Hid (RowG w0 (.slice ar (inRows mr).length cr) 1 (inRows mr)) := hr
 have HLR : Hid ((inRows mr).length = mr.length) := by show _ = _; simp [inRows]
 have HW : Hid (MsW ⟨nm, mf, mr⟩) := hw
 have HRN : Hid (mr.length ≤ 1000) := hrn
 have HL : Hid (bs.length + (msgL ⟨nm, mf, mr⟩).length ≤ 1000000000) := hlen
 have HML : Hid (msgL ⟨nm, mf, mr⟩ = mHead ⟨nm, mf, mr⟩ ++ (mf.map fieldL).flatten ++ resL mr ++ [125, 10]) := msgL_eq _
 have HF : Hid (RowG w0 (.slice af (flRows mf).length cf) 5 (flRows mf)) := hf
 have HLF : Hid ((flRows mf).length = mf.length) := by show _ = _; simp [flRows]
 generalize hnF : (flRows mf).length = nF at *
 generalize hnR : (inRows mr).length = nR at *
 have HP : Hid (Pg w0 b bs w) := h
 have HT : Hid (PTab w0) := ht
 have hlt := h.lt
 have HLT : Hid (b < w.heap.size) := hlt
 have hbx : Below w.heap.size w (w.alloc (.cells #[.string nm, .slice af nF cf, .slice ar nR cr] 40)) := (Below.refl _ _).alloc (Nat.le_refl _) _
 have BX0 : Blk (w.alloc (.cells #[.string nm, .slice af nF cf, .slice ar nR cr] 40)) w.heap.size #[.string nm, .slice af nF cf, .slice ar nR cr] 40 := Blk.new w _ _
 have HOX : Hid (Ot b w (w.alloc (.cells #[.string nm, .slice af nF cf, .slice ar nR cr] 40))) := Ot.ofBelow hbx
 have HPX : Hid (Pg w0 b bs (w.alloc (.cells #[.string nm, .slice af nF cf, .slice ar nR cr] 40))) := h.below hbx
 clear h hf ht hw hlen hlt hnF hr hrn hnR
 go_enter Tryz.func19, Tryz.ntmps19
 go_wp2_with fail
 obtain ⟨bx, hbxe⟩ : ∃ n, w.heap.size = n := ⟨_, rfl⟩
 rw [hbxe] at BX0 HLT hbx
 have hne : bx ≠ b := by have := HLT.out; omega
 have hal : ∀ (W : World) (cs : Array Value), Below W.heap.size W (W.alloc (.cells cs 9)) := fun W cs => (Below.refl _ _).alloc (Nat.le_refl _) _
 refine (line_any (n := 3) (ps := [⟨#[109, 101, 115, 115, 97, 103, 101, 32]⟩, nm, ⟨#[32, 123]⟩]) (HPX.out.below (hal _ _)) (Blk.newAt (b := w.heap.size + 1) (by simp)) rfl (by decide) (by
  have h1 := HL.out
  have h2 : (piecesL [⟨#[109, 101, 115, 115, 97, 103, 101, 32]⟩, nm, ⟨#[32, 123]⟩] ++ [10]).length = (mHead ⟨nm, mf, mr⟩).length := by rw [mhead_pieces nm mf mr]
  rw [HML.out] at h1
  simp only [List.length_append, List.length_cons, List.length_nil] at h1 h2 ⊢
  omega)).mono ?_
 rintro e w1 ⟨rfl, hp1, ho1⟩
 have HP1 : Hid (Pg w0 b (bs ++ mHead ⟨nm, mf, mr⟩ ++ ((mf.take 0).map fieldL).flatten) w1) := by
  show Pg _ _ _ _
  rw [List.take_zero, List.map_nil, List.flatten_nil, List.append_nil, ← mhead_pieces nm mf mr, ← List.append_assoc]
  exact hp1
 have HO1 : Hid (Ot b w w1) := HOX.out.trans ((Ot.ofBelow (hal _ _)).trans ho1)
 have BX1 : Blk w1 bx #[.string nm, .slice af nF cf, .slice ar nR cr] 40 := ho1.blk (BX0.below (hal _ _)) hne (by decide)
 rw [hbxe]
 clear hp1 ho1 BX0 HPX HOX hbx hbxe
 have x1 := (BX1.cell 1).trans rfl
 go_wp2_with fail
 clear x1
 go_loopw [14] (fun iv wr => ∃ k : Nat, iv = .int .i64 (k : Int) ∧ k ≤ nF ∧ Hid (Pg w0 b (bs ++ mHead ⟨nm, mf, mr⟩ ++ ((mf.take k).map fieldL).flatten) wr) ∧ Hid (Ot b w wr) ∧ Blk wr bx #[.string nm, .slice af nF cf, .slice ar nR cr] 40) (fun iv _ => nF - (intOf iv).toNat)
 case atStart => exact ⟨0, rfl, by omega, HP1, HO1, BX1⟩
 case round =>
  obtain ⟨k, rfl, hk, HPk, HOk, BXk⟩ := hrel
  clear HP1 HO1 BX1
  by_cases hlt : k < nF
  ·obtain ⟨f, hf⟩ : ∃ n, mf[k]? = some n := ⟨_, List.getElem?_eq_getElem (by rw [← HLF.out]; exact hlt)⟩
   have hrr : (flRows mf)[k]? = some f.cells := by simp [flRows, hf]
   obtain ⟨g, off, rfl, cc⟩ := (HF.out.below HPk.out.bel).get hrr
   have HFW : Hid (FlW f) := HW.out.2.1 f (List.mem_of_getElem? hf)
   have HTK : Hid (((mf.take (k + 1)).map fieldL).flatten = ((mf.take k).map fieldL).flatten ++ fieldL f) := map_take fieldL hf
   have HLE : Hid ((bs ++ mHead ⟨nm, mf, mr⟩ ++ ((mf.take k).map fieldL).flatten).length + (fieldL f).length ≤ 1000000000) := by
    have h1 := HL.out
    have h2 := map_take_le fieldL mf (k + 1)
    rw [HTK.out, List.length_append] at h2
    rw [HML.out] at h1
    simp only [List.length_append, List.length_cons, List.length_nil] at h1 h2
    show _ ≤ _
    simp only [List.length_append]
    omega
   obtain ⟨f0, f1, f2, f3, f4⟩ := f
   have c0 := cc 0 _ rfl
   have c1 := cc 1 _ rfl
   have c2 := cc 2 _ rfl
   have c3 := cc 3 _ rfl
   have c4 := cc 4 _ rfl
   rw [Nat.add_zero] at c0
   clear hf hrr cc
   have hkn : (k : Int) < (nF : Int) := by omega
   go_wp2_with fail
   clear c0 c1 c2 c3 c4
   have BF0 : Blk (wr.alloc (.cells #[.string f0, .int .i64 f1, .int .i64 f2, .int .i64 f3, .string f4] 90)).drew wr.heap.size #[.string f0, .int .i64 f1, .int .i64 f2, .int .i64 f3, .string f4] 90 := Blk.new wr _ _
   have hbf : Below wr.heap.size wr (wr.alloc (.cells #[.string f0, .int .i64 f1, .int .i64 f2, .int .i64 f3, .string f4] 90)).drew := below_drewN 1 ((Below.refl _ _).alloc (Nat.le_refl _) _)
   have HPW : Hid (Pg w0 b (bs ++ mHead ⟨nm, mf, mr⟩ ++ ((mf.take k).map fieldL).flatten) (wr.alloc (.cells #[.string f0, .int .i64 f1, .int .i64 f2, .int .i64 f3, .string f4] 90)).drew) := HPk.out.below hbf
   have HOW : Hid (Ot b w (wr.alloc (.cells #[.string f0, .int .i64 f1, .int .i64 f2, .int .i64 f3, .string f4] 90)).drew) := HOk.out.trans (Ot.ofBelow hbf)
   have BXW := BXk.below hbf
   have hbfb : wr.heap.size ≠ b := by have := HPk.out.lt; omega
   refine wp_region_held_drew (S := fun W => Blk W wr.heap.size #[.string f0, .int .i64 f1, .int .i64 f2, .int .i64 f3, .string f4] 90) (by kernel_rfl) BF0 (fun hS => ?_)
   clear BF0
   generalize (wr.alloc (.cells #[.string f0, .int .i64 f1, .int .i64 f2, .int .i64 f3, .string f4] 90)).drew = W0 at *
   obtain ⟨bf, hbfe⟩ : ∃ n, wr.heap.size = n := ⟨_, rfl⟩
   rw [hbfe] at hS hbfb ⊢
   clear hbfe hbf HPk HOk BXk
   refine rg_take 0 18 (.pointer (some ⟨b, 0, none⟩)) _ rfl rfl (by kernel_rfl) (by kernel_rfl) (by kernel_rfl) (fun _ _ _ h => h) (by rfl) (fun w' hw' => ?_) hS (listed' := #[true, false, false, false, false, false, false, false, false, false, false, false, false, false]) (by kernel_rfl) rfl ?_
   ·go_simp
   simp only [List.setIfInBounds_toArray, List.set_cons_zero, List.set_cons_succ]
   refine rg_take 1 19 (.pointer (some ⟨bf, 2, none⟩)) _ rfl rfl (by kernel_rfl) (by kernel_rfl) (by kernel_rfl) (fun _ _ _ h => h) (by rfl) (fun w' hw' => ?_) hS (listed' := #[true, true, false, false, false, false, false, false, false, false, false, false, false, false]) (by kernel_rfl) rfl ?_
   ·go_simp
   simp only [List.setIfInBounds_toArray, List.set_cons_zero, List.set_cons_succ]
   refine rg_take 4 22 (.pointer (some ⟨bf, 3, none⟩)) _ rfl rfl (by kernel_rfl) (by kernel_rfl) (by kernel_rfl) (fun _ _ _ h => h) (by rfl) (fun w' hw' => ?_) hS (listed' := #[true, true, false, false, true, false, false, false, false, false, false, false, false, false]) (by kernel_rfl) rfl ?_
   ·go_simp
   simp only [List.setIfInBounds_toArray, List.set_cons_zero, List.set_cons_succ]
   refine rg_take 7 25 (.pointer (some ⟨bf, 0, none⟩)) _ rfl rfl (by kernel_rfl) (by kernel_rfl) (by kernel_rfl) (fun _ _ _ h => h) (by rfl) (fun w' hw' => ?_) hS (listed' := #[true, true, false, false, true, false, false, true, false, false, false, false, false, false]) (by kernel_rfl) rfl ?_
   ·go_simp
   simp only [List.setIfInBounds_toArray, List.set_cons_zero, List.set_cons_succ]
   refine rg_take 9 27 (.pointer (some ⟨bf, 1, none⟩)) _ rfl rfl (by kernel_rfl) (by kernel_rfl) (by kernel_rfl) (fun _ _ _ h => h) (by rfl) (fun w' hw' => ?_) hS (listed' := #[true, true, false, false, true, false, false, true, false, true, false, false, false, false]) (by kernel_rfl) rfl ?_
   ·go_simp
   simp only [List.setIfInBounds_toArray, List.set_cons_zero, List.set_cons_succ]
   refine rg_take 2 20 (.int .i64 f2) _ rfl rfl (by kernel_rfl) (by kernel_rfl) (by kernel_rfl) (fun _ _ _ h => h) (by rfl) (fun w' hw' => ?_) hS (listed' := #[true, true, true, false, true, false, false, true, false, true, false, false, false, false]) (by kernel_rfl) rfl ?_
   ·have c2 := (hw'.cell 2).trans rfl; go_simp
   simp only [List.setIfInBounds_toArray, List.set_cons_zero, List.set_cons_succ]
   refine rg_take 5 23 (.agg #[.int .i64 f3, .string f4]) _ rfl rfl (by kernel_rfl) (by kernel_rfl) (by kernel_rfl) (fun _ _ _ h => h) (by rfl) (fun w' hw' => ?_) hS (listed' := #[true, true, true, false, true, true, false, true, false, true, false, false, false, false]) (by kernel_rfl) rfl ?_
   ·have c3 := (hw'.cell 3).trans rfl; have c4 := (hw'.cell 4).trans rfl; go_simp
   simp only [List.setIfInBounds_toArray, List.set_cons_zero, List.set_cons_succ]
   refine rg_take 8 26 (.string f0) _ rfl rfl (by kernel_rfl) (by kernel_rfl) (by kernel_rfl) (fun _ _ _ h => h) (by rfl) (fun w' hw' => ?_) hS (listed' := #[true, true, true, false, true, true, false, true, true, true, false, false, false, false]) (by kernel_rfl) rfl ?_
   ·have c0 := (hw'.cell 0).trans rfl; go_simp
   simp only [List.setIfInBounds_toArray, List.set_cons_zero, List.set_cons_succ]
   refine rg_take 10 28 (.int .i64 f1) _ rfl rfl (by kernel_rfl) (by kernel_rfl) (by kernel_rfl) (fun _ _ _ h => h) (by rfl) (fun w' hw' => ?_) hS (listed' := #[true, true, true, false, true, true, false, true, true, true, true, false, false, false]) (by kernel_rfl) rfl ?_
   ·have c1 := (hw'.cell 1).trans rfl; go_simp
   simp only [List.setIfInBounds_toArray, List.set_cons_zero, List.set_cons_succ]
   refine rg_call 3 21 47 #[.int .i64 f2] rfl rfl (by kernel_rfl) (by rfl) (listed' := #[true, true, true, true, true, true, false, true, true, true, true, false, false, false]) (by kernel_rfl) (fun W => by go_simp) ?_
   refine (plabel_any f2 _).mono ?_
   rintro e W1 ⟨rfl, rfl⟩
   refine ⟨_, rfl, hS, ?_⟩
   simp only [List.setIfInBounds_toArray, List.set_cons_zero, List.set_cons_succ]
   refine rg_call 6 24 48 #[.agg #[.int .i64 f3, .string f4]] rfl rfl (by kernel_rfl) (by rfl) (listed' := #[true, true, true, true, true, true, true, true, true, true, true, false, false, false]) (by kernel_rfl) (fun W => by go_simp) ?_
   refine (word_any f3 f4 _).mono ?_
   rintro e W2 ⟨rfl, hb2⟩
   have hS := hS.below hb2
   refine ⟨_, rfl, hS, ?_⟩
   simp only [List.setIfInBounds_toArray, List.set_cons_zero, List.set_cons_succ]
   refine rg_call 11 29 49 #[.int .i64 f1] rfl rfl (by kernel_rfl) (by rfl) (listed' := #[true, true, true, true, true, true, true, true, true, true, true, true, false, false]) (by kernel_rfl) (fun W => by go_simp) ?_
   refine (itoa_any f1 HFW.out.2.2.1.1 HFW.out.2.2.1.2 (HT.out.below (HPW.out.below hb2).bel)).mono ?_
   rintro e W3 ⟨rfl, hb3⟩
   have hS := hS.below hb3
   refine ⟨_, rfl, hS, ?_⟩
   simp only [List.setIfInBounds_toArray, List.set_cons_zero, List.set_cons_succ]
   have HPL : Hid (piecesL [⟨#[32, 32]⟩, labTx f2, wordTx f3 f4, ⟨#[32]⟩, f0, ⟨#[32, 61, 32]⟩, ⟨(Lib.itoa f1).toArray⟩, ⟨#[59]⟩] ++ [10] = fieldL ⟨f0, f1, f2, f3, f4⟩) := field_pieces ⟨f0, f1, f2, f3, f4⟩
   have HP3 : Hid (Pg w0 b (bs ++ mHead ⟨nm, mf, mr⟩ ++ ((mf.take k).map fieldL).flatten) W3) := (HPW.out.below hb2).below hb3
   have HO3 : Hid (Ot b w W3) := (HOW.out.trans (Ot.ofBelow hb2)).trans (Ot.ofBelow hb3)
   have BX3 := (BXW.below hb2).below hb3
   generalize labTx f2 = t1 at *
   generalize wordTx f3 f4 = t2 at *
   generalize (⟨(Lib.itoa f1).toArray⟩ : ByteArray) = t3 at *
   have hS4 := hS.below (hal W3 #[.string ⟨#[32, 32]⟩, .string t1, .string t2, .string ⟨#[32]⟩, .string f0, .string ⟨#[32, 61, 32]⟩, .string t3, .string ⟨#[59]⟩])
   refine rg_run 12 30 (.slice (some ⟨W3.heap.size, 0, none⟩) 8 8) (W3.alloc (.cells #[.string ⟨#[32, 32]⟩, .string t1, .string t2, .string ⟨#[32]⟩, .string f0, .string ⟨#[32, 61, 32]⟩, .string t3, .string ⟨#[59]⟩] 9)) rfl rfl (by kernel_rfl) (by rfl) (listed' := #[true, true, true, true, true, true, true, true, true, true, true, true, true, false]) (by kernel_rfl) (by go_simp) hS4 ?_
   simp only [List.setIfInBounds_toArray, List.set_cons_zero, List.set_cons_succ]
   refine rg_call 13 31 18 #[.pointer (some ⟨b, 0, none⟩), .slice (some ⟨W3.heap.size, 0, none⟩) 8 8] rfl rfl (by kernel_rfl) (by rfl) (listed' := #[true, true, true, true, true, true, true, true, true, true, true, true, true, true]) (by kernel_rfl) (fun W => by go_simp) ?_
   refine (line_any (n := 8) (ps := [⟨#[32, 32]⟩, t1, t2, ⟨#[32]⟩, f0, ⟨#[32, 61, 32]⟩, t3, ⟨#[59]⟩]) (HP3.out.below (hal _ _)) (Blk.new _ _ _) rfl (by decide) (by
    have h1 := HLE.out
    rw [← HPL.out] at h1
    simp only [List.length_append, List.length_cons, List.length_nil] at h1 ⊢
    omega)).mono ?_
   rintro e W5 ⟨rfl, hp5, ho5⟩
   have HP5 : Hid (Pg w0 b (bs ++ mHead ⟨nm, mf, mr⟩ ++ ((mf.take (k + 1)).map fieldL).flatten) W5) := by
    show Pg _ _ _ _
    rw [HTK.out, ← HPL.out, ← List.append_assoc, ← List.append_assoc]
    exact hp5
   have HO5 : Hid (Ot b w W5) := HO3.out.trans ((Ot.ofBelow (hal _ _)).trans ho5)
   have BX5 := ho5.blk (BX3.below (hal _ _)) hne (by decide)
   have hS5 : Blk W5 bf #[.string f0, .int .i64 f1, .int .i64 f2, .int .i64 f3, .string f4] 90 := ho5.blk hS4 hbfb (by decide)
   refine ⟨_, rfl, hS5, ?_⟩
   simp only [List.setIfInBounds_toArray, List.set_cons_zero, List.set_cons_succ]
   refine wpAnyH_done (by kernel_rfl) ?_ _
   clear hp5 ho5 hS4 hS5 hS HP3 HO3 BX3 HPW HOW BXW
   go_wp2_with fail
   go_roundw
   case rel => exact ⟨k + 1, by go_num, by omega, HP5, HO5, BX5⟩
   case measure => simp [intOf]; omega
  ·obtain rfl : k = nF := by omega
   have hkn : ¬ (k : Int) < (k : Int) := by omega
   have HP1 : Hid (Pg w0 b (bs ++ mHead ⟨nm, mf, mr⟩ ++ (mf.map fieldL).flatten) wr) := by
    have := HPk.out
    rw [List.take_of_length_le (by rw [← HLF.out]; omega)] at this
    exact this
   clear HPk
   have x2 := (BXk.cell 2).trans rfl
   by_cases hz : mr = []
   ·have HRZ : Hid (resL mr = []) := by show _ = _; rw [hz]; rfl
    have hnR : nR = 0 := by rw [HLR.out, hz]; rfl
    subst hnR
    clear hz
    go_wp2_with fail
    clear x2
    refine (line_any (n := 1) (ps := [⟨#[125]⟩]) (HP1.out.below (hal _ _)) (Blk.new _ _ _) rfl (by decide) (by
     have h1 := HL.out
     rw [HML.out] at h1
     simp only [piecesL, List.map_cons, List.map_nil, List.flatten_cons, List.flatten_nil, List.length_append, List.length_cons, List.length_nil] at h1 ⊢
     omega)).mono ?_
    rintro e w9 ⟨rfl, hp9, ho9⟩
    have HP9 : Hid (Pg w0 b (bs ++ msgL ⟨nm, mf, mr⟩) w9) := by
     show Pg _ _ _ _
     rw [HML.out]
     skip
     simpa [piecesL, List.append_assoc, HRZ.out] using hp9
    have HO9 : Hid (Ot b w w9) := HOk.out.trans ((Ot.ofBelow (hal _ _)).trans ho9)
    clear hp9 ho9
    go_wp2_with fail
    go_end0
    exact ⟨rfl, HP9.out, HO9.out⟩
   ·have hnR : 0 < nR := by rw [HLR.out]; exact List.length_pos_iff.2 hz
    have hnR' : (0 : Int) < (nR : Int) := by omega
    have HZ : Hid (mr ≠ []) := hz
    have HRP : Hid (piecesL [⟨#[32, 32, 114, 101, 115, 101, 114, 118, 101, 100, 32]⟩, numsB mr, ⟨#[59]⟩] ++ [10] = resL mr) := res_pieces hz
    clear hz
    go_wp2_with fail
    refine (pnumbers_any (HR.out.below HP1.out.bel) HZ.out HRN.out (fun n hn => HW.out.2.2 n hn) (HT.out.below HP1.out.bel)).mono ?_
    rintro e w2 ⟨rfl, hb2⟩
    have HP2 : Hid (Pg w0 b (bs ++ mHead ⟨nm, mf, mr⟩ ++ (mf.map fieldL).flatten) w2) := HP1.out.below hb2
    have HO2 : Hid (Ot b w w2) := HOk.out.trans (Ot.ofBelow hb2)
    clear x2 HP1 HOk hb2
    generalize numsB mr = tn at *
    go_wp2_with fail
    refine (line_any (n := 3) (ps := [⟨#[32, 32, 114, 101, 115, 101, 114, 118, 101, 100, 32]⟩, tn, ⟨#[59]⟩]) (HP2.out.below (hal _ _)) (Blk.new _ _ _) rfl (by decide) (by
     have h1 := HL.out
     rw [HML.out, ← HRP.out] at h1
     simp only [List.length_append, List.length_cons, List.length_nil] at h1 ⊢
     omega)).mono ?_
    rintro e w3 ⟨rfl, hp3, ho3⟩
    have HP3 : Hid (Pg w0 b (bs ++ mHead ⟨nm, mf, mr⟩ ++ (mf.map fieldL).flatten ++ resL mr) w3) := by
     show Pg _ _ _ _
     rw [← HRP.out, ← List.append_assoc]
     exact hp3
    have HO3 : Hid (Ot b w w3) := HO2.out.trans ((Ot.ofBelow (hal _ _)).trans ho3)
    have HRZ : Hid (True) := trivial
    clear hp3 ho3 HP2 HO2
    go_wp2_with fail
    refine (line_any (n := 1) (ps := [⟨#[125]⟩]) (HP3.out.below (hal _ _)) (Blk.new _ _ _) rfl (by decide) (by
     have h1 := HL.out
     rw [HML.out] at h1
     simp only [piecesL, List.map_cons, List.map_nil, List.flatten_cons, List.flatten_nil, List.length_append, List.length_cons, List.length_nil] at h1 ⊢
     omega)).mono ?_
    rintro e w9 ⟨rfl, hp9, ho9⟩
    have HP9 : Hid (Pg w0 b (bs ++ msgL ⟨nm, mf, mr⟩) w9) := by
     show Pg _ _ _ _
     rw [HML.out]
     skip
     simpa [piecesL, List.append_assoc, HRZ.out] using hp9
    have HO9 : Hid (Ot b w w9) := HO3.out.trans ((Ot.ofBelow (hal _ _)).trans ho9)
    clear hp9 ho9
    go_wp2_with fail
    go_end0
    exact ⟨rfl, HP9.out, HO9.out⟩
end Go.Proofs.YtcjfeandnmochaaGreatDoor
namespace Go.Proofs.YtcjfeandnmochaaGreatDoor
open Go.ChangeShapes Go.WideShapes Go.ChangeAt Go.RowKit Go.Sort
set_option linter.unusedVariables false
set_option linter.unusedSimpArgs false
set_option maxRecDepth 20000
def cmpI (a b : Int) : Int := if a < b then -1 else if b < a then 1 else 0
theorem cmpI_lt (a b : Int) : decide (cmpI a b < 0) = decide (a < b) := by
 unfold cmpI
 split
 ·rename_i h; simp [h]
 ·split <;> simp <;> omega
theorem isNaN_any (a : Int) (w : World) : Calls Tryz.prog 138 #[.int .i64 a] w fun e w' => e = .returned (.bool false) ∧ w' = w := by
 go_enter Tryz.func138, Tryz.ntmps138
 go_wp2_with fail
 go_ret
 exact ⟨rfl, rfl⟩
set_option maxHeartbeats 1000000 in
theorem compare_any (a b : Int) (w : World) : Calls Tryz.prog 115 #[.int .i64 a, .int .i64 b] w fun e w' => e = .returned (.int .i64 (cmpI a b)) ∧ w' = w := by
 by_cases h1 : a < b
 ·have e : cmpI a b = -1 := by unfold cmpI; rw [if_pos h1]
  rw [e]
  clear e
  go_enter Tryz.func115, Tryz.ntmps115
  go_wp2_with (go_at_call 138; refine (isNaN_any _ _).mono ?_; rintro e w1 ⟨rfl, rfl⟩)
  go_ret
  exact ⟨rfl, rfl⟩
 by_cases h2 : b < a
 ·have e : cmpI a b = 1 := by unfold cmpI; rw [if_neg h1, if_pos h2]
  rw [e]
  clear e
  go_enter Tryz.func115, Tryz.ntmps115
  go_wp2_with (go_at_call 138; refine (isNaN_any _ _).mono ?_; rintro e w1 ⟨rfl, rfl⟩)
  go_ret
  exact ⟨rfl, rfl⟩
 ·have e : cmpI a b = 0 := by unfold cmpI; rw [if_neg h1, if_neg h2]
  rw [e]
  clear e
  go_enter Tryz.func115, Tryz.ntmps115
  go_wp2_with (go_at_call 138; refine (isNaN_any _ _).mono ?_; rintro e w1 ⟨rfl, rfl⟩)
  go_ret
  exact ⟨rfl, rfl⟩
set_option maxHeartbeats 1000000 in
theorem byTag_any (x y : FlS) (w : World) : Calls Tryz.prog 73 #[.agg x.cells.toArray, .agg y.cells.toArray] w fun e w' => e = .returned (.int .i64 (cmpI x.tag y.tag)) ∧ ∃ q os, w' = grow (w.drewN q) os := by
 obtain ⟨x0, x1, x2, x3, x4⟩ := x
 obtain ⟨y0, y1, y2, y3, y4⟩ := y
 show Calls Tryz.prog 73 #[.agg #[.string x0, .int .i64 x1, .int .i64 x2, .int .i64 x3, .string x4], .agg #[.string y0, .int .i64 y1, .int .i64 y2, .int .i64 y3, .string y4]] w fun e w' => e = .returned (.int .i64 (cmpI x1 y1)) ∧ ∃ q os, w' = grow (w.drewN q) os
 obtain ⟨c, hc⟩ : ∃ c, cmpI x1 y1 = c := ⟨_, rfl⟩
 have HC : ∀ W, Calls Tryz.prog 115 #[.int .i64 x1, .int .i64 y1] W fun e w' => e = .returned (.int .i64 c) ∧ w' = W := fun W => by rw [← hc]; exact compare_any x1 y1 W
 rw [hc]
 clear hc
 go_enter Tryz.func73, Tryz.ntmps73
 go_wp2_with (go_at_call 115; refine (HC _).mono ?_; rintro e w1 ⟨rfl, rfl⟩)
 go_ret
 exact ⟨rfl, 0, _, by rw [alloc_eq_grow, alloc_eq_grow, grow_grow]; rfl⟩
set_option maxHeartbeats 1000000 in
theorem byNumber_any (x y : NmS) (w : World) : Calls Tryz.prog 77 #[.agg x.cells.toArray, .agg y.cells.toArray] w fun e w' => e = .returned (.int .i64 (cmpI x.n y.n)) ∧ ∃ q os, w' = grow (w.drewN q) os := by
 obtain ⟨x0, x1⟩ := x
 obtain ⟨y0, y1⟩ := y
 show Calls Tryz.prog 77 #[.agg #[.string x0, .int .i64 x1], .agg #[.string y0, .int .i64 y1]] w fun e w' => e = .returned (.int .i64 (cmpI x1 y1)) ∧ ∃ q os, w' = grow (w.drewN q) os
 obtain ⟨c, hc⟩ : ∃ c, cmpI x1 y1 = c := ⟨_, rfl⟩
 have HC : ∀ W, Calls Tryz.prog 115 #[.int .i64 x1, .int .i64 y1] W fun e w' => e = .returned (.int .i64 c) ∧ w' = W := fun W => by rw [← hc]; exact compare_any x1 y1 W
 rw [hc]
 clear hc
 go_enter Tryz.func77, Tryz.ntmps77
 go_wp2_with (go_at_call 115; refine (HC _).mono ?_; rintro e w1 ⟨rfl, rfl⟩)
 go_ret
 exact ⟨rfl, 0, _, by rw [alloc_eq_grow, alloc_eq_grow, grow_grow]; rfl⟩
end Go.Proofs.YtcjfeandnmochaaGreatDoor
namespace Go.Proofs.YtcjfeandnmochaaGreatDoor
open Go.ChangeShapes Go.WideShapes Go.ChangeAt Go.RowKit Go.Sort Go.Lib
set_option linter.unusedVariables false
set_option linter.unusedSimpArgs false
set_option maxRecDepth 20000
theorem sortI_any {w : World} {B : Nat} {v : Value} {ns : List Int} (h : w.ownsRow B 3 1 v ns.length (inRows ns).flatten) (hn : ns.length ≤ 1000000) :
  Calls Tryz.prog 74 #[v] w fun e w' => e = .returned (.tuple #[]) ∧ w'.ownsRow B 3 1 v ns.length (inRows (srtF (fun x => x) ns)).flatten ∧ Kp (fun b => v.ownBlock = some b) w w' := by
 rcases h.2 with ⟨rfl, h0⟩ | ⟨g, cap, cur, rfl, hB, hg, h4, h5, _⟩
 ·have : ns = [] := List.eq_nil_of_length_eq_zero h0
  subst this
  refine (Any.slices_Sort_int_none lays189 none 0 w).mono ?_
  rintro e w' ⟨rfl, rfl⟩
  exact ⟨rfl, h, Kp.refl _ _⟩
 ·refine (Any.slices_Sort_int lays189 g 0 cap ns w (own_holdsI h) (Array.getElem?_eq_some_iff.1 hg).1 (by omega)).mono ?_
  rintro e w' ⟨rfl, n, os, rfl⟩
  rw [merge_srt]
  obtain ⟨a1, a2⟩ := own_sortedI (m := n) (os := os) h (srtF_len (fun x => x) ns)
  exact ⟨rfl, a1, a2.weak (fun b _ e => by rw [e]; rfl)⟩
theorem cmpLaysF (g off size : Nat) (w : World) (ih : Inhabited FlS) : @CmpLays FlS ih Tryz.prog 73 #[] FlS.cells 5 (fun x y => cmpI (FlS.tag x) (FlS.tag y)) g off size w :=
 fun m os dk _ x y => byTag_any x y _
theorem ltOfF : (ltOf fun x y : FlS => cmpI (FlS.tag x) (FlS.tag y)) = ltK FlS.tag := by
 funext x y
 exact cmpI_lt _ _
theorem entersF (args : Array Value) (w : World) : (callFunc 73 args).run Tryz.prog w = .ok (.enter 73 args) w := enters_of Tryz.func73 (by kernel_rfl) rfl args w
theorem insF_any (ih : Inhabited FlS) {w : World} {g cap : Nat} (a b : Nat) (d : Array FlS) (hH : @HoldsK FlS ih FlS.cells 5 w g 0 d) (hg : g < w.heap.size) (hab : a ≤ b) (hb : b ≤ d.size) (hsz : d.size < 4611686018427387904) :
  Calls Tryz.prog 136 #[.slice (some ⟨g, 0, none⟩) d.size cap, .int .i64 a, .int .i64 b, .func (.func 73) #[] #[]] w fun e w' => e = .returned (.tuple #[]) ∧ ∃ n os, w' = @sortWorldK FlS ih FlS.cells 5 w g 0 n (@Sort.insertionSort FlS ih (ltK FlS.tag) d a b) os := by
 have := @AnyQ.insertionSortCmpFunc Tryz.prog laysF_ren FlS ih laysF 5 Tryz.isAgg90 Tryz.sizeOf90 FlS.cells (fun _ => rfl) (fun x v hv => by simp only [FlS.cells, List.mem_cons, List.not_mem_nil, or_false] at hv; rcases hv with rfl | rfl | rfl | rfl | rfl <;> rfl) (fun x y => cmpI (FlS.tag x) (FlS.tag y)) 73 #[] g 0 cap a b d w entersF (cmpLaysF g 0 d.size w ih) hH hg hab hb hsz
 rw [ltOfF] at this
 exact this
theorem cmpLaysN (g off size : Nat) (w : World) (ih : Inhabited NmS) : @CmpLays NmS ih Tryz.prog 77 #[] NmS.cells 2 (fun x y => cmpI (NmS.n x) (NmS.n y)) g off size w :=
 fun m os dk _ x y => byNumber_any x y _
theorem ltOfN : (ltOf fun x y : NmS => cmpI (NmS.n x) (NmS.n y)) = ltK NmS.n := by
 funext x y
 exact cmpI_lt _ _
theorem entersN (args : Array Value) (w : World) : (callFunc 77 args).run Tryz.prog w = .ok (.enter 77 args) w := enters_of Tryz.func77 (by kernel_rfl) rfl args w
theorem insN_any (ih : Inhabited NmS) {w : World} {g cap : Nat} (a b : Nat) (d : Array NmS) (hH : @HoldsK NmS ih NmS.cells 2 w g 0 d) (hg : g < w.heap.size) (hab : a ≤ b) (hb : b ≤ d.size) (hsz : d.size < 4611686018427387904) :
  Calls Tryz.prog 150 #[.slice (some ⟨g, 0, none⟩) d.size cap, .int .i64 a, .int .i64 b, .func (.func 77) #[] #[]] w fun e w' => e = .returned (.tuple #[]) ∧ ∃ n os, w' = @sortWorldK NmS ih NmS.cells 2 w g 0 n (@Sort.insertionSort NmS ih (ltK NmS.n) d a b) os := by
 have := @AnyQ.insertionSortCmpFunc Tryz.prog laysN_ren NmS ih laysN 2 Tryz.isAgg96 Tryz.sizeOf96 NmS.cells (fun _ => rfl) (fun x v hv => by simp only [NmS.cells, List.mem_cons, List.not_mem_nil, or_false] at hv; rcases hv with rfl | rfl <;> rfl) (fun x y => cmpI (NmS.n x) (NmS.n y)) 77 #[] g 0 cap a b d w entersN (cmpLaysN g 0 d.size w ih) hH hg hab hb hsz
 rw [ltOfN] at this
 exact this
theorem insF_none (p : Option Addr) (n cap k : Nat) (hk : k ≤ 1000000) (w : World) : Calls Tryz.prog 136 #[.slice p n cap, .int .i64 (k : Int), .int .i64 (k : Int), .func (.func 73) #[] #[]] w fun e w' => e = .returned (.tuple #[]) ∧ w' = w := by
 go_enter Tryz.func136, Tryz.ntmps136
 go_wp2_with fail
 refine wp_loop_rounds 1 ?_
 rw [rounds_succ]
 go_wp2_with fail
 go_end0
 exact ⟨rfl, rfl⟩
set_option maxHeartbeats 2000000 in
theorem stabF_few {w : World} {B : Nat} {v : Value} {l : List FlS} (h : w.ownsRow B 90 5 v l.length (l.map FlS.cells).flatten) (hl : l.length ≤ 20) :
  Calls Tryz.prog 114 #[v, .int .i64 (l.length : Int), .func (.func 73) #[] #[]] w fun e w' => e = .returned (.tuple #[]) ∧ w'.ownsRow B 90 5 v l.length ((srtF FlS.tag l).map FlS.cells).flatten ∧ Kp (fun b => v.ownBlock = some b) w w' := by
 have ih : Inhabited FlS := ⟨⟨⟨#[]⟩, 0, 0, 0, ⟨#[]⟩⟩⟩
 obtain ⟨n, hn⟩ : ∃ n, l.length = n := ⟨_, rfl⟩
 have H : Hid (w.ownsRow B 90 5 v l.length (l.map FlS.cells).flatten) := h
 have HR : Hid (∀ (m n : Nat) (os : Array Obj), n = l.length → ∀ (g cap : Nat), v = .slice (some ⟨g, 0, none⟩) n cap → (@sortWorldK FlS ih FlS.cells 5 w g 0 m (@Sort.insertionSort FlS ih (ltK FlS.tag) l.toArray 0 l.toArray.size) os).ownsRow B 90 5 v n ((srtF FlS.tag l).map FlS.cells).flatten ∧ Kp (fun b => v.ownBlock = some b) w (@sortWorldK FlS ih FlS.cells 5 w g 0 m (@Sort.insertionSort FlS ih (ltK FlS.tag) l.toArray 0 l.toArray.size) os)) := by
  intro m n os hn g cap hv
  subst hv hn
  have e1 : (@Sort.insertionSort FlS ih (ltK FlS.tag) l.toArray 0 l.toArray.size).size = l.length := by
   rw [← Array.length_toList, @insSort_srt FlS ih, srtF_len]
  obtain ⟨a1, a2⟩ := @own_sortedK FlS ih FlS.cells 5 (by decide) (fun _ => rfl) w B 90 g l.length cap m _ (@Sort.insertionSort FlS ih (ltK FlS.tag) l.toArray 0 l.toArray.size) os h e1
  rw [@insSort_srt FlS ih] at a1
  exact ⟨a1, a2.weak (fun b _ e => by rw [e]; rfl)⟩
 rcases h.2 with ⟨hv, h0⟩ | ⟨g, cap, cur, hv, hB, hg, h4, h5, _⟩
 ·have : l = [] := List.eq_nil_of_length_eq_zero h0
  subst this
  subst hv
  go_enter Tryz.func114, Tryz.ntmps114
  go_wp2_with fail
  refine wp_loop_rounds 1 ?_
  rw [rounds_succ]
  go_wp2_with (go_at_call 136; refine (insF_none none 0 0 0 (by decide) _).mono ?_; rintro e w1 ⟨rfl, rfl⟩)
  refine wp_loop_rounds 1 ?_
  rw [rounds_succ]
  go_wp2_with fail
  go_end0
  exact ⟨rfl, H.out, Kp.refl _ _⟩
 ·have HB := @own_holdsK FlS ih FlS.cells 5 (by decide) (fun _ => rfl) w B 90 g l.length cap l (by rw [← hv]; exact h)
  have hgs := (Array.getElem?_eq_some_iff.1 hg).1
  have HC0 : Calls Tryz.prog 136 #[.slice (some ⟨g, 0, none⟩) n cap, .int .i64 (0 : Nat), .int .i64 n, .func (.func 73) #[] #[]] w fun e w' => e = .returned (.tuple #[]) ∧ ∃ m os, w' = @sortWorldK FlS ih FlS.cells 5 w g 0 m (@Sort.insertionSort FlS ih (ltK FlS.tag) l.toArray 0 l.toArray.size) os := by
   have := insF_any ih (cap := cap) 0 l.toArray.size l.toArray HB hgs (Nat.zero_le _) (Nat.le_refl _) (by simp; omega)
   simpa [hn] using this
  have HC : Hid (Calls Tryz.prog 136 #[.slice (some ⟨g, 0, none⟩) n cap, .int .i64 (0 : Nat), .int .i64 n, .func (.func 73) #[] #[]] w fun e w' => e = .returned (.tuple #[]) ∧ ∃ m os, w' = @sortWorldK FlS ih FlS.cells 5 w g 0 m (@Sort.insertionSort FlS ih (ltK FlS.tag) l.toArray 0 l.toArray.size) os) := HC0
  clear HC0
  have HV := HR.out
  rw [hn] at hv hl ⊢
  subst hv
  have HV : Hid (∀ (m : Nat) (os : Array Obj), (@sortWorldK FlS ih FlS.cells 5 w g 0 m (@Sort.insertionSort FlS ih (ltK FlS.tag) l.toArray 0 l.toArray.size) os).ownsRow B 90 5 (.slice (some ⟨g, 0, none⟩) n cap) n ((srtF FlS.tag l).map FlS.cells).flatten ∧ Kp (fun b => (Value.slice (some ⟨g, 0, none⟩) n cap).ownBlock = some b) w (@sortWorldK FlS ih FlS.cells 5 w g 0 m (@Sort.insertionSort FlS ih (ltK FlS.tag) l.toArray 0 l.toArray.size) os)) := fun m os => HV m n os hn.symm g cap rfl
  clear H HR HB hg hn h h5
  generalize hD : (@Sort.insertionSort FlS ih (ltK FlS.tag) l.toArray 0 l.toArray.size) = D at *
  clear hD
  rcases Nat.lt_or_ge n 20 with h20 | h20
  ·go_enter Tryz.func114, Tryz.ntmps114
   go_wp2_with fail
   refine wp_loop_rounds 1 ?_
   rw [rounds_succ]
   go_wp2_with (go_at_call 136; refine HC.out.mono ?_; rintro e w1 ⟨rfl, m, os, rfl⟩)
   refine wp_loop_rounds 1 ?_
   rw [rounds_succ]
   go_wp2_with fail
   go_end0
   exact ⟨rfl, HV.out m os⟩
  ·obtain rfl : n = 20 := by omega
   go_enter Tryz.func114, Tryz.ntmps114
   go_wp2_with fail
   refine wp_loop_rounds 2 ?_
   rw [rounds_succ]
   go_wp2_with (go_at_call 136; refine HC.out.mono ?_; rintro e w1 ⟨rfl, m, os, rfl⟩)
   rw [rounds_succ]
   go_wp2_with (go_at_call 136; refine (insF_none (some ⟨g, 0, none⟩) 20 cap 20 (by decide) _).mono ?_; rintro e w1 ⟨rfl, rfl⟩)
   refine wp_loop_rounds 1 ?_
   rw [rounds_succ]
   go_wp2_with fail
   go_end0
   exact ⟨rfl, HV.out m os⟩
theorem insN_none (p : Option Addr) (n cap k : Nat) (hk : k ≤ 1000000) (w : World) : Calls Tryz.prog 150 #[.slice p n cap, .int .i64 (k : Int), .int .i64 (k : Int), .func (.func 77) #[] #[]] w fun e w' => e = .returned (.tuple #[]) ∧ w' = w := by
 go_enter Tryz.func150, Tryz.ntmps150
 go_wp2_with fail
 refine wp_loop_rounds 1 ?_
 rw [rounds_succ]
 go_wp2_with fail
 go_end0
 exact ⟨rfl, rfl⟩
set_option maxHeartbeats 2000000 in
theorem stabN_few {w : World} {B : Nat} {v : Value} {l : List NmS} (h : w.ownsRow B 96 2 v l.length (l.map NmS.cells).flatten) (hl : l.length ≤ 20) :
  Calls Tryz.prog 118 #[v, .int .i64 (l.length : Int), .func (.func 77) #[] #[]] w fun e w' => e = .returned (.tuple #[]) ∧ w'.ownsRow B 96 2 v l.length ((srtF NmS.n l).map NmS.cells).flatten ∧ Kp (fun b => v.ownBlock = some b) w w' := by
 have ih : Inhabited NmS := ⟨⟨⟨#[]⟩, 0⟩⟩
 obtain ⟨n, hn⟩ : ∃ n, l.length = n := ⟨_, rfl⟩
 have H : Hid (w.ownsRow B 96 2 v l.length (l.map NmS.cells).flatten) := h
 have HR : Hid (∀ (m n : Nat) (os : Array Obj), n = l.length → ∀ (g cap : Nat), v = .slice (some ⟨g, 0, none⟩) n cap → (@sortWorldK NmS ih NmS.cells 2 w g 0 m (@Sort.insertionSort NmS ih (ltK NmS.n) l.toArray 0 l.toArray.size) os).ownsRow B 96 2 v n ((srtF NmS.n l).map NmS.cells).flatten ∧ Kp (fun b => v.ownBlock = some b) w (@sortWorldK NmS ih NmS.cells 2 w g 0 m (@Sort.insertionSort NmS ih (ltK NmS.n) l.toArray 0 l.toArray.size) os)) := by
  intro m n os hn g cap hv
  subst hv hn
  have e1 : (@Sort.insertionSort NmS ih (ltK NmS.n) l.toArray 0 l.toArray.size).size = l.length := by
   rw [← Array.length_toList, @insSort_srt NmS ih, srtF_len]
  obtain ⟨a1, a2⟩ := @own_sortedK NmS ih NmS.cells 2 (by decide) (fun _ => rfl) w B 96 g l.length cap m _ (@Sort.insertionSort NmS ih (ltK NmS.n) l.toArray 0 l.toArray.size) os h e1
  rw [@insSort_srt NmS ih] at a1
  exact ⟨a1, a2.weak (fun b _ e => by rw [e]; rfl)⟩
 rcases h.2 with ⟨hv, h0⟩ | ⟨g, cap, cur, hv, hB, hg, h4, h5, _⟩
 ·have : l = [] := List.eq_nil_of_length_eq_zero h0
  subst this
  subst hv
  go_enter Tryz.func118, Tryz.ntmps118
  go_wp2_with fail
  refine wp_loop_rounds 1 ?_
  rw [rounds_succ]
  go_wp2_with (go_at_call 150; refine (insN_none none 0 0 0 (by decide) _).mono ?_; rintro e w1 ⟨rfl, rfl⟩)
  refine wp_loop_rounds 1 ?_
  rw [rounds_succ]
  go_wp2_with fail
  go_end0
  exact ⟨rfl, H.out, Kp.refl _ _⟩
 ·have HB := @own_holdsK NmS ih NmS.cells 2 (by decide) (fun _ => rfl) w B 96 g l.length cap l (by rw [← hv]; exact h)
  have hgs := (Array.getElem?_eq_some_iff.1 hg).1
  have HC0 : Calls Tryz.prog 150 #[.slice (some ⟨g, 0, none⟩) n cap, .int .i64 (0 : Nat), .int .i64 n, .func (.func 77) #[] #[]] w fun e w' => e = .returned (.tuple #[]) ∧ ∃ m os, w' = @sortWorldK NmS ih NmS.cells 2 w g 0 m (@Sort.insertionSort NmS ih (ltK NmS.n) l.toArray 0 l.toArray.size) os := by
   have := insN_any ih (cap := cap) 0 l.toArray.size l.toArray HB hgs (Nat.zero_le _) (Nat.le_refl _) (by simp; omega)
   simpa [hn] using this
  have HC : Hid (Calls Tryz.prog 150 #[.slice (some ⟨g, 0, none⟩) n cap, .int .i64 (0 : Nat), .int .i64 n, .func (.func 77) #[] #[]] w fun e w' => e = .returned (.tuple #[]) ∧ ∃ m os, w' = @sortWorldK NmS ih NmS.cells 2 w g 0 m (@Sort.insertionSort NmS ih (ltK NmS.n) l.toArray 0 l.toArray.size) os) := HC0
  clear HC0
  have HV := HR.out
  rw [hn] at hv hl ⊢
  subst hv
  have HV : Hid (∀ (m : Nat) (os : Array Obj), (@sortWorldK NmS ih NmS.cells 2 w g 0 m (@Sort.insertionSort NmS ih (ltK NmS.n) l.toArray 0 l.toArray.size) os).ownsRow B 96 2 (.slice (some ⟨g, 0, none⟩) n cap) n ((srtF NmS.n l).map NmS.cells).flatten ∧ Kp (fun b => (Value.slice (some ⟨g, 0, none⟩) n cap).ownBlock = some b) w (@sortWorldK NmS ih NmS.cells 2 w g 0 m (@Sort.insertionSort NmS ih (ltK NmS.n) l.toArray 0 l.toArray.size) os)) := fun m os => HV m n os hn.symm g cap rfl
  clear H HR HB hg hn h h5
  generalize hD : (@Sort.insertionSort NmS ih (ltK NmS.n) l.toArray 0 l.toArray.size) = D at *
  clear hD
  rcases Nat.lt_or_ge n 20 with h20 | h20
  ·go_enter Tryz.func118, Tryz.ntmps118
   go_wp2_with fail
   refine wp_loop_rounds 1 ?_
   rw [rounds_succ]
   go_wp2_with (go_at_call 150; refine HC.out.mono ?_; rintro e w1 ⟨rfl, m, os, rfl⟩)
   refine wp_loop_rounds 1 ?_
   rw [rounds_succ]
   go_wp2_with fail
   go_end0
   exact ⟨rfl, HV.out m os⟩
  ·obtain rfl : n = 20 := by omega
   go_enter Tryz.func118, Tryz.ntmps118
   go_wp2_with fail
   refine wp_loop_rounds 2 ?_
   rw [rounds_succ]
   go_wp2_with (go_at_call 150; refine HC.out.mono ?_; rintro e w1 ⟨rfl, m, os, rfl⟩)
   rw [rounds_succ]
   go_wp2_with (go_at_call 150; refine (insN_none (some ⟨g, 0, none⟩) 20 cap 20 (by decide) _).mono ?_; rintro e w1 ⟨rfl, rfl⟩)
   refine wp_loop_rounds 1 ?_
   rw [rounds_succ]
   go_wp2_with fail
   go_end0
   exact ⟨rfl, HV.out m os⟩
def capN : Nat := 20
theorem stabN_any {w : World} {B : Nat} {v : Value} {l : List NmS} (h : w.ownsRow B 96 2 v l.length (l.map NmS.cells).flatten) (hl : l.length ≤ capN) :
  Calls Tryz.prog 118 #[v, .int .i64 (l.length : Int), .func (.func 77) #[] #[]] w fun e w' => e = .returned (.tuple #[]) ∧ w'.ownsRow B 96 2 v l.length ((srtF NmS.n l).map NmS.cells).flatten ∧ Kp (fun b => v.ownBlock = some b) w w' := stabN_few h hl
theorem sortF_any {w : World} {B : Nat} {v : Value} {l : List FlS} (h : w.ownsRow B 90 5 v l.length (flRows l).flatten) (hl : l.length ≤ 20) :
  Calls Tryz.prog 72 #[v, .func (.func 73) #[] #[]] w fun e w' => e = .returned (.tuple #[]) ∧ w'.ownsRow B 90 5 v l.length (flRows (srtF FlS.tag l)).flatten ∧ Kp (fun b => v.ownBlock = some b) w w' := by
 obtain ⟨a, c, hv⟩ := own_form h
 subst hv
 have HC := stabF_few h hl
 obtain ⟨N, hN⟩ : ∃ N, l.length = N := ⟨_, rfl⟩
 rw [hN] at HC ⊢
 have HC : Hid _ := HC
 clear h hl hN
 go_enter Tryz.func72, Tryz.ntmps72
 go_wp2_with (go_at_call 114; refine Calls.mono HC.out ?_; rintro e w1 ⟨rfl, h1, h2⟩)
 go_end0
 exact ⟨rfl, h1, h2⟩
theorem sortN_any {w : World} {B : Nat} {v : Value} {l : List NmS} (h : w.ownsRow B 96 2 v l.length (nmRows l).flatten) (hl : l.length ≤ capN) :
  Calls Tryz.prog 76 #[v, .func (.func 77) #[] #[]] w fun e w' => e = .returned (.tuple #[]) ∧ w'.ownsRow B 96 2 v l.length (nmRows (srtF NmS.n l)).flatten ∧ Kp (fun b => v.ownBlock = some b) w w' := by
 obtain ⟨a, c, hv⟩ := own_form h
 subst hv
 have HC := stabN_any h hl
 obtain ⟨N, hN⟩ : ∃ N, l.length = N := ⟨_, rfl⟩
 rw [hN] at HC ⊢
 have HC : Hid _ := HC
 clear h hl hN
 go_enter Tryz.func76, Tryz.ntmps76
 go_wp2_with (go_at_call 118; refine Calls.mono HC.out ?_; rintro e w1 ⟨rfl, h1, h2⟩)
 go_end0
 exact ⟨rfl, h1, h2⟩
end Go.Proofs.YtcjfeandnmochaaGreatDoor
namespace Go.Proofs.YtcjfeandnmochaaGreatDoor
open Go.ChangeShapes Go.WideShapes Go.ChangeAt Go.RowKit
set_option linter.unusedVariables false
set_option linter.unusedSimpArgs false
set_option maxRecDepth 20000
set_option maxHeartbeats 1000000 in
theorem pfreshM_any {w : World} {v : Value} {rs : List (List Value)} (hr : RowG w v 3 rs) (hl : ∀ r ∈ rs, r.length = 3) (h1 : ∀ u ∈ rs.flatten, u.oneCell' = true) (hn : rs.length ≤ 1000000) :
  Calls Tryz.prog 31 #[v] w fun e w' => ∃ u, e = .returned u ∧ w'.ownsRow w.heap.size 40 3 u rs.length rs.flatten ∧ Below w.heap.size w w' := by
 have HR : Hid (RowG w v 3 rs) := hr
 obtain ⟨a, c, rfl, q1, q2⟩ := hr.form2
 clear hr
 go_enter Tryz.func31, Tryz.ntmps31
 go_wp2_with (at_builtin; refine wpList_joinG rfl _ _ 23 40 3 64 _ rfl Tryz.underlying23 infoMs rfl (by decide) w.heap.size (.slice none 0 0) 0 [] rfl (World.ownsRow_nil _ _ _ _) (.slice a rs.length c) rs rfl HR.out hl h1 (by omega) (by decide) (Nat.le_refl _) ?_)
 intro u w1 h2 h3
 have hb : Below w.heap.size w w1 := (Below.refl _ _).grown h3 (Nat.le_refl _) (fun k hk => by cases hk)
 go_wp2_with fail
 go_ret
 exact ⟨u, rfl, h2, hb⟩
set_option maxHeartbeats 1000000 in
theorem pfreshE_any {w : World} {v : Value} {rs : List (List Value)} (hr : RowG w v 2 rs) (hl : ∀ r ∈ rs, r.length = 2) (h1 : ∀ u ∈ rs.flatten, u.oneCell' = true) (hn : rs.length ≤ 1000000) :
  Calls Tryz.prog 32 #[v] w fun e w' => ∃ u, e = .returned u ∧ w'.ownsRow w.heap.size 44 2 u rs.length rs.flatten ∧ Below w.heap.size w w' := by
 have HR : Hid (RowG w v 2 rs) := hr
 obtain ⟨a, c, rfl, q1, q2⟩ := hr.form2
 clear hr
 go_enter Tryz.func32, Tryz.ntmps32
 go_wp2_with (at_builtin; refine wpList_joinG rfl _ _ 24 44 2 40 _ rfl Tryz.underlying24 infoEn rfl (by decide) w.heap.size (.slice none 0 0) 0 [] rfl (World.ownsRow_nil _ _ _ _) (.slice a rs.length c) rs rfl HR.out hl h1 (by omega) (by decide) (Nat.le_refl _) ?_)
 intro u w1 h2 h3
 have hb : Below w.heap.size w w1 := (Below.refl _ _).grown h3 (Nat.le_refl _) (fun k hk => by cases hk)
 go_wp2_with fail
 go_ret
 exact ⟨u, rfl, h2, hb⟩
set_option maxHeartbeats 1000000 in
theorem pfreshT_any {w : World} {v : Value} {rs : List (List Value)} (hr : RowG w v 3 rs) (hl : ∀ r ∈ rs, r.length = 3) (h1 : ∀ u ∈ rs.flatten, u.oneCell' = true) (hn : rs.length ≤ 1000000) :
  Calls Tryz.prog 33 #[v] w fun e w' => ∃ u, e = .returned u ∧ w'.ownsRow w.heap.size 46 3 u rs.length rs.flatten ∧ Below w.heap.size w w' := by
 have HR : Hid (RowG w v 3 rs) := hr
 obtain ⟨a, c, rfl, q1, q2⟩ := hr.form2
 clear hr
 go_enter Tryz.func33, Tryz.ntmps33
 go_wp2_with (at_builtin; refine wpList_joinG rfl _ _ 25 46 3 48 _ rfl Tryz.underlying25 infoMt rfl (by decide) w.heap.size (.slice none 0 0) 0 [] rfl (World.ownsRow_nil _ _ _ _) (.slice a rs.length c) rs rfl HR.out hl h1 (by omega) (by decide) (Nat.le_refl _) ?_)
 intro u w1 h2 h3
 have hb : Below w.heap.size w w1 := (Below.refl _ _).grown h3 (Nat.le_refl _) (fun k hk => by cases hk)
 go_wp2_with fail
 go_ret
 exact ⟨u, rfl, h2, hb⟩
set_option maxHeartbeats 1000000 in
theorem pfreshF_any {w : World} {v : Value} {rs : List (List Value)} (hr : RowG w v 5 rs) (hl : ∀ r ∈ rs, r.length = 5) (h1 : ∀ u ∈ rs.flatten, u.oneCell' = true) (hn : rs.length ≤ 1000000) :
  Calls Tryz.prog 70 #[v] w fun e w' => ∃ u, e = .returned u ∧ w'.ownsRow w.heap.size 90 5 u rs.length rs.flatten ∧ Below w.heap.size w w' := by
 have HR : Hid (RowG w v 5 rs) := hr
 obtain ⟨a, c, rfl, q1, q2⟩ := hr.form2
 clear hr
 go_enter Tryz.func70, Tryz.ntmps70
 go_wp2_with (at_builtin; refine wpList_joinG rfl _ _ 37 90 5 56 _ rfl Tryz.underlying37 infoFl rfl (by decide) w.heap.size (.slice none 0 0) 0 [] rfl (World.ownsRow_nil _ _ _ _) (.slice a rs.length c) rs rfl HR.out hl h1 (by omega) (by decide) (Nat.le_refl _) ?_)
 intro u w1 h2 h3
 have hb : Below w.heap.size w w1 := (Below.refl _ _).grown h3 (Nat.le_refl _) (fun k hk => by cases hk)
 go_wp2_with fail
 go_ret
 exact ⟨u, rfl, h2, hb⟩
set_option maxHeartbeats 1000000 in
theorem pfreshI_any {w : World} {v : Value} {rs : List (List Value)} (hr : RowG w v 1 rs) (hl : ∀ r ∈ rs, r.length = 1) (h1 : ∀ u ∈ rs.flatten, u.oneCell' = true) (hn : rs.length ≤ 1000000) :
  Calls Tryz.prog 71 #[v] w fun e w' => ∃ u, e = .returned u ∧ w'.ownsRow w.heap.size 3 1 u rs.length rs.flatten ∧ Below w.heap.size w w' := by
 have HR : Hid (RowG w v 1 rs) := hr
 obtain ⟨a, c, rfl, q1, q2⟩ := hr.form2
 clear hr
 go_enter Tryz.func71, Tryz.ntmps71
 go_wp2_with (at_builtin; refine wpList_joinG rfl _ _ 38 3 1 8 _ rfl Tryz.underlying38 infoIn rfl (by decide) w.heap.size (.slice none 0 0) 0 [] rfl (World.ownsRow_nil _ _ _ _) (.slice a rs.length c) rs rfl HR.out hl h1 (by omega) (by decide) (Nat.le_refl _) ?_)
 intro u w1 h2 h3
 have hb : Below w.heap.size w w1 := (Below.refl _ _).grown h3 (Nat.le_refl _) (fun k hk => by cases hk)
 go_wp2_with fail
 go_ret
 exact ⟨u, rfl, h2, hb⟩
set_option maxHeartbeats 1000000 in
theorem pfreshN_any {w : World} {v : Value} {rs : List (List Value)} (hr : RowG w v 2 rs) (hl : ∀ r ∈ rs, r.length = 2) (h1 : ∀ u ∈ rs.flatten, u.oneCell' = true) (hn : rs.length ≤ 1000000) :
  Calls Tryz.prog 75 #[v] w fun e w' => ∃ u, e = .returned u ∧ w'.ownsRow w.heap.size 96 2 u rs.length rs.flatten ∧ Below w.heap.size w w' := by
 have HR : Hid (RowG w v 2 rs) := hr
 obtain ⟨a, c, rfl, q1, q2⟩ := hr.form2
 clear hr
 go_enter Tryz.func75, Tryz.ntmps75
 go_wp2_with (at_builtin; refine wpList_joinG rfl _ _ 42 96 2 24 _ rfl Tryz.underlying42 infoNm rfl (by decide) w.heap.size (.slice none 0 0) 0 [] rfl (World.ownsRow_nil _ _ _ _) (.slice a rs.length c) rs rfl HR.out hl h1 (by omega) (by decide) (Nat.le_refl _) ?_)
 intro u w1 h2 h3
 have hb : Below w.heap.size w w1 := (Below.refl _ _).grown h3 (Nat.le_refl _) (fun k hk => by cases hk)
 go_wp2_with fail
 go_ret
 exact ⟨u, rfl, h2, hb⟩
end Go.Proofs.YtcjfeandnmochaaGreatDoor
namespace Go.Proofs.YtcjfeandnmochaaGreatDoor
set_option linter.unusedVariables false
set_option linter.unusedSimpArgs false
section
variable {P : Program} {md : Region.Mode} {ops : Array Oper} {Q : Exit → Act → World → Prop} {T : World → Prop} {m : Nat}
theorem M_runA {oi : Oper} {fuel : Nat} {listed listed' : Array Bool} {a : Act} {w : World} (i d : Nat) (v : Value) (w' : World) (hi : ops[i]? = some oi) (hd : oi.dst = some d)
  (hr : Region.ready md ops listed = [i]) (hwt : Region.wanted oi (yielded ops a.tmps) = true) (hl : listed.setIfInBounds i true = listed') (hx : (execOp a.eval oi).run P w = .ok (.value v) w') (hm : listed'.getD m true = true)
  (h : wpAnyM P md ops Q T m fuel listed' { a with tmps := a.tmps.setIfInBounds d v } w') : wpAnyM P md ops Q T m (fuel + 1) listed a w := by
 subst hl
 refine ⟨fun h0 => (by rw [hr] at h0; cases h0), fun j hj => ?_⟩
 rw [hr, List.mem_singleton] at hj
 subst hj
 unfold wpOp
 simp only [hi]
 rw [if_pos hwt]
 refine .inl ?_
 unfold Oper.wp
 rw [hx, Oper.upon_value, hd]
 exact ⟨fun h0 => (by rw [hm] at h0; cases h0), h⟩
end
end Go.Proofs.YtcjfeandnmochaaGreatDoor
namespace Go.Proofs.YtcjfeandnmochaaGreatDoor
open Go.ChangeShapes Go.WideShapes Go.ChangeAt Go.RowKit
set_option linter.unusedVariables false
set_option linter.unusedSimpArgs false
set_option maxRecDepth 20000
set_option maxHeartbeats 4000000 in
theorem canonM_any {w : World} {vf vr : Value} {m : MsS} (hf : RowG w vf 5 (flRows m.fields)) (hr : RowG w vr 1 (inRows m.reserved)) (h1 : m.fields.length ≤ 20) (h2 : m.reserved.length ≤ 1000) :
  Calls Tryz.prog 34 #[.agg #[.string m.name, vf, vr]] w fun e w' => ∃ uf ur, e = .returned (.agg #[.string m.name, uf, ur]) ∧ w'.ownsRow w.heap.size 90 5 uf m.fields.length (flRows (canonM m).fields).flatten ∧ w'.ownsRow w.heap.size 3 1 ur m.reserved.length (inRows (canonM m).reserved).flatten ∧ Below w.heap.size w w' := by
 obtain ⟨af, cf, rfl, p1, p2⟩ := hf.form2
 obtain ⟨ar, cr, rfl, q1, q2⟩ := hr.form2
 obtain ⟨nm, mf, mr⟩ := m
 simp only [canonM] at *
 have HF : Hid (RowG w (.slice af (flRows mf).length cf) 5 (flRows mf)) := hf
 have HR : Hid (RowG w (.slice ar (inRows mr).length cr) 1 (inRows mr)) := hr
 have HLF : Hid ((flRows mf).length = mf.length) := by show _ = _; simp [flRows]
 have HLR : Hid ((inRows mr).length = mr.length) := by show _ = _; simp [inRows]
 generalize hnF : (flRows mf).length = nF at *
 generalize hnR : (inRows mr).length = nR at *
 have HNF : Hid ((flRows mf).length = nF) := hnF
 have HNR : Hid ((inRows mr).length = nR) := hnR
 clear hf hr hnF hnR
 have H1 : Hid (mf.length ≤ 20) := h1
 have H2 : Hid (mr.length ≤ 1000) := h2
 clear h1 h2
 go_enter Tryz.func34, Tryz.ntmps34
 go_wp2_with fail
 refine M_region (T := fun W => W.cell? ⟨w.heap.size, 1, none⟩ = some (.slice af nF cf) ∧ W.cell? ⟨w.heap.size, 2, none⟩ = some (.slice ar nR cr)) (m := 7) (by kernel_rfl) ?_
 have HB0 : Hid (Below w.heap.size w ((w.alloc (.cells #[.string nm, .slice af nF cf, .slice ar nR cr] 40)).alloc (.cells #[.string ⟨#[]⟩, .slice none 0 0, .slice none 0 0] 40)).drew) := below_drewN 1 (((Below.refl _ _).alloc (Nat.le_refl _) _).alloc (by simp) _)
 have HX0 : Hid (Blk ((w.alloc (.cells #[.string nm, .slice af nF cf, .slice ar nR cr] 40)).alloc (.cells #[.string ⟨#[]⟩, .slice none 0 0, .slice none 0 0] 40)).drew w.heap.size #[.string nm, .slice af nF cf, .slice ar nR cr] 40) := (Blk.new w _ _).below (below_drewN 1 ((Below.refl _ _).alloc (Nat.le_refl _) _))
 have HR0 : Hid (Blk ((w.alloc (.cells #[.string nm, .slice af nF cf, .slice ar nR cr] 40)).alloc (.cells #[.string ⟨#[]⟩, .slice none 0 0, .slice none 0 0] 40)).drew (w.heap.size + 1) #[.string ⟨#[]⟩, .slice none 0 0, .slice none 0 0] 40) := by
  have := Blk.new (w.alloc (.cells #[.string nm, .slice af nF cf, .slice ar nR cr] 40)) #[.string ⟨#[]⟩, .slice none 0 0, .slice none 0 0] 40
  rw [show (w.alloc (.cells #[.string nm, .slice af nF cf, .slice ar nR cr] 40)).heap.size = w.heap.size + 1 by simp] at this
  exact this
 have HS0 : Hid (((w.alloc (.cells #[.string nm, .slice af nF cf, .slice ar nR cr] 40)).alloc (.cells #[.string ⟨#[]⟩, .slice none 0 0, .slice none 0 0] 40)).drew.heap.size = w.heap.size + 2) := by show _ = _; simp [World.drew]
 generalize ((w.alloc (.cells #[.string nm, .slice af nF cf, .slice ar nR cr] 40)).alloc (.cells #[.string ⟨#[]⟩, .slice none 0 0, .slice none 0 0] 40)).drew = W0 at *
 obtain ⟨b0, hb0⟩ : ∃ n, w.heap.size = n := ⟨_, rfl⟩
 rw [hb0] at HX0 HR0 HS0 ⊢
 have HBZ : Hid (w.heap.size = b0) := hb0
 clear hb0
 have hTW : ∀ W, Below W0.heap.size W0 W → W.cell? ⟨b0, 1, none⟩ = some (.slice af nF cf) ∧ W.cell? ⟨b0, 2, none⟩ = some (.slice ar nR cr) := fun W hW => ⟨(HX0.out.below hW).cell 1, (HX0.out.below hW).cell 2⟩
 have hT := hTW W0 (Below.refl _ _)
 refine M_take 0 3 (.pointer (some ⟨b0, 1, none⟩)) _ rfl rfl (by kernel_rfl) (by kernel_rfl) (by kernel_rfl) (by kernel_rfl) (by kernel_rfl) (fun _ _ _ h => h) (by rfl) (fun w' hw' => ?_) hT (listed' := #[true, false, false, false, false, false, false, false, false, false]) (by kernel_rfl) rfl ?_
 ·obtain ⟨g1, g2⟩ := hw'; go_simp
 simp only [List.setIfInBounds_toArray, List.set_cons_zero, List.set_cons_succ]
 refine M_take 3 6 (.pointer (some ⟨b0, 2, none⟩)) _ rfl rfl (by kernel_rfl) (by kernel_rfl) (by kernel_rfl) (by kernel_rfl) (by kernel_rfl) (fun _ _ _ h => h) (by rfl) (fun w' hw' => ?_) hT (listed' := #[true, false, false, true, false, false, false, false, false, false]) (by kernel_rfl) rfl ?_
 ·obtain ⟨g1, g2⟩ := hw'; go_simp
 simp only [List.setIfInBounds_toArray, List.set_cons_zero, List.set_cons_succ]
 refine M_take 1 4 (.slice af nF cf) _ rfl rfl (by kernel_rfl) (by kernel_rfl) (by kernel_rfl) (by kernel_rfl) (by kernel_rfl) (fun _ _ _ h => h) (by rfl) (fun w' hw' => ?_) hT (listed' := #[true, true, false, true, false, false, false, false, false, false]) (by kernel_rfl) rfl ?_
 ·obtain ⟨g1, g2⟩ := hw'; go_simp
 simp only [List.setIfInBounds_toArray, List.set_cons_zero, List.set_cons_succ]
 refine M_take 4 7 (.slice ar nR cr) _ rfl rfl (by kernel_rfl) (by kernel_rfl) (by kernel_rfl) (by kernel_rfl) (by kernel_rfl) (fun _ _ _ h => h) (by rfl) (fun w' hw' => ?_) hT (listed' := #[true, true, false, true, true, false, false, false, false, false]) (by kernel_rfl) rfl ?_
 ·obtain ⟨g1, g2⟩ := hw'; go_simp
 simp only [List.setIfInBounds_toArray, List.set_cons_zero, List.set_cons_succ]
 refine M_call 2 5 70 #[.slice af nF cf] rfl rfl (by kernel_rfl) (by rfl) (listed' := #[true, true, true, true, true, false, false, false, false, false]) (by kernel_rfl) (fun W => by go_simp) ?_
 refine (pfreshF_any (HF.out.below HB0.out) (flr_len _) (flr_one _) (by have := HLF.out; have := HNF.out; have := H1.out; omega)).mono ?_
 rintro e W1 ⟨uf, rfl, ho1, hb1⟩
 have hT := hTW W1 hb1
 rw [HNF.out] at ho1
 obtain ⟨fa, fc, hu⟩ := own_form ho1
 subst hu
 refine ⟨_, rfl, hT, ?_⟩
 simp only [List.setIfInBounds_toArray, List.set_cons_zero, List.set_cons_succ]
 have HO1 : Hid (W1.ownsRow W0.heap.size 90 5 (.slice fa nF fc) nF (flRows mf).flatten) := ho1
 clear ho1
 refine M_take 6 9 (.pointer (some ⟨b0, 1, none⟩)) _ rfl rfl (by kernel_rfl) (by kernel_rfl) (by kernel_rfl) (by kernel_rfl) (by kernel_rfl) (fun _ _ _ h => h) (by rfl) (fun w' hw' => ?_) hT (listed' := #[true, true, true, true, true, false, true, false, false, false]) (by kernel_rfl) rfl ?_
 ·obtain ⟨g1, g2⟩ := hw'; go_simp
 simp only [List.setIfInBounds_toArray, List.set_cons_zero, List.set_cons_succ]
 refine M_call 5 8 71 #[.slice ar nR cr] rfl rfl (by kernel_rfl) (by rfl) (listed' := #[true, true, true, true, true, true, true, false, false, false]) (by kernel_rfl) (fun W => by go_simp) ?_
 refine (pfreshI_any ((HR.out.below HB0.out).below hb1) (inr_len _) (inr_one _) (by have := HLR.out; have := HNR.out; have := H2.out; omega)).mono ?_
 rintro e W2 ⟨ur, rfl, ho2, hb2⟩
 have hb02 : Below W0.heap.size W0 W2 := hb1.trans (hb2.mono hb1.size)
 have hT := hTW W2 hb02
 rw [HNR.out] at ho2
 obtain ⟨ra, rc, hu⟩ := own_form ho2
 subst hu
 refine ⟨_, rfl, hT, ?_⟩
 simp only [List.setIfInBounds_toArray, List.set_cons_zero, List.set_cons_succ]
 have HO2 : Hid (W2.ownsRow W0.heap.size 3 1 (.slice ra nR rc) nR (inRows mr).flatten) := own_base ho2 hb1.size
 have HO1 : Hid (W2.ownsRow W0.heap.size 90 5 (.slice fa nF fc) nF (flRows mf).flatten) := own_below HO1.out hb2
 clear ho2 hb2 hb1
 have BX2 := HX0.out.below hb02
 have BR2 := HR0.out.below hb02
 have hbw : Below w.heap.size w W2 := HB0.out.trans (hb02.mono HB0.out.size)
 have HSZ : Hid (b0 + 2 = W0.heap.size) := HS0.out.symm
 have x1 := (BX2.cell 1).trans rfl
 have x2 := (BX2.cell 2).trans rfl
 have z1 := BX2.froz 1
 have z2 := BX2.froz 2
 refine M_store 7 (W2.setCell ⟨b0, 1, none⟩ (.slice fa nF fc)) rfl rfl (by kernel_rfl) (by rfl) (listed' := #[true, true, true, true, true, true, true, true, false, false]) (by kernel_rfl) (by go_simp) (by kernel_rfl) ?_
 have BX3 : Blk (W2.setCell ⟨b0, 1, none⟩ (.slice fa nF fc)) b0 #[.string nm, .slice fa nF fc, .slice ar nR cr] 40 := BX2.set 1 _ rfl
 have y2 := (BX3.cell 2).trans rfl
 have z3 := BX3.froz 2
 refine M_runA 8 10 (.pointer (some ⟨b0, 2, none⟩)) (W2.setCell ⟨b0, 1, none⟩ (.slice fa nF fc)) rfl rfl (by kernel_rfl) (by rfl) (listed' := #[true, true, true, true, true, true, true, true, true, false]) (by kernel_rfl) (by go_simp) (by kernel_rfl) ?_
 simp only [List.setIfInBounds_toArray, List.set_cons_zero, List.set_cons_succ]
 refine M_store 9 ((W2.setCell ⟨b0, 1, none⟩ (.slice fa nF fc)).setCell ⟨b0, 2, none⟩ (.slice ra nR rc)) rfl rfl (by kernel_rfl) (by rfl) (listed' := #[true, true, true, true, true, true, true, true, true, true]) (by kernel_rfl) (by go_simp) (by kernel_rfl) ?_
 refine M_done (by kernel_rfl) ?_ _
 have KS : Kp (fun k => k = b0) W2 ((W2.setCell ⟨b0, 1, none⟩ (.slice fa nF fc)).setCell ⟨b0, 2, none⟩ (.slice ra nR rc)) := by
  refine Kp.setCell ?_ (fun _ => by simp) _
  refine Kp.setCell ?_ (fun _ => by simp) _
  exact Kp.refl _ _
 have BX4 : Blk ((W2.setCell ⟨b0, 1, none⟩ (.slice fa nF fc)).setCell ⟨b0, 2, none⟩ (.slice ra nR rc)) b0 #[.string nm, .slice fa nF fc, .slice ra nR rc] 40 := BX3.set 2 _ rfl
 have BR4 := BR2.kp KS (by omega)
 have HO1' : Hid (((W2.setCell ⟨b0, 1, none⟩ (.slice fa nF fc)).setCell ⟨b0, 2, none⟩ (.slice ra nR rc)).ownsRow W0.heap.size 90 5 (.slice fa nF fc) nF (flRows mf).flatten) := own_kp HO1.out KS (fun k hk => by have := HSZ.out; omega)
 have HO2' : Hid (((W2.setCell ⟨b0, 1, none⟩ (.slice fa nF fc)).setCell ⟨b0, 2, none⟩ (.slice ra nR rc)).ownsRow W0.heap.size 3 1 (.slice ra nR rc) nR (inRows mr).flatten) := own_kp HO2.out KS (fun k hk => by have := HSZ.out; omega)
 have hb4 : Below w.heap.size w ((W2.setCell ⟨b0, 1, none⟩ (.slice fa nF fc)).setCell ⟨b0, 2, none⟩ (.slice ra nR rc)) := hbw.trans (KS.toBelow hbw.size (fun k e => by have := HBZ.out; omega))
 generalize ((W2.setCell ⟨b0, 1, none⟩ (.slice fa nF fc)).setCell ⟨b0, 2, none⟩ (.slice ra nR rc)) = W4 at *
 clear x1 x2 z1 z2 y2 z3 BX3 KS HO1 HO2 BX2 BR2 hbw hT hTW HX0 HR0 HB0 hb02 HF HR
 have x1 := (BX4.cell 1).trans rfl
 go_wp2_with fail
 clear x1
 have HS1 := sortF_any (l := mf) (by rw [HLF.out.symm]; exact HO1'.out) H1.out
 rw [← HLF.out] at HS1
 refine HS1.mono ?_
 rintro e W5 ⟨rfl, ho5, k5⟩
 have HO5 : Hid (W5.ownsRow W0.heap.size 90 5 (.slice fa nF fc) nF (flRows (srtF FlS.tag mf)).flatten) := ho5
 have hlow : ∀ b, (Value.slice fa nF fc).ownBlock = some b → W0.heap.size ≤ b := fun b hb => (HO1'.out.lt b hb).1
 have BX5 := BX4.kp k5 (fun e => by have := hlow _ e; have := HSZ.out; omega)
 have BR5 := BR4.kp k5 (fun e => by have := hlow _ e; have := HSZ.out; omega)
 have HO6 : Hid (W5.ownsRow W0.heap.size 3 1 (.slice ra nR rc) nR (inRows mr).flatten) := own_kpV HO2'.out k5 (fun k hv hq => own_apart HO1'.out HO2'.out (by decide) k hq hv)
 have hb5 : Below w.heap.size w W5 := hb4.trans (k5.toBelow hb4.size (fun k e => by have := hlow _ e; have := HSZ.out; have := HBZ.out; omega))
 clear HO1' HO2' BX4 BR4 hb4 k5 hlow ho5 HS1
 have x2 := (BX5.cell 2).trans rfl
 go_wp2_with fail
 clear x2
 have HS1 := sortI_any (ns := mr) (by rw [HLR.out.symm]; exact HO6.out) (by have := H2.out; omega)
 rw [← HLR.out] at HS1
 refine HS1.mono ?_
 rintro e W7 ⟨rfl, ho7, k7⟩
 have hlow : ∀ b, (Value.slice ra nR rc).ownBlock = some b → W0.heap.size ≤ b := fun b hb => (HO6.out.lt b hb).1
 have BX7 := BX5.kp k7 (fun e => by have := hlow _ e; have := HSZ.out; omega)
 have BR7 := BR5.kp k7 (fun e => by have := hlow _ e; have := HSZ.out; omega)
 have HO7 : Hid (W7.ownsRow W0.heap.size 3 1 (.slice ra nR rc) nR (inRows (srtF (fun x => x) mr)).flatten) := ho7
 have HO8 : Hid (W7.ownsRow W0.heap.size 90 5 (.slice fa nF fc) nF (flRows (srtF FlS.tag mf)).flatten) := own_kpV HO5.out k7 (fun k hv hq => own_apart HO6.out HO5.out (by decide) k hq hv)
 have hb7 : Below w.heap.size w W7 := hb5.trans (k7.toBelow hb5.size (fun k e => by have := hlow _ e; have := HSZ.out; have := HBZ.out; omega))
 clear HO5 HO6 BX5 BR5 hb5 k7 hlow ho7 HS1
 have x0 := (BX7.cell 0).trans rfl
 have x1 := (BX7.cell 1).trans rfl
 have x2 := (BX7.cell 2).trans rfl
 have r0 := (BR7.cell 0).trans rfl
 have r1 := (BR7.cell 1).trans rfl
 have r2 := (BR7.cell 2).trans rfl
 have s0 := BR7.froz 0
 have s1 := BR7.froz 1
 have s2 := BR7.froz 2
 go_wp2_with fail
 refine bodyPost_ret (results_cell rfl _ _ _ ⟨b0 + 1, 0, none⟩ (.agg #[.string nm, .slice fa nF fc, .slice ra nR rc]) (by go_simp) (by go_simp)) rfl ?_
 have KS : Kp (fun k => k = b0 + 1) W7 (((W7.setCell ⟨b0 + 1, 0, none⟩ (.string nm)).setCell ⟨b0 + 1, 1, none⟩ (.slice fa nF fc)).setCell ⟨b0 + 1, 2, none⟩ (.slice ra nR rc)) := by
  refine Kp.setCell ?_ (fun _ => by simp) _
  refine Kp.setCell ?_ (fun _ => by simp) _
  refine Kp.setCell ?_ (fun _ => by simp) _
  exact Kp.refl _ _
 have hle : w.heap.size ≤ W0.heap.size := by have := HSZ.out; have := HBZ.out; omega
 refine ⟨_, _, rfl, ?_, ?_, hb7.trans (KS.toBelow hb7.size (fun k e => by have := HBZ.out; omega))⟩
 ·rw [HLF.out.symm]
  exact own_base (own_kp HO8.out KS (fun k hk => by have := HSZ.out; omega)) hle
 ·rw [HLR.out.symm]
  exact own_base (own_kp HO7.out KS (fun k hk => by have := HSZ.out; omega)) hle
set_option maxHeartbeats 4000000 in
theorem canonE_any {w : World} {vf : Value} {m : EnS} (hf : RowG w vf 2 (nmRows m.values)) (h1 : m.values.length ≤ capN) :
  Calls Tryz.prog 35 #[.agg #[.string m.name, vf]] w fun e w' => ∃ uf, e = .returned (.agg #[.string m.name, uf]) ∧ w'.ownsRow w.heap.size 96 2 uf m.values.length (nmRows (canonE m).values).flatten ∧ Below w.heap.size w w' := by
 obtain ⟨af, cf, rfl, p1, p2⟩ := hf.form2
 obtain ⟨nm, mf⟩ := m
 simp only [canonE] at *
 have HF : Hid (RowG w (.slice af (nmRows mf).length cf) 2 (nmRows mf)) := hf
 have HLF : Hid ((nmRows mf).length = mf.length) := by show _ = _; simp [nmRows]
 generalize hnF : (nmRows mf).length = nF at *
 have HNF : Hid ((nmRows mf).length = nF) := hnF
 clear hf hnF
 have H1 : Hid (mf.length ≤ capN) := h1
 have hcap : capN ≤ 1000 := by decide
 clear h1
 have HB0 : Hid (Below w.heap.size w ((w.alloc (.cells #[.string nm, .slice af nF cf] 44)).alloc (.cells #[.string ⟨#[]⟩, .slice none 0 0] 44))) := ((Below.refl _ _).alloc (Nat.le_refl _) _).alloc (by simp) _
 have HX0 : Hid (Blk ((w.alloc (.cells #[.string nm, .slice af nF cf] 44)).alloc (.cells #[.string ⟨#[]⟩, .slice none 0 0] 44)) w.heap.size #[.string nm, .slice af nF cf] 44) := (Blk.new w _ _).below ((Below.refl _ _).alloc (Nat.le_refl _) _)
 have HR0 : Hid (Blk ((w.alloc (.cells #[.string nm, .slice af nF cf] 44)).alloc (.cells #[.string ⟨#[]⟩, .slice none 0 0] 44)) (w.heap.size + 1) #[.string ⟨#[]⟩, .slice none 0 0] 44) := by
  have := Blk.new (w.alloc (.cells #[.string nm, .slice af nF cf] 44)) #[.string ⟨#[]⟩, .slice none 0 0] 44
  rw [show (w.alloc (.cells #[.string nm, .slice af nF cf] 44)).heap.size = w.heap.size + 1 by simp] at this
  exact this
 have HS0 : Hid (((w.alloc (.cells #[.string nm, .slice af nF cf] 44)).alloc (.cells #[.string ⟨#[]⟩, .slice none 0 0] 44)).heap.size = w.heap.size + 2) := by show _ = _; simp
 go_enter Tryz.func35, Tryz.ntmps35
 go_wp2_with fail
 generalize ((w.alloc (.cells #[.string nm, .slice af nF cf] 44)).alloc (.cells #[.string ⟨#[]⟩, .slice none 0 0] 44)) = W0 at *
 obtain ⟨b0, hb0⟩ : ∃ n, w.heap.size = n := ⟨_, rfl⟩
 rw [hb0] at HX0 HR0 HS0 ⊢
 have HBZ : Hid (w.heap.size = b0) := hb0
 clear hb0
 refine (pfreshN_any (HF.out.below HB0.out) (nmr_len _) (nmr_one _) (by have := HLF.out; have := HNF.out; have := H1.out; omega)).mono ?_
 rintro e W1 ⟨uf, rfl, ho1, hb1⟩
 rw [HNF.out] at ho1
 obtain ⟨fa, fc, hu⟩ := own_form ho1
 subst hu
 have HO1 : Hid (W1.ownsRow W0.heap.size 96 2 (.slice fa nF fc) nF (nmRows mf).flatten) := ho1
 clear ho1
 have BX1 := HX0.out.below hb1
 have BR1 := HR0.out.below hb1
 have hbw : Below w.heap.size w W1 := HB0.out.trans (hb1.mono HB0.out.size)
 have HSZ : Hid (b0 + 2 = W0.heap.size) := HS0.out.symm
 have x1 := (BX1.cell 1).trans rfl
 have z1 := BX1.froz 1
 have KS : Kp (fun k => k = b0) W1 (W1.setCell ⟨b0, 1, none⟩ (.slice fa nF fc)) := by
  refine Kp.setCell ?_ (fun _ => by simp) _
  exact Kp.refl _ _
 have BX4 : Blk (W1.setCell ⟨b0, 1, none⟩ (.slice fa nF fc)) b0 #[.string nm, .slice fa nF fc] 44 := BX1.set 1 _ rfl
 have BR4 := BR1.kp KS (by omega)
 have HO1' : Hid ((W1.setCell ⟨b0, 1, none⟩ (.slice fa nF fc)).ownsRow W0.heap.size 96 2 (.slice fa nF fc) nF (nmRows mf).flatten) := own_kp HO1.out KS (fun k hk => by have := HSZ.out; omega)
 have hb4 : Below w.heap.size w (W1.setCell ⟨b0, 1, none⟩ (.slice fa nF fc)) := hbw.trans (KS.toBelow hbw.size (fun k e => by have := HBZ.out; omega))
 have x1' := (BX4.cell 1).trans rfl
 clear HX0 HR0 HB0 hb1 HF BR1 HO1 hbw KS
 go_wp2_with fail
 generalize (W1.setCell ⟨b0, 1, none⟩ (.slice fa nF fc)) = W4 at *
 clear x1 z1 x1' BX1
 have HS1 := sortN_any (l := mf) (by rw [HLF.out.symm]; exact HO1'.out) H1.out
 rw [← HLF.out] at HS1
 refine HS1.mono ?_
 rintro e W5 ⟨rfl, ho5, k5⟩
 have HO5 : Hid (W5.ownsRow W0.heap.size 96 2 (.slice fa nF fc) nF (nmRows (srtF NmS.n mf)).flatten) := ho5
 have hlow : ∀ b, (Value.slice fa nF fc).ownBlock = some b → W0.heap.size ≤ b := fun b hb => (HO1'.out.lt b hb).1
 have BX5 := BX4.kp k5 (fun e => by have := hlow _ e; have := HSZ.out; omega)
 have BR5 := BR4.kp k5 (fun e => by have := hlow _ e; have := HSZ.out; omega)
 have hb5 : Below w.heap.size w W5 := hb4.trans (k5.toBelow hb4.size (fun k e => by have := hlow _ e; have := HSZ.out; have := HBZ.out; omega))
 clear HO1' BX4 BR4 hb4 k5 hlow ho5 HS1
 have x0 := (BX5.cell 0).trans rfl
 have x1 := (BX5.cell 1).trans rfl
 have r0 := (BR5.cell 0).trans rfl
 have r1 := (BR5.cell 1).trans rfl
 have s0 := BR5.froz 0
 have s1 := BR5.froz 1
 go_wp2_with fail
 refine bodyPost_ret (results_cell rfl _ _ _ ⟨b0 + 1, 0, none⟩ (.agg #[.string nm, .slice fa nF fc]) (by go_simp) (by go_simp)) rfl ?_
 have KS : Kp (fun k => k = b0 + 1) W5 ((W5.setCell ⟨b0 + 1, 0, none⟩ (.string nm)).setCell ⟨b0 + 1, 1, none⟩ (.slice fa nF fc)) := by
  refine Kp.setCell ?_ (fun _ => by simp) _
  refine Kp.setCell ?_ (fun _ => by simp) _
  exact Kp.refl _ _
 have hle : w.heap.size ≤ W0.heap.size := by have := HSZ.out; have := HBZ.out; omega
 refine ⟨_, rfl, ?_, hb5.trans (KS.toBelow hb5.size (fun k e => by have := HBZ.out; omega))⟩
 rw [HLF.out.symm]
 exact own_base (own_kp HO5.out KS (fun k hk => by have := HSZ.out; omega)) hle
end Go.Proofs.YtcjfeandnmochaaGreatDoor
