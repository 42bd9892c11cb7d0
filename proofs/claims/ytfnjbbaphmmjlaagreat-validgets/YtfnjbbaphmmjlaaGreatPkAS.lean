/- Part 19 of what the proof stands on. -/
import Derived.Test.YtfnjbbaphmmjlaaGreatPkAR
import Derived.SizedLaws
import Derived.Deep.Slices
import Derived.Deep.Strs
import Derived.Lib.SmallJoins
namespace Go.Proofs.YtfnjbbaphmmjlaaGreat
open Go.ChangeShapes Go.WideShapes Go.ChangeAt Go.RowKit Go.Maps
set_option linter.unusedVariables false
set_option linter.unusedSimpArgs false
set_option maxRecDepth 20000
theorem FewS.sm {s : ScS} (h : FewS s) : ∀ m ∈ s.msgs, m.name.size ≤ 20000 ∧ ∀ f ∈ m.fields, f.name.size ≤ 20000 := fun m hm => by
 have h1 := h.eachM m hm
 refine ⟨by have := h1.1; omega, fun f hf => ?_⟩
 have h2 := (h1.2.2.2 f hf)
 unfold flFew at h2
 omega
theorem FewS.sn {s : ScS} (h : FewS s) : ∀ m ∈ s.enums, m.name.size ≤ 20000 ∧ ∀ f ∈ m.values, f.name.size ≤ 20000 := fun m hm => by
 have h1 := h.eachE m hm
 refine ⟨by have := h1.1; omega, fun f hf => ?_⟩
 have h2 := (h1.2.2 f hf)
 unfold nmFew at h2
 omega
structure MayS (s : ScS) : Prop where
 may : MayL s
 name : s.name.size ≤ 20000
 sm : ∀ m ∈ s.msgs, m.name.size ≤ 20000 ∧ ∀ f ∈ m.fields, f.name.size ≤ 20000
 sn : ∀ m ∈ s.enums, m.name.size ≤ 20000 ∧ ∀ f ∈ m.values, f.name.size ≤ 20000
 st : ∀ m ∈ s.methods, m.name.size ≤ 20000
theorem FewS.mayS {s : ScS} (h : FewS s) : MayS s := ⟨h.few.may, Nat.le_trans h.name (by decide), h.sm, h.sn, fun m hm => Nat.le_trans (h.eachT m hm).1 (by decide)⟩
set_option maxHeartbeats 8000000 in
theorem rcheck_may {w : World} {v : Value} {s : ScS} (hr : ScIn w v s) (hfs : MayS s) :
  Calls Tryz.prog 21 #[v] w fun e w' => e = .returned (.int .i64 (checkA s)) ∧ Below w.heap.size w w' := by
 obtain ⟨vm0, ve0, vt0, rfl, hm, he, ht⟩ := hr
 obtain ⟨am, cm, rfl, qm1, qm2⟩ := hm.form2
 obtain ⟨ae, ce, rfl, qe1, qe2⟩ := he.form2
 obtain ⟨at', ct, rfl, qt1, qt2⟩ := ht.form2
 have hTl : (mtRows s.methods).length = s.methods.length := by simp [mtRows]
 rw [hTl] at ht qt1 ⊢
 obtain ⟨M, hM⟩ : ∃ N, s.msgs.length = N := ⟨_, rfl⟩
 obtain ⟨E, hE⟩ : ∃ N, s.enums.length = N := ⟨_, rfl⟩
 obtain ⟨T, hT⟩ : ∃ N, s.methods.length = N := ⟨_, rfl⟩
 obtain ⟨nm, hnm⟩ : ∃ N, s.name = N := ⟨_, rfl⟩
 rw [hM] at hm qm1 ⊢
 rw [hE] at he qe1 ⊢
 rw [hT] at ht qt1 ⊢
 rw [hnm]
 have HM : Hid (MsIn w (.slice am M cm) s.msgs) := hm
 have HE : Hid (EnIn w (.slice ae E ce) s.enums) := he
 have HTR : Hid (RowG w (.slice at' T ct) 3 (mtRows s.methods)) := ht
 have HLM : Hid (s.msgs.length = M) := hM
 have HLE : Hid (s.enums.length = E) := hE
 have HLT : Hid (s.methods.length = T) := hT
 have HNM : Hid (s.name = nm) := hnm
 have HF : Hid (MayS s) := hfs
 have hM14 : M ≤ 30000 := by have := hfs.may.msgs; omega
 have hE10 : E ≤ 30000 := by have := hfs.may.enums; omega
 have hT10 : T ≤ 30000 := by have := hfs.may.meths; omega
 have hns : nm.size ≤ 20000 := by have := hfs.name; rw [hnm] at this; omega
 clear hm he ht hM hE hT hnm hfs hTl
 obtain ⟨A, hA⟩ : ∃ A, checkA s = A := ⟨_, rfl⟩
 rw [hA]
 have HA : Hid (A = checkA s) := hA.symm
 clear hA
 have hba : Below w.heap.size w (w.alloc (.cells #[.string nm, .slice am M cm, .slice ae E ce, .slice at' T ct] 26)) := (Below.refl _ _).alloc (Nat.le_refl _) _
 have BX0 := Blk.new w #[.string nm, .slice am M cm, .slice ae E ce, .slice at' T ct] 26
 go_enter Tryz.func21, Tryz.ntmps21
 go_wp2_with fail
 refine (rfname_any nm _ hns).mono ?_
 rintro e w1 ⟨rfl, hb1⟩
 have hbw1 : Below w.heap.size w w1 := hba.trans (hb1.mono hba.size)
 have BX1 := BX0.below hb1
 clear hb1 hba BX0
 cases hn : nameB nm with
 | false =>
  have HA2 : Hid (A = 6) := by show _ = _; rw [HA.out]; unfold checkA wholeA; rw [HNM.out, if_pos hn]; rfl
  clear HA hn
  go_wp2_with fail
  go_ret
  exact ⟨ret_e HA2.out.symm, hbw1⟩
 | true =>
  have c0 : w1.cell? ⟨w.heap.size, 0, none⟩ = some (.string nm) := BX1.cell 0
  have c1 : w1.cell? ⟨w.heap.size, 1, none⟩ = some (.slice am M cm) := BX1.cell 1
  have c2 : w1.cell? ⟨w.heap.size, 2, none⟩ = some (.slice ae E ce) := BX1.cell 2
  have c3 : w1.cell? ⟨w.heap.size, 3, none⟩ = some (.slice at' T ct) := BX1.cell 3
  by_cases hM0 : M = 0
  ·have HA2 : Hid (A = 12) := by show _ = _; rw [HA.out]; unfold checkA wholeA; rw [HNM.out, if_neg (by rw [hn]; decide), if_pos (by rw [HLM.out]; exact hM0)]; rfl
   clear HA hn
   subst hM0
   go_wp2_with fail
   go_ret
   exact ⟨ret_e HA2.out.symm, hbw1⟩
  by_cases hbig : 10 < M
  ·have HA2 : Hid (A = 4) := by show _ = _; rw [HA.out]; unfold checkA wholeA; rw [HNM.out, if_neg (by rw [hn]; decide), if_neg (by rw [HLM.out]; exact hM0), if_pos (by unfold bigS; rw [HLM.out, decide_eq_true (.inl hbig)])]; rfl
   clear HA hn
   go_wp2_with fail
   go_ret
   exact ⟨ret_e HA2.out.symm, hbw1⟩
  by_cases hbig2 : 6 < E
  ·have HA2 : Hid (A = 4) := by show _ = _; rw [HA.out]; unfold checkA wholeA; rw [HNM.out, if_neg (by rw [hn]; decide), if_neg (by rw [HLM.out]; exact hM0), if_pos (by unfold bigS; rw [HLE.out, decide_eq_true (.inr (.inl hbig2))])]; rfl
   clear HA hn
   go_wp2_with fail
   go_ret
   exact ⟨ret_e HA2.out.symm, hbw1⟩
  by_cases hbig3 : 6 < T
  ·have HA2 : Hid (A = 4) := by show _ = _; rw [HA.out]; unfold checkA wholeA; rw [HNM.out, if_neg (by rw [hn]; decide), if_neg (by rw [HLM.out]; exact hM0), if_pos (by unfold bigS; rw [HLT.out, decide_eq_true (.inr (.inr hbig3))])]; rfl
   clear HA hn
   go_wp2_with fail
   go_ret
   exact ⟨ret_e HA2.out.symm, hbw1⟩
  obtain ⟨X, hX⟩ : ∃ X, partsA s = X := ⟨_, rfl⟩
  have HA2 : Hid (A = orE X (chkTs s.mn ((s.methods.take 0).map MtS.name) (s.methods.drop 0))) := by
   show _ = _
   rw [HA.out]; unfold checkA wholeA
   rw [HNM.out, if_neg (by rw [hn]; decide), if_neg (by rw [HLM.out]; exact hM0), if_neg (by unfold bigS; rw [HLM.out, HLE.out, HLT.out, decide_eq_false (by omega)]; decide), orE_zero, hX]
   rfl
  have HP : Hid (∀ W, Below w.heap.size w W → Calls Tryz.prog 42 #[.agg #[.string nm, .slice am M cm, .slice ae E ce, .slice at' T ct]] W fun e W' => e = .returned (.int .i64 X) ∧ Below W.heap.size W W') := fun W hW => by
   rw [← hX]
   exact rparts_any (HM.out.below hW) (HE.out.below hW) HLM.out HLE.out hM14 hE10 HF.out.may.flds HF.out.may.vals HF.out.sm HF.out.sn
  clear HA hX hn
  go_wp2_with fail
  clear c0 c1 c2 c3
  refine (HP.out w1 hbw1).mono ?_
  rintro e w2 ⟨rfl, hb2⟩
  have hbw2 : Below w.heap.size w w2 := hbw1.trans (hb2.mono hbw1.size)
  have BX2 := BX1.below hb2
  clear hb2 hbw1 BX1 HP
  by_cases hX0 : X = 0
  case neg =>
   have HA3 : Hid (A = X) := by show _ = _; rw [HA2.out, orE_ne hX0]
   have hq : (X == 0) = false := by rw [beq_eq_false_iff_ne]; exact hX0
   clear HA2 hX0
   go_wp2_with fail
   go_ret
   exact ⟨ret_e HA3.out.symm, hbw2⟩
  subst hX0
  have HA3 : Hid (A = chkTs s.mn ((s.methods.take 0).map MtS.name) (s.methods.drop 0)) := by show _ = _; rw [HA2.out, orE_zero]
  have HS0 : Hid (Seen w2 w.heap.size (.slice none 0 0) ((s.methods.take 0).map MtS.name)) := Seen.nil _ _
  clear HA2
  go_wp2_with fail
  go_loopw [4, 5] (fun nv iv wr => ∃ (k : Nat) (sa : Option Addr) (sc : Nat), nv = .slice sa k sc ∧ iv = .int .i64 (k : Int) ∧ k ≤ T ∧ Hid (A = chkTs s.mn ((s.methods.take k).map MtS.name) (s.methods.drop k)) ∧ Hid (Seen wr w.heap.size (.slice sa k sc) ((s.methods.take k).map MtS.name)) ∧ Below w.heap.size w wr ∧ Blk wr w.heap.size #[.string nm, .slice am M cm, .slice ae E ce, .slice at' T ct] 26) (fun _ iv _ => T - (intOf iv).toNat)
  case atStart => exact ⟨0, none, 0, rfl, rfl, by omega, HA3, HS0, hbw2, BX2⟩
  case round =>
   clear HA3 HS0 hbw2 BX2
   obtain ⟨k, sa, sc, rfl, rfl, hk, HAk, HSE, hbel, BX⟩ := hrel
   have x3 : wr.cell? ⟨w.heap.size, 3, none⟩ = some (.slice at' T ct) := BX.cell 3
   by_cases hlt : k < T
   ·obtain ⟨m, hm⟩ : ∃ x, s.methods[k]? = some x := ⟨_, List.getElem?_eq_getElem (by rw [HLT.out]; exact hlt)⟩
    have hsz := HF.out.st m (List.mem_of_getElem? hm)
    obtain ⟨m0, m1, m2⟩ := m
    simp only at hsz
    have hfr : (mtRows s.methods)[k]? = some [.string m0, .string m1, .string m2] := by simp [mtRows, MtS.cells, hm]
    obtain ⟨g, off, rfl, hcs⟩ := HTR.out.get hfr
    have C0 := hcs 0 _ rfl
    have C1 := hcs 1 _ rfl
    have C2 := hcs 2 _ rfl
    simp only [Nat.add_zero] at C0 C1 C2
    have HTK : Hid ((s.methods.take (k + 1)).map MtS.name = (s.methods.take k).map MtS.name ++ [m0]) := by show _ = _; rw [List.take_add_one, hm]; simp
    obtain ⟨al, hal⟩ : ∃ al, (s.methods.take k).map MtS.name = al := ⟨_, rfl⟩
    rw [hal] at HAk HSE HTK
    have HAL : Hid (al.length = k) := by show _ = _; rw [← hal, List.length_map, List.length_take, HLT.out]; omega
    have HA2 : Hid (A = if freshB m0 al = false then 6 else if (memB m1 s.mn && memB m2 s.mn) = false then 8 else chkTs s.mn (al ++ [m0]) (s.methods.drop (k + 1))) := by
     show _ = _
     rw [HAk.out, drop_at hm]; rfl
    have p0 : wr.cell? ⟨g, off + k * 3, none⟩ = some (.string m0) := (hbel.cell (World.block_lt_of_cell? _ _ C0)).trans C0
    have p1 : wr.cell? ⟨g, off + k * 3 + 1, none⟩ = some (.string m1) := (hbel.cell (World.block_lt_of_cell? _ _ C1)).trans C1
    have p2 : wr.cell? ⟨g, off + k * 3 + 2, none⟩ = some (.string m2) := (hbel.cell (World.block_lt_of_cell? _ _ C2)).trans C2
    have ha : Below wr.heap.size wr (wr.alloc (.cells #[.string m0, .string m1, .string m2] 72)) := (Below.refl _ _).alloc (Nat.le_refl _) _
    have BV := Blk.new wr #[.string m0, .string m1, .string m2] 72
    clear C0 C1 C2 hcs hfr hm hal HAk
    go_wp2_with fail
    clear x3 p0 p1 p2
    refine (rfresh_any m0 (by omega) (HSE.out.below ha).row).mono ?_
    rintro e w1 ⟨rfl, hb1⟩
    have hbw1 : Below w.heap.size w w1 := (hbel.trans (ha.mono hbel.size)).trans (hb1.mono (hbel.trans (ha.mono hbel.size)).size)
    have HS1 : Hid (Seen w1 w.heap.size (.slice sa k sc) al) := (HSE.out.below ha).below hb1
    have BX1 := (BX.below ha).below hb1
    have BV1 := BV.below hb1
    clear BV ha hb1 HSE
    cases hfr : freshB m0 al with
    | false =>
     have HA4 : Hid (A = 6) := by show _ = _; rw [HA2.out, if_pos hfr]
     clear HA2
     go_wp2_with fail
     go_ret
     exact ⟨ret_e HA4.out.symm, hbw1⟩
    | true =>
     have HA4 : Hid (A = if (memB m1 s.mn && memB m2 s.mn) = false then 8 else chkTs s.mn (al ++ [m0]) (s.methods.drop (k + 1))) := by show _ = _; rw [HA2.out, if_neg (by rw [hfr]; decide)]
     clear HA2 hfr
     obtain ⟨bv, hbv⟩ : ∃ n, wr.heap.size = n := ⟨_, rfl⟩
     rw [hbv] at BV1 ⊢
     clear hbv hbel BX
     have v0 : w1.cell? ⟨bv, 0, none⟩ = some (.string m0) := BV1.cell 0
     go_wp2_with (first
      | (at_builtin; refine wpList_seen (al := al) (x := m0) rfl _ _ rfl rfl rfl HS1.out ?c1 ?c2 ?_)
      | fail)
     case c1 => exact hbw1.size
     case c2 => rw [HAL.out]; omega
     intro v' w2 hS2 hK2 hB2
     obtain ⟨ta, tc, rfl⟩ := hS2.form
     have hl2 : (al ++ [m0]).length = k + 1 := by rw [List.length_append, HAL.out]; rfl
     rw [hl2] at hS2 ⊢
     have HS2 : Hid (Seen w2 w.heap.size (.slice ta (k + 1) tc) (al ++ [m0])) := hS2
     have HAL2 : Hid ((al ++ [m0]).length = k + 1) := hl2
     have hb2 : Below w.heap.size w w2 := hbw1.trans hB2
     have BX2 := BX1.kp hK2 (fun e => absurd (own_type HS1.out e BX1) (by decide))
     have BV2 := BV1.kp hK2 (fun e => absurd (own_type HS1.out e BV1) (by decide))
     clear v0 hS2 hl2 hK2 hB2 BX1 BV1 HS1 hbw1 HAL
     have b0 : (w2).cell? ⟨w.heap.size, 0, none⟩ = some (.string nm) := BX2.cell 0
     have b1 : (w2).cell? ⟨w.heap.size, 1, none⟩ = some (.slice am M cm) := BX2.cell 1
     have b2 : (w2).cell? ⟨w.heap.size, 2, none⟩ = some (.slice ae E ce) := BX2.cell 2
     have b3 : (w2).cell? ⟨w.heap.size, 3, none⟩ = some (.slice (some ⟨g, off, none⟩) T ct) := BX2.cell 3
     have b4 : (w2).cell? ⟨bv, 1, none⟩ = some (.string m1) := BV2.cell 1
     go_wp2_with fail
     refine (r7message_any (HM.out.below hb2)).mono ?_
     rintro e wv ⟨vf, vr, rfl, h1, h2, hb⟩
     rw [find_mn]
     obtain ⟨ya, yc, rfl, _, _⟩ := h1.form2
     obtain ⟨yd, ye, rfl, _, _⟩ := h2.form2
     generalize ((s.msgs.find? fun x => decide (x.name = m1)).getD zeroM).name = yn at *
     generalize (flRows ((s.msgs.find? fun x => decide (x.name = m1)).getD zeroM).fields).length = yF at *
     generalize (inRows ((s.msgs.find? fun x => decide (x.name = m1)).getD zeroM).reserved).length = yR at *
     have ha : Below wv.heap.size wv (wv.alloc (.cells #[.string yn, .slice ya yF yc, .slice yd yR ye] 50)) := (Below.refl _ _).alloc (Nat.le_refl _) _
     have hbwv : Below w.heap.size w (wv.alloc (.cells #[.string yn, .slice ya yF yc, .slice yd yR ye] 50)) := (hb2.trans (hb.mono hb2.size)).trans (ha.mono (hb2.trans (hb.mono hb2.size)).size)
     have BXwv := (BX2.below hb).below ha
     have BVwv := (BV2.below hb).below ha
     have HSwv : Hid (Seen (wv.alloc (.cells #[.string yn, .slice ya yF yc, .slice yd yR ye] 50)) w.heap.size (.slice ta (k + 1) tc) (al ++ [m0])) := Seen.below (Seen.below HS2.out hb) ha
     obtain ⟨yB, hyB⟩ : ∃ B, memB m1 (s.msgs.map MsS.name) = B := ⟨_, rfl⟩
     rw [hyB]
     have HyB : Hid (memB m1 s.mn = yB) := hyB
     clear b0 b1 b2 b3 b4 h1 h2 hb hb2 BX2 BV2 ha hyB
     have b0 : (wv.alloc (.cells #[.string yn, .slice ya yF yc, .slice yd yR ye] 50)).cell? ⟨w.heap.size, 0, none⟩ = some (.string nm) := BXwv.cell 0
     have b1 : (wv.alloc (.cells #[.string yn, .slice ya yF yc, .slice yd yR ye] 50)).cell? ⟨w.heap.size, 1, none⟩ = some (.slice am M cm) := BXwv.cell 1
     have b2 : (wv.alloc (.cells #[.string yn, .slice ya yF yc, .slice yd yR ye] 50)).cell? ⟨w.heap.size, 2, none⟩ = some (.slice ae E ce) := BXwv.cell 2
     have b3 : (wv.alloc (.cells #[.string yn, .slice ya yF yc, .slice yd yR ye] 50)).cell? ⟨w.heap.size, 3, none⟩ = some (.slice (some ⟨g, off, none⟩) T ct) := BXwv.cell 3
     have b4 : (wv.alloc (.cells #[.string yn, .slice ya yF yc, .slice yd yR ye] 50)).cell? ⟨bv, 2, none⟩ = some (.string m2) := BVwv.cell 2
     go_wp2_with fail
     refine (r7message_any (HM.out.below hbwv)).mono ?_
     rintro e wx ⟨vf, vr, rfl, h1, h2, hb⟩
     rw [find_mn]
     obtain ⟨za, zc, rfl, _, _⟩ := h1.form2
     obtain ⟨zd, ze, rfl, _, _⟩ := h2.form2
     generalize ((s.msgs.find? fun x => decide (x.name = m2)).getD zeroM).name = zn at *
     generalize (flRows ((s.msgs.find? fun x => decide (x.name = m2)).getD zeroM).fields).length = zF at *
     generalize (inRows ((s.msgs.find? fun x => decide (x.name = m2)).getD zeroM).reserved).length = zR at *
     have ha : Below wx.heap.size wx (wx.alloc (.cells #[.string zn, .slice za zF zc, .slice zd zR ze] 50)) := (Below.refl _ _).alloc (Nat.le_refl _) _
     have hbwx : Below w.heap.size w (wx.alloc (.cells #[.string zn, .slice za zF zc, .slice zd zR ze] 50)) := (hbwv.trans (hb.mono hbwv.size)).trans (ha.mono (hbwv.trans (hb.mono hbwv.size)).size)
     have BXwx := (BXwv.below hb).below ha
     have BVwx := (BVwv.below hb).below ha
     have HSwx : Hid (Seen (wx.alloc (.cells #[.string zn, .slice za zF zc, .slice zd zR ze] 50)) w.heap.size (.slice ta (k + 1) tc) (al ++ [m0])) := Seen.below (Seen.below HSwv.out hb) ha
     obtain ⟨zB, hzB⟩ : ∃ B, memB m2 (s.msgs.map MsS.name) = B := ⟨_, rfl⟩
     rw [hzB]
     have HzB : Hid (memB m2 s.mn = zB) := hzB
     clear b0 b1 b2 b3 b4 h1 h2 hb hbwv BXwv BVwv ha hzB
     cases yB with
     | false =>
      have HA5 : Hid (A = 8) := by show _ = _; rw [HA4.out, if_pos (by rw [HyB.out]; rfl)]
      clear HA4
      go_wp2_with fail
      go_ret
      exact ⟨ret_e HA5.out.symm, hbwx⟩
     | true =>
      cases zB with
      | false =>
       have HA5 : Hid (A = 8) := by show _ = _; rw [HA4.out, if_pos (by rw [HyB.out, HzB.out]; rfl)]
       clear HA4
       go_wp2_with fail
       go_ret
       exact ⟨ret_e HA5.out.symm, hbwx⟩
      | true =>
       have HA5 : Hid (A = chkTs s.mn ((s.methods.take (k + 1)).map MtS.name) (s.methods.drop (k + 1))) := by show _ = _; rw [HA4.out, if_neg (by rw [HyB.out, HzB.out]; decide), HTK.out]
       have HS4 : Hid (Seen (wx.alloc (.cells #[.string zn, .slice za zF zc, .slice zd zR ze] 50)) w.heap.size (.slice ta (k + 1) tc) ((s.methods.take (k + 1)).map MtS.name)) := by show Seen _ _ _ _; rw [HTK.out]; exact HSwx.out
       clear HA4
       go_wp2_with fail
       go_roundw
       case rel => exact ⟨k + 1, ta, tc, rfl, by go_num, by omega, HA5, HS4, hbwx, BXwx⟩
       case measure => simp [intOf]; omega
   ·have HA3 : Hid (A = 0) := by show _ = _; rw [HAk.out, drop_end (by rw [HLT.out]; omega)]; rfl
    clear HAk
    go_wp2_with fail
    go_ret
    exact ⟨ret_e HA3.out.symm, hbel⟩
theorem rcheck_any {w : World} {v : Value} {s : ScS} (hr : ScIn w v s) (hfs : FewS s) :
  Calls Tryz.prog 21 #[v] w fun e w' => e = .returned (.int .i64 (checkA s)) ∧ Below w.heap.size w w' := rcheck_may hr hfs.mayS
end Go.Proofs.YtfnjbbaphmmjlaaGreat
namespace Go.Proofs.YtfnjbbaphmmjlaaGreat
open Go.RowKit
set_option linter.unusedVariables false
set_option linter.unusedSimpArgs false
set_option maxRecDepth 20000
theorem find_at {α β : Type} (key : α → β) {l : List α} (hn : (l.map key).Nodup) {i : Nat} {x : α} (hi : l[i]? = some x) (p : α → Bool) (hp : ∀ y, p y = true ↔ key y = key x) : l.find? p = some x := by
 induction l generalizing i with
 | nil => simp at hi
 | cons y l ih =>
  rw [List.map_cons, List.nodup_cons] at hn
  cases i with
  | zero =>
   simp at hi
   subst hi
   rw [List.find?_cons, (hp y).2 rfl]
  | succ i =>
   simp at hi
   have hne : p y = false := by
    cases hpy : p y
    ·rfl
    ·have := (hp y).1 hpy
     exact absurd (this ▸ List.mem_map_of_mem (List.mem_of_getElem? hi)) hn.1
   rw [List.find?_cons, hne]
   exact ih hn.2 hi
theorem find_none {α : Type} {l : List α} {p : α → Bool} (h : ∀ x ∈ l, p x = false) : l.find? p = none := by
 rw [List.find?_eq_none]
 intro x hx
 rw [h x hx]; decide
theorem ok_findM {s : ScS} (h : OkS s) {i : Nat} {m : MsS} (hi : s.msgs[i]? = some m) : (s.msgs.find? fun x => decide (x.name = m.name)) = some m :=
 find_at MsS.name h.names hi _ (fun y => by simp)
theorem ok_findF {s : ScS} (h : OkS s) {m : MsS} (hm : m ∈ s.msgs) {j : Nat} {f : FlS} (hj : m.fields[j]? = some f) : (m.fields.find? fun x => decide (x.tag = f.tag)) = some f ∧ memI f.tag m.reserved = false := by
 obtain ⟨_, _, _, h4, _, h6⟩ := (h.msgs m hm).2
 refine ⟨find_at FlS.tag h6 hj _ (fun y => by simp), ?_⟩
 have := (h4 f (List.mem_of_getElem? hj)).2
 simp [memI, this]
end Go.Proofs.YtfnjbbaphmmjlaaGreat
namespace Go.Proofs.YtfnjbbaphmmjlaaGreat
open Go.ChangeShapes Go.WideShapes Go.ChangeAt Go.RowKit
set_option linter.unusedVariables false
set_option linter.unusedSimpArgs false
set_option maxRecDepth 20000
def Lite {H : Type} (t : TypeId) (d : DataW H) : Prop := ∀ n ∈ d.weights Tryz.prog t, n ≤ 140737488351232
theorem lite_all {H : Type} {e : TypeId} : ∀ {l : List (DataW H)} {d : DataW H}, d ∈ l → ∀ n ∈ d.weights Tryz.prog e, n ∈ DataW.weightsAll Tryz.prog e l
 | x :: l, d, h, n, hn => by
  simp only [DataW.weightsAll, List.mem_append]
  rcases List.mem_cons.1 h with rfl | h
  ·exact .inl hn
  ·exact .inr (lite_all h n hn)
theorem lite_each {H : Type} {ts : List TypeId} {ds : List (DataW H)} (h : ∀ n ∈ DataW.weightsEach Tryz.prog ts ds, n ≤ 140737488351232) {j : Nat} {t : TypeId} {d : DataW H} (ht : ts[j]? = some t) (hd : ds[j]? = some d) : Lite t d :=
 fun n hn => h n (DataW.weights_mem_each ht hd n hn)
theorem lite_str {H : Type} {t : TypeId} {l : List UInt8} (h : Lite t (.lit (.string l) : DataW H)) : l.length ≤ 140737488351232 := h _ (by simp [DataW.weights])
section
variable {H : Type} {enc : TypeId × Value → H} {W : World} {base : Nat} {spare : Nat → Bool} {held : Bool}
theorem lite_struct {t : TypeId} {fs : Array Field} {ds : List (DataW H)} (hu : Tryz.prog.underlying t = some (.struct fs)) (h : Lite t (.agg ds : DataW H)) {j : Nat} {u : TypeId} {d : DataW H} (ht : (fs.toList.map (·.type))[j]? = some u) (hd : ds[j]? = some d) : Lite u d := by
 refine lite_each (ts := fs.toList.map (·.type)) (ds := ds) (fun n hn => h n ?_) ht hd
 simp only [DataW.weights, hu]
 exact hn
theorem row_in {α : Type} {t e : TypeId} {size : Nat} (hc : Tryz.prog.cellsOf e = size) (hpos : 0 < size) (ht : Tryz.prog.underlying t = some (.slice e)) (cells : α → List Value) (hcl : ∀ r, (cells r).length = size) (P : α → Prop) (dflt : α)
  {fuel : Nat} {a : Option Addr} {len cap : Nat} {x : DataW H × List MemPlace} (h : DataW.trod enc Tryz.prog W base spare held fuel t [.slice a len cap] = some x) (hl : Lite t x.1)
  (one : ∀ n cs' y, DataW.trod enc Tryz.prog W base spare held n e cs' = some y → Lite e y.1 → ∃ r, cs' = cells r ∧ P r) :
  ∃ rs : List α, rs.length = len ∧ RowG W (.slice a len cap) size (rs.map cells) ∧ ∀ r ∈ rs, P r := by
 rcases Deep.open_slice ht h with ⟨hcs, -⟩ | ⟨ad, len', cap', m, n, D, Pl, hcs, -, hle, hm, hmm, hx0, hx⟩
 ·simp only [List.cons.injEq, Value.slice.injEq, and_true] at hcs
  obtain ⟨rfl, rfl, rfl⟩ := hcs
  exact ⟨[], rfl, RowG.nil _ _, by simp⟩
 ·simp only [List.cons.injEq, Value.slice.injEq, and_true] at hcs
  obtain ⟨rfl, rfl, rfl⟩ := hcs
  subst hx0
  have hml : len ≤ m := by rw [hmm]; split <;> omega
  rw [hc] at hx
  have each : ∀ i, i < len → ∃ r : α, W.cells? base (ad.add (i * size)) size = some (cells r) ∧ P r := fun i hi => by
   obtain ⟨cs', h1, h2⟩ := hx i (by omega)
   obtain ⟨r, rfl, hp⟩ := one n cs' _ h2 (fun k hk => hl k (by
    simp only [DataW.weights, ht, List.mem_cons, List.mem_append]
    exact .inr (.inl (lite_all (List.mem_map.2 ⟨i, List.mem_range.2 hi, rfl⟩) k hk))))
   exact ⟨r, h1, hp⟩
  obtain ⟨f, hf⟩ : ∃ f : Nat → α, ∀ i, i < len → W.cells? base (ad.add (i * size)) size = some (cells (f i)) ∧ P (f i) :=
   ⟨fun i => if h : i < len then Classical.choose (each i h) else dflt, fun i hi => by simp only [dif_pos hi]; exact Classical.choose_spec (each i hi)⟩
  refine ⟨(List.range len).map f, by simp, ?_, ?_⟩
  ·refine ⟨some ad, cap, by simp, by simpa using hle, hm, (fun e => by cases e), fun hne => ?_⟩
   have hlen : 0 < len := by
    rcases Nat.eq_zero_or_pos len with h0 | h0
    ·subst h0; simp at hne
    ·exact h0
   have hcell : ∀ i, i < len → ∀ c, c < size → W.cell? ((ad.add (i * size)).add c) = (cells (f i))[c]? := fun i hi => (World.cells?_some (hf i hi).1).2.2
   obtain ⟨g, off, spot⟩ := ad
   have hspot : spot = none := by
    have h1 := hcell 0 hlen 0 hpos
    obtain ⟨u, hu⟩ : ∃ u, (cells (f 0))[0]? = some u := ⟨_, List.getElem?_eq_getElem (by rw [hcl]; exact hpos)⟩
    rw [hu] at h1
    simpa [Addr.add] using World.cell?_spot h1
   subst hspot
   refine ⟨g, off, rfl, fun i c u j hi hj => ?_⟩
   simp only [List.map_map, List.getElem?_map, Option.map_eq_some_iff, Function.comp_apply] at hi
   obtain ⟨i', hi', rfl⟩ := hi
   obtain ⟨hil, hie⟩ := List.getElem?_eq_some_iff.1 hi'
   simp at hie
   subst hie
   simp only [List.length_range] at hil
   have hjs : j < size := by rw [← hcl (f i)]; exact (List.getElem?_eq_some_iff.1 hj).1
   have h2 := hcell i hil j hjs
   rw [hj, Deep.add_add, Addr.add_lit] at h2
   rw [Nat.add_assoc]
   exact h2
  ·intro r hr
   simp only [List.mem_map, List.mem_range] at hr
   obtain ⟨i, hi, rfl⟩ := hr
   exact (hf i hi).2
theorem i64_of {n : Int} (h : (Lit.int .i64 n).wf = true) : I64 n := bounds_i64 h
theorem cellsIn : Tryz.prog.cellsOf 3 = 1 := by kernel_rfl
theorem cellsSt : Tryz.prog.cellsOf 9 = 1 := by kernel_rfl
theorem cellsTy : Tryz.prog.cellsOf 32 = 2 := by kernel_rfl
theorem cellsFl : Tryz.prog.cellsOf 54 = 5 := by kernel_rfl
theorem cellsNm : Tryz.prog.cellsOf 70 = 2 := by kernel_rfl
theorem cellsMt : Tryz.prog.cellsOf 72 = 3 := by kernel_rfl
theorem cellsMs : Tryz.prog.cellsOf 50 = 3 := by kernel_rfl
theorem cellsEn : Tryz.prog.cellsOf 68 = 2 := by kernel_rfl
theorem cellsSc : Tryz.prog.cellsOf 26 = 4 := by kernel_rfl
theorem cellsSl : Tryz.prog.cellsOf 48 = 1 ∧ Tryz.prog.cellsOf 47 = 1 ∧ Tryz.prog.cellsOf 66 = 1 ∧ Tryz.prog.cellsOf 22 = 1 ∧ Tryz.prog.cellsOf 23 = 1 ∧ Tryz.prog.cellsOf 24 = 1 := ⟨by kernel_rfl, by kernel_rfl, by kernel_rfl, by kernel_rfl, by kernel_rfl, by kernel_rfl⟩
theorem str_in {n : Nat} {c : Value} {y : DataW H × List MemPlace} (h : DataW.trod enc Tryz.prog W base spare held n 9 [c] = some y) (hl : Lite 9 y.1) : ∃ b : ByteArray, c = .string b ∧ b.size ≤ 140737488351232 := by
 obtain ⟨b, e, hy, w⟩ := DataW.trod_string Tryz.underlying9 h
 simp only [List.cons.injEq, and_true] at e
 subst e hy
 exact ⟨b, rfl, lite_str hl⟩
theorem int_in {n : Nat} {c : Value} {y : DataW H × List MemPlace} (h : DataW.trod enc Tryz.prog W base spare held n 3 [c] = some y) : ∃ b : Int, c = .int .i64 b ∧ I64 b := by
 obtain ⟨b, e, hy, w⟩ := DataW.trod_int Tryz.underlying3 h
 simp only [List.cons.injEq, and_true] at e
 subst e
 exact ⟨b, rfl, i64_of w⟩
theorem sfield_in : ∀ n cs' y, DataW.trod enc Tryz.prog W base spare held n 54 cs' = some y → Lite 54 y.1 → ∃ r : FlS, cs' = r.cells ∧ FlW r := by
 intro n cs y h hl
 obtain ⟨y0, y1, y2, y3, m, hy, hc, h0, h1, h2, h3⟩ := _root_.Go.Joins.trod_struct4 Tryz.underlying54 h
 rw [cellsFl] at hc
 match cs, hc with
 | [c0, c1, c2, c3, c4], _ =>
  rw [cellsIn] at h1 h2
  rw [cellsSt] at h0
  rw [cellsTy] at h3
  simp only [List.drop_zero, List.drop_succ_cons, List.take_succ_cons, List.take_zero] at h0 h1 h2 h3
  subst hy
  obtain ⟨z0, z1, k, hz, hcz, g0, g1⟩ := trod_struct2 Tryz.underlying32 h3
  rw [cellsIn] at g0
  rw [cellsSt] at g1
  simp only [List.drop_zero, List.drop_succ_cons, List.take_succ_cons, List.take_zero] at g0 g1
  have l3 : Lite 32 y3.1 := lite_struct Tryz.underlying54 hl (j := 3) rfl rfl
  subst hz
  obtain ⟨b0, rfl, s0⟩ := str_in h0 (lite_struct Tryz.underlying54 hl (j := 0) rfl rfl)
  obtain ⟨b1, rfl, s1⟩ := int_in h1
  obtain ⟨b2, rfl, s2⟩ := int_in h2
  obtain ⟨b3, rfl, s3⟩ := int_in g0
  obtain ⟨b4, rfl, s4⟩ := str_in g1 (lite_struct Tryz.underlying32 l3 (j := 1) rfl rfl)
  exact ⟨⟨b0, b1, b2, b3, b4⟩, rfl, s0, s4, s1, s2, s3⟩
theorem named_in : ∀ n cs' y, DataW.trod enc Tryz.prog W base spare held n 70 cs' = some y → Lite 70 y.1 → ∃ r : NmS, cs' = r.cells ∧ NmW r := by
 intro n cs y h hl
 obtain ⟨y0, y1, m, hy, hc, h0, h1⟩ := trod_struct2 Tryz.underlying70 h
 rw [cellsNm] at hc
 match cs, hc with
 | [c0, c1], _ =>
  rw [cellsIn] at h1
  rw [cellsSt] at h0
  simp only [List.drop_zero, List.drop_succ_cons, List.take_succ_cons, List.take_zero] at h0 h1
  subst hy
  obtain ⟨b0, rfl, s0⟩ := str_in h0 (lite_struct Tryz.underlying70 hl (j := 0) rfl rfl)
  obtain ⟨b1, rfl, s1⟩ := int_in h1
  exact ⟨⟨b0, b1⟩, rfl, s0, s1⟩
theorem method_in : ∀ n cs' y, DataW.trod enc Tryz.prog W base spare held n 72 cs' = some y → Lite 72 y.1 → ∃ r : MtS, cs' = r.cells ∧ MtW r := by
 intro n cs y h hl
 obtain ⟨y0, y1, y2, m, hy, hc, h0, h1, h2⟩ := Deep.trod_struct3 Tryz.underlying72 h
 rw [cellsMt] at hc
 match cs, hc with
 | [c0, c1, c2], _ =>
  rw [cellsSt] at h0 h1 h2
  simp only [List.drop_zero, List.drop_succ_cons, List.take_succ_cons, List.take_zero] at h0 h1 h2
  subst hy
  obtain ⟨b0, rfl, s0⟩ := str_in h0 (lite_struct Tryz.underlying72 hl (j := 0) rfl rfl)
  obtain ⟨b1, rfl, s1⟩ := str_in h1 (lite_struct Tryz.underlying72 hl (j := 1) rfl rfl)
  obtain ⟨b2, rfl, s2⟩ := str_in h2 (lite_struct Tryz.underlying72 hl (j := 2) rfl rfl)
  exact ⟨⟨b0, b1, b2⟩, rfl, s0, s1, s2⟩
theorem slice_form {t e : TypeId} {n : Nat} {c : Value} {y : DataW H × List MemPlace} (ht : Tryz.prog.underlying t = some (.slice e)) (h : DataW.trod enc Tryz.prog W base spare held n t [c] = some y) : ∃ a len cap, c = .slice a len cap := by
 rcases Deep.open_slice ht h with ⟨hcs, -⟩ | ⟨ad, len', cap', m, n, D, Pl, hcs, -⟩
 ·simp only [List.cons.injEq, and_true] at hcs; exact ⟨_, _, _, hcs⟩
 ·simp only [List.cons.injEq, and_true] at hcs; exact ⟨_, _, _, hcs⟩
theorem ints_in {n : Nat} {c : Value} {y : DataW H × List MemPlace} (h : DataW.trod enc Tryz.prog W base spare held n 47 [c] = some y) (hl : Lite 47 y.1) : ∃ ns : List Int, RowG W c 1 (inRows ns) ∧ ∀ x ∈ ns, I64 x := by
 obtain ⟨a, len, cap, rfl⟩ := slice_form Tryz.underlying47 h
 obtain ⟨rs, h1, h2, h3⟩ := row_in cellsIn (by decide) Tryz.underlying47 (fun x : Int => [.int .i64 x]) (fun _ => rfl) I64 0 h hl (fun n cs' y h _ => by
  obtain ⟨b, e, _, w⟩ := DataW.trod_int Tryz.underlying3 h
  exact ⟨b, e, i64_of w⟩)
 exact ⟨rs, h2, h3⟩
def msC (p : MsS × Value × Value) : List Value := [.string p.1.name, p.2.1, p.2.2]
def msP (W : World) (p : MsS × Value × Value) : Prop := RowG W p.2.1 5 (flRows p.1.fields) ∧ RowG W p.2.2 1 (inRows p.1.reserved) ∧ MsW p.1
theorem message_in : ∀ n cs' y, DataW.trod enc Tryz.prog W base spare held n 50 cs' = some y → Lite 50 y.1 → ∃ r : MsS × Value × Value, cs' = msC r ∧ msP W r := by
 intro n cs y h hl
 obtain ⟨y0, y1, y2, m, hy, hc, h0, h1, h2⟩ := Deep.trod_struct3 Tryz.underlying50 h
 rw [cellsMs] at hc
 match cs, hc with
 | [c0, c1, c2], _ =>
  rw [cellsSt] at h0
  rw [cellsSl.1] at h1
  rw [cellsSl.2.1] at h2
  simp only [List.drop_zero, List.drop_succ_cons, List.take_succ_cons, List.take_zero] at h0 h1 h2
  subst hy
  obtain ⟨b0, rfl, s0⟩ := str_in h0 (lite_struct Tryz.underlying50 hl (j := 0) rfl rfl)
  obtain ⟨a, len, cap, rfl⟩ := slice_form Tryz.underlying48 h1
  obtain ⟨fs, -, f2, f3⟩ := row_in cellsFl (by decide) Tryz.underlying48 FlS.cells (fun _ => rfl) FlW ⟨⟨#[]⟩, 0, 0, 0, ⟨#[]⟩⟩ h1 (lite_struct Tryz.underlying50 hl (j := 1) rfl rfl) sfield_in
  obtain ⟨ns, n2, n3⟩ := ints_in h2 (lite_struct Tryz.underlying50 hl (j := 2) rfl rfl)
  exact ⟨(⟨b0, fs, ns⟩, _, _), rfl, f2, n2, s0, f3, n3⟩
def enC (p : EnS × Value) : List Value := [.string p.1.name, p.2]
def enP (W : World) (p : EnS × Value) : Prop := RowG W p.2 2 (nmRows p.1.values) ∧ EnW p.1
theorem enumer_in : ∀ n cs' y, DataW.trod enc Tryz.prog W base spare held n 68 cs' = some y → Lite 68 y.1 → ∃ r : EnS × Value, cs' = enC r ∧ enP W r := by
 intro n cs y h hl
 obtain ⟨y0, y1, m, hy, hc, h0, h1⟩ := trod_struct2 Tryz.underlying68 h
 rw [cellsEn] at hc
 match cs, hc with
 | [c0, c1], _ =>
  rw [cellsSt] at h0
  rw [cellsSl.2.2.1] at h1
  simp only [List.drop_zero, List.drop_succ_cons, List.take_succ_cons, List.take_zero] at h0 h1
  subst hy
  obtain ⟨b0, rfl, s0⟩ := str_in h0 (lite_struct Tryz.underlying68 hl (j := 0) rfl rfl)
  obtain ⟨a, len, cap, rfl⟩ := slice_form Tryz.underlying66 h1
  obtain ⟨fs, -, f2, f3⟩ := row_in cellsNm (by decide) Tryz.underlying66 NmS.cells (fun _ => rfl) NmW ⟨⟨#[]⟩, 0⟩ h1 (lite_struct Tryz.underlying68 hl (j := 1) rfl rfl) named_in
  exact ⟨(⟨b0, fs⟩, _), rfl, f2, s0, f3⟩
theorem schema_in {r : Reach} {b0 : Nat} {v : Value} {d : DataW H} {p : List MemPlace} (hv : Value.okWide Tryz.prog W r b0 26 v) (h : DataW.Trod enc Tryz.prog W base spare held 26 v d p) (hl : Lite 26 d) : ∃ s : ScS, ScIn W v s ∧ ScW s := by
 obtain ⟨cs, rfl, hsz⟩ := okWide_struct Tryz.underlying26 hv
 obtain ⟨fuel, hf⟩ := h
 obtain ⟨y0, y1, y2, y3, m, hy, hc, h0, h1, h2, h3⟩ := _root_.Go.Joins.trod_struct4 Tryz.underlying26 hf
 rw [cellsSc] at hc
 obtain ⟨l⟩ := cs
 simp only [Value.cells] at h0 h1 h2 h3 hc
 match l, hc with
 | [c0, c1, c2, c3], _ =>
  rw [cellsSt] at h0
  rw [cellsSl.2.2.2.1] at h1
  rw [cellsSl.2.2.2.2.1] at h2
  rw [cellsSl.2.2.2.2.2] at h3
  simp only [List.drop_zero, List.drop_succ_cons, List.take_succ_cons, List.take_zero] at h0 h1 h2 h3
  have hd : d = .agg [y0.1, y1.1, y2.1, y3.1] := congrArg Prod.fst hy
  subst hd
  obtain ⟨b0, rfl, s0⟩ := str_in h0 (lite_struct Tryz.underlying26 hl (j := 0) rfl rfl)
  obtain ⟨a1, len1, cap1, rfl⟩ := slice_form Tryz.underlying22 h1
  obtain ⟨a2, len2, cap2, rfl⟩ := slice_form Tryz.underlying23 h2
  obtain ⟨a3, len3, cap3, rfl⟩ := slice_form Tryz.underlying24 h3
  obtain ⟨ms, m1, m2, m3⟩ := row_in cellsMs (by decide) Tryz.underlying22 msC (fun _ => rfl) (msP W) (⟨⟨#[]⟩, [], []⟩, .bool false, .bool false) h1 (lite_struct Tryz.underlying26 hl (j := 1) rfl rfl) message_in
  obtain ⟨es, e1, e2, e3⟩ := row_in cellsEn (by decide) Tryz.underlying23 enC (fun _ => rfl) (enP W) (⟨⟨#[]⟩, []⟩, .bool false) h2 (lite_struct Tryz.underlying26 hl (j := 2) rfl rfl) enumer_in
  obtain ⟨ts, t1, t2, t3⟩ := row_in cellsMt (by decide) Tryz.underlying24 MtS.cells (fun _ => rfl) MtW ⟨⟨#[]⟩, ⟨#[]⟩, ⟨#[]⟩⟩ h3 (lite_struct Tryz.underlying26 hl (j := 3) rfl rfl) method_in
  refine ⟨⟨b0, ms.map (·.1), es.map (·.1), ts⟩, ⟨_, _, _, rfl, ⟨ms.map msC, m2, by simp, fun i m hm => ?_⟩, ⟨es.map enC, e2, by simp, fun i m hm => ?_⟩, t2⟩, s0, fun m hm => ?_, fun m hm => ?_, t3⟩
  ·simp only [List.getElem?_map, Option.map_eq_some_iff] at hm
   obtain ⟨q, hq, rfl⟩ := hm
   obtain ⟨g1, g2, _⟩ := m3 q (List.mem_of_getElem? hq)
   exact ⟨q.2.1, q.2.2, by simp [hq, msC], g1, g2⟩
  ·simp only [List.getElem?_map, Option.map_eq_some_iff] at hm
   obtain ⟨q, hq, rfl⟩ := hm
   obtain ⟨g1, _⟩ := e3 q (List.mem_of_getElem? hq)
   exact ⟨q.2, by simp [hq, enC], g1⟩
  ·obtain ⟨q, hq, rfl⟩ := List.mem_map.1 hm
   exact (m3 q hq).2.2
  ·obtain ⟨q, hq, rfl⟩ := List.mem_map.1 hm
   exact (e3 q hq).2
end
set_option maxHeartbeats 1000000 in
theorem ints_any {w : World} {v : Value} {fs : List Int} (hr : RowG w v 1 (inRows fs)) (hl : fs.length ≤ 100) :
  Calls Tryz.prog 31 #[v] w fun e w' => ∃ r, e = .returned r ∧ w'.ownsRow w.heap.size 3 1 r fs.length (inRows fs).flatten ∧ Below w.heap.size w w' := by
 have hN : (inRows fs).length = fs.length := by simp [inRows]
 have HN : Hid ((inRows fs).length = fs.length) := hN
 have HR : Hid (RowG w v 1 (inRows fs)) := hr
 have HL : Hid (fs.length ≤ 100) := hl
 clear hr hN hl
 go_enter Tryz.func31, Tryz.ntmps31
 go_wp2_with (first
  | (at_builtin; refine wpList_joinG rfl _ _ 47 3 1 8 _ rfl Tryz.underlying47 infoIn rfl (by decide) w.heap.size (.slice none 0 0) 0 [] rfl (World.ownsRow_nil _ _ _ _) v (inRows fs) rfl HR.out (inr_len fs) (inr_one fs) ?c1 (by decide) (Nat.le_refl _) ?_)
  | fail)
 case c1 => have h1 := HN.out; have h2 := HL.out; omega
 intro r w1 ho hg
 have hb : Below w.heap.size w w1 := (Below.refl _ _).grown hg (Nat.le_refl _) (fun k hk => by cases hk)
 have HO : Hid (w1.ownsRow w.heap.size 3 1 r fs.length (inRows fs).flatten) := by
  show World.ownsRow _ _ _ _ _ _ _
  rw [HN.out] at ho
  exact ho
 clear hg ho
 go_wp2_with fail
 go_ret
 exact ⟨_, rfl, HO.out, hb⟩
end Go.Proofs.YtfnjbbaphmmjlaaGreat
namespace Go.Proofs.YtfnjbbaphmmjlaaGreat
open Go.ChangeShapes Go.WideShapes Go.ChangeAt Go.RowKit
set_option linter.unusedVariables false
set_option linter.unusedSimpArgs false
def ApR (ps : List (Value × Value)) : Prop := ∀ (i j : Nat) (p q : Value × Value) (k : Nat), ps[i]? = some p → ps[j]? = some q → p.2.ownBlock = some k → q.2.ownBlock = some k → i = j
def ApE (ps : List Value) : Prop := ∀ (i j : Nat) (p q : Value) (k : Nat), ps[i]? = some p → ps[j]? = some q → p.ownBlock = some k → q.ownBlock = some k → i = j
theorem ApR.nil : ApR [] := fun i j p q k hp => by simp at hp
theorem ApE.nil : ApE [] := fun i j p q k hp => by simp at hp
theorem ApR.snoc {ps : List (Value × Value)} {vf vr : Value} {H : Nat} (h : ApR ps) (hH : ∀ (i : Nat) (p : Value × Value) (k : Nat), ps[i]? = some p → p.2.ownBlock = some k → k < H) (hr : ∀ k, vr.ownBlock = some k → H ≤ k) : ApR (ps ++ [(vf, vr)]) := by
 intro i j p q k hp hq hpk hqk
 rcases get_snoc hp with ⟨hi, hp⟩ | ⟨hi, rfl⟩
 ·rcases get_snoc hq with ⟨hj, hq⟩ | ⟨hj, rfl⟩
  ·exact h i j p q k hp hq hpk hqk
  ·have a1 := hH i p k hp hpk
   have a2 := hr k hqk
   omega
 ·rcases get_snoc hq with ⟨hj, hq⟩ | ⟨hj, rfl⟩
  ·have a1 := hH j q k hq hqk
   have a2 := hr k hpk
   omega
  ·omega
theorem ApE.snoc {ps : List Value} {vr : Value} {H : Nat} (h : ApE ps) (hH : ∀ (i : Nat) (p : Value) (k : Nat), ps[i]? = some p → p.ownBlock = some k → k < H) (hr : ∀ k, vr.ownBlock = some k → H ≤ k) : ApE (ps ++ [vr]) := by
 intro i j p q k hp hq hpk hqk
 rcases get_snoc hp with ⟨hi, hp1⟩ | ⟨hi, ep⟩
 ·rcases get_snoc hq with ⟨hj, hq1⟩ | ⟨hj, eq⟩
  ·exact h i j p q k hp1 hq1 hpk hqk
  ·have a1 := hH i p k hp1 hpk
   rw [eq] at hqk
   have a2 := hr k hqk
   omega
 ·rcases get_snoc hq with ⟨hj, hq1⟩ | ⟨hj, eq⟩
  ·have a1 := hH j q k hq1 hqk
   rw [ep] at hpk
   have a2 := hr k hpk
   omega
  ·omega
theorem MsO.highR {w : World} {B : Nat} {v : Value} {ms : List MsS} {ps : List (Value × Value)} (h : MsO w B v ms ps) : ∀ (i : Nat) (p : Value × Value) (k : Nat), ps[i]? = some p → p.2.ownBlock = some k → k < w.heap.size := by
 intro i p k hp hk
 have hi : i < ms.length := by rw [← h.len]; exact (List.getElem?_eq_some_iff.1 hp).1
 exact ((h.each i _ p (List.getElem?_eq_getElem hi) hp).2.lt k hk).2
theorem EnO.highE {w : World} {B : Nat} {v : Value} {ms : List EnS} {ps : List Value} (h : EnO w B v ms ps) : ∀ (i : Nat) (p : Value) (k : Nat), ps[i]? = some p → p.ownBlock = some k → k < w.heap.size := by
 intro i p k hp hk
 have hi : i < ms.length := by rw [← h.len]; exact (List.getElem?_eq_some_iff.1 hp).1
 exact ((h.each i _ p (List.getElem?_eq_getElem hi) hp).lt k hk).2
end Go.Proofs.YtfnjbbaphmmjlaaGreat
