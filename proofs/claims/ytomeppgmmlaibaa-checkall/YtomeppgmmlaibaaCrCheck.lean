/- What the reference's Check answers. -/
import Derived.Test.YtomeppgmmlaibaaCrParts
import Derived.Test.YtomeppgmmlaibaaLwFew
namespace Go.Proofs.Ytomeppgmmlaibaa
open Go.ChangeShapes Go.WideShapes Go.ChangeAt Go.RowKit Go.Maps
set_option linter.unusedVariables false
set_option linter.unusedSimpArgs false
set_option maxRecDepth 20000

theorem FewS.sm {s : ScS} (h : FewS s) : ∀ m ∈ s.msgs, m.name.size ≤ 20000 ∧ ∀ f ∈ m.fields, f.name.size ≤ 20000 := fun m hm => by
  have h1 := h.eachM m hm
  refine ⟨by have := h1.1; omega, fun f hf => ?_⟩
  have h2 := (h1.2.2.2 f hf)
  unfold flFew at h2
  omega
theorem FewS.sn {s : ScS} (h : FewS s) : ∀ m ∈ s.enums, m.name.size ≤ 20000 ∧ ∀ f ∈ m.values, f.name.size ≤ 20000 := fun m hm => by
  have h1 := h.eachE m hm
  refine ⟨by have := h1.1; omega, fun f hf => ?_⟩
  have h2 := (h1.2.2 f hf)
  unfold nmFew at h2
  omega
set_option maxHeartbeats 8000000 in
theorem rcheck_any {w : World} {v : Value} {s : ScS} (hr : ScIn w v s) (hfs : FewS s) :
    Calls Try.prog 12 #[v] w fun e w' => e = .returned (.int .i64 (checkA s)) ∧ Below w.heap.size w w' := by
  obtain ⟨vm0, ve0, vt0, rfl, hm, he, ht⟩ := hr
  obtain ⟨am, cm, rfl, qm1, qm2⟩ := hm.form2
  obtain ⟨ae, ce, rfl, qe1, qe2⟩ := he.form2
  obtain ⟨at', ct, rfl, qt1, qt2⟩ := ht.form2
  have hTl : (mtRows s.methods).length = s.methods.length := by simp [mtRows]
  rw [hTl] at ht qt1 ⊢
  obtain ⟨M, hM⟩ : ∃ N, s.msgs.length = N := ⟨_, rfl⟩
  obtain ⟨E, hE⟩ : ∃ N, s.enums.length = N := ⟨_, rfl⟩
  obtain ⟨T, hT⟩ : ∃ N, s.methods.length = N := ⟨_, rfl⟩
  obtain ⟨nm, hnm⟩ : ∃ N, s.name = N := ⟨_, rfl⟩
  rw [hM] at hm qm1 ⊢
  rw [hE] at he qe1 ⊢
  rw [hT] at ht qt1 ⊢
  rw [hnm]
  have HM : Hid (MsIn w (.slice am M cm) s.msgs) := hm
  have HE : Hid (EnIn w (.slice ae E ce) s.enums) := he
  have HTR : Hid (RowG w (.slice at' T ct) 3 (mtRows s.methods)) := ht
  have HLM : Hid (s.msgs.length = M) := hM
  have HLE : Hid (s.enums.length = E) := hE
  have HLT : Hid (s.methods.length = T) := hT
  have HNM : Hid (s.name = nm) := hnm
  have HF : Hid (FewS s) := hfs
  have hM14 : M ≤ 14 := by have := hfs.msgs; omega
  have hE10 : E ≤ 10 := by have := hfs.enums; omega
  have hT10 : T ≤ 10 := by have := hfs.meths; omega
  have hns : nm.size ≤ 20000 := by have := hfs.name; rw [hnm] at this; omega
  clear hm he ht hM hE hT hnm hfs hTl
  obtain ⟨A, hA⟩ : ∃ A, checkA s = A := ⟨_, rfl⟩
  rw [hA]
  have HA : Hid (A = checkA s) := hA.symm
  clear hA
  have hba : Below w.heap.size w (w.alloc (.cells #[.string nm, .slice am M cm, .slice ae E ce, .slice at' T ct] 26)) := (Below.refl _ _).alloc (Nat.le_refl _) _
  have BX0 := Blk.new w #[.string nm, .slice am M cm, .slice ae E ce, .slice at' T ct] 26
  go_enter Try.func12, Try.ntmps12
  go_wp2_with fail
  refine (rfname_any nm _ hns).mono ?_
  rintro e w1 ⟨rfl, hb1⟩
  have hbw1 : Below w.heap.size w w1 := hba.trans (hb1.mono hba.size)
  have BX1 := BX0.below hb1
  clear hb1 hba BX0
  cases hn : nameB nm with
  | false =>
    have HA2 : Hid (A = 6) := by show _ = _; rw [HA.out]; unfold checkA wholeA; rw [HNM.out, if_pos hn]; rfl
    clear HA hn
    go_wp2_with fail
    go_ret
    exact ⟨ret_e HA2.out.symm, hbw1⟩
  | true =>
    have c0 : w1.cell? ⟨w.heap.size, 0, none⟩ = some (.string nm) := BX1.cell 0
    have c1 : w1.cell? ⟨w.heap.size, 1, none⟩ = some (.slice am M cm) := BX1.cell 1
    have c2 : w1.cell? ⟨w.heap.size, 2, none⟩ = some (.slice ae E ce) := BX1.cell 2
    have c3 : w1.cell? ⟨w.heap.size, 3, none⟩ = some (.slice at' T ct) := BX1.cell 3
    by_cases hM0 : M = 0
    · have HA2 : Hid (A = 12) := by show _ = _; rw [HA.out]; unfold checkA wholeA; rw [HNM.out, if_neg (by rw [hn]; decide), if_pos (by rw [HLM.out]; exact hM0)]; rfl
      clear HA hn
      subst hM0
      go_wp2_with fail
      go_ret
      exact ⟨ret_e HA2.out.symm, hbw1⟩
    by_cases hbig : 10 < M
    · have HA2 : Hid (A = 4) := by show _ = _; rw [HA.out]; unfold checkA wholeA; rw [HNM.out, if_neg (by rw [hn]; decide), if_neg (by rw [HLM.out]; exact hM0), if_pos (by unfold bigS; rw [HLM.out, decide_eq_true (.inl hbig)])]; rfl
      clear HA hn
      go_wp2_with fail
      go_ret
      exact ⟨ret_e HA2.out.symm, hbw1⟩
    by_cases hbig2 : 6 < E
    · have HA2 : Hid (A = 4) := by show _ = _; rw [HA.out]; unfold checkA wholeA; rw [HNM.out, if_neg (by rw [hn]; decide), if_neg (by rw [HLM.out]; exact hM0), if_pos (by unfold bigS; rw [HLE.out, decide_eq_true (.inr (.inl hbig2))])]; rfl
      clear HA hn
      go_wp2_with fail
      go_ret
      exact ⟨ret_e HA2.out.symm, hbw1⟩
    by_cases hbig3 : 6 < T
    · have HA2 : Hid (A = 4) := by show _ = _; rw [HA.out]; unfold checkA wholeA; rw [HNM.out, if_neg (by rw [hn]; decide), if_neg (by rw [HLM.out]; exact hM0), if_pos (by unfold bigS; rw [HLT.out, decide_eq_true (.inr (.inr hbig3))])]; rfl
      clear HA hn
      go_wp2_with fail
      go_ret
      exact ⟨ret_e HA2.out.symm, hbw1⟩
    obtain ⟨X, hX⟩ : ∃ X, partsA s = X := ⟨_, rfl⟩
    have HA2 : Hid (A = orE X (chkTs s.mn ((s.methods.take 0).map MtS.name) (s.methods.drop 0))) := by
      show _ = _
      rw [HA.out]; unfold checkA wholeA
      rw [HNM.out, if_neg (by rw [hn]; decide), if_neg (by rw [HLM.out]; exact hM0), if_neg (by unfold bigS; rw [HLM.out, HLE.out, HLT.out, decide_eq_false (by omega)]; decide), orE_zero, hX]
      rfl
    have HP : Hid (∀ W, Below w.heap.size w W → Calls Try.prog 35 #[.agg #[.string nm, .slice am M cm, .slice ae E ce, .slice at' T ct]] W fun e W' => e = .returned (.int .i64 X) ∧ Below W.heap.size W W') := fun W hW => by
      rw [← hX]
      exact rparts_any (HM.out.below hW) (HE.out.below hW) HLM.out HLE.out hM14 hE10 HF.out.few.flds HF.out.few.vals HF.out.sm HF.out.sn
    clear HA hX hn
    go_wp2_with fail
    clear c0 c1 c2 c3
    refine (HP.out w1 hbw1).mono ?_
    rintro e w2 ⟨rfl, hb2⟩
    have hbw2 : Below w.heap.size w w2 := hbw1.trans (hb2.mono hbw1.size)
    have BX2 := BX1.below hb2
    clear hb2 hbw1 BX1 HP
    by_cases hX0 : X = 0
    case neg =>
      have HA3 : Hid (A = X) := by show _ = _; rw [HA2.out, orE_ne hX0]
      have hq : (X == 0) = false := by rw [beq_eq_false_iff_ne]; exact hX0
      clear HA2 hX0
      go_wp2_with fail
      go_ret
      exact ⟨ret_e HA3.out.symm, hbw2⟩
    subst hX0
    have HA3 : Hid (A = chkTs s.mn ((s.methods.take 0).map MtS.name) (s.methods.drop 0)) := by show _ = _; rw [HA2.out, orE_zero]
    have HS0 : Hid (Seen w2 w.heap.size (.slice none 0 0) ((s.methods.take 0).map MtS.name)) := Seen.nil _ _
    clear HA2
    go_wp2_with fail
    go_loopw [4, 5] (fun nv iv wr => ∃ (k : Nat) (sa : Option Addr) (sc : Nat), nv = .slice sa k sc ∧ iv = .int .i64 (k : Int) ∧ k ≤ T ∧ Hid (A = chkTs s.mn ((s.methods.take k).map MtS.name) (s.methods.drop k)) ∧ Hid (Seen wr w.heap.size (.slice sa k sc) ((s.methods.take k).map MtS.name)) ∧ Below w.heap.size w wr ∧ Blk wr w.heap.size #[.string nm, .slice am M cm, .slice ae E ce, .slice at' T ct] 26) (fun _ iv _ => T - (intOf iv).toNat)
    case atStart => exact ⟨0, none, 0, rfl, rfl, by omega, HA3, HS0, hbw2, BX2⟩
    case round =>
      clear HA3 HS0 hbw2 BX2
      obtain ⟨k, sa, sc, rfl, rfl, hk, HAk, HSE, hbel, BX⟩ := hrel
      have x3 : wr.cell? ⟨w.heap.size, 3, none⟩ = some (.slice at' T ct) := BX.cell 3
      by_cases hlt : k < T
      · obtain ⟨m, hm⟩ : ∃ x, s.methods[k]? = some x := ⟨_, List.getElem?_eq_getElem (by rw [HLT.out]; exact hlt)⟩
        have hsz := (HF.out.eachT m (List.mem_of_getElem? hm)).1
        obtain ⟨m0, m1, m2⟩ := m
        simp only at hsz
        have hfr : (mtRows s.methods)[k]? = some [.string m0, .string m1, .string m2] := by simp [mtRows, MtS.cells, hm]
        obtain ⟨g, off, rfl, hcs⟩ := HTR.out.get hfr
        have C0 := hcs 0 _ rfl
        have C1 := hcs 1 _ rfl
        have C2 := hcs 2 _ rfl
        simp only [Nat.add_zero] at C0 C1 C2
        have HTK : Hid ((s.methods.take (k + 1)).map MtS.name = (s.methods.take k).map MtS.name ++ [m0]) := by show _ = _; rw [List.take_add_one, hm]; simp
        obtain ⟨al, hal⟩ : ∃ al, (s.methods.take k).map MtS.name = al := ⟨_, rfl⟩
        rw [hal] at HAk HSE HTK
        have HAL : Hid (al.length = k) := by show _ = _; rw [← hal, List.length_map, List.length_take, HLT.out]; omega
        have HA2 : Hid (A = if freshB m0 al = false then 6 else if (memB m1 s.mn && memB m2 s.mn) = false then 8 else chkTs s.mn (al ++ [m0]) (s.methods.drop (k + 1))) := by
          show _ = _
          rw [HAk.out, drop_at hm]; rfl
        have p0 : wr.cell? ⟨g, off + k * 3, none⟩ = some (.string m0) := (hbel.cell (World.block_lt_of_cell? _ _ C0)).trans C0
        have p1 : wr.cell? ⟨g, off + k * 3 + 1, none⟩ = some (.string m1) := (hbel.cell (World.block_lt_of_cell? _ _ C1)).trans C1
        have p2 : wr.cell? ⟨g, off + k * 3 + 2, none⟩ = some (.string m2) := (hbel.cell (World.block_lt_of_cell? _ _ C2)).trans C2
        have ha : Below wr.heap.size wr (wr.alloc (.cells #[.string m0, .string m1, .string m2] 44)) := (Below.refl _ _).alloc (Nat.le_refl _) _
        have BV := Blk.new wr #[.string m0, .string m1, .string m2] 44
        clear C0 C1 C2 hcs hfr hm hal HAk
        go_wp2_with fail
        clear x3 p0 p1 p2
        refine (rfresh_any m0 (by omega) (HSE.out.below ha).row).mono ?_
        rintro e w1 ⟨rfl, hb1⟩
        have hbw1 : Below w.heap.size w w1 := (hbel.trans (ha.mono hbel.size)).trans (hb1.mono (hbel.trans (ha.mono hbel.size)).size)
        have HS1 : Hid (Seen w1 w.heap.size (.slice sa k sc) al) := (HSE.out.below ha).below hb1
        have BX1 := (BX.below ha).below hb1
        have BV1 := BV.below hb1
        clear BV ha hb1 HSE
        cases hfr : freshB m0 al with
        | false =>
          have HA4 : Hid (A = 6) := by show _ = _; rw [HA2.out, if_pos hfr]
          clear HA2
          go_wp2_with fail
          go_ret
          exact ⟨ret_e HA4.out.symm, hbw1⟩
        | true =>
          have HA4 : Hid (A = if (memB m1 s.mn && memB m2 s.mn) = false then 8 else chkTs s.mn (al ++ [m0]) (s.methods.drop (k + 1))) := by show _ = _; rw [HA2.out, if_neg (by rw [hfr]; decide)]
          clear HA2 hfr
          obtain ⟨bv, hbv⟩ : ∃ n, wr.heap.size = n := ⟨_, rfl⟩
          rw [hbv] at BV1 ⊢
          clear hbv hbel BX
          have v0 : w1.cell? ⟨bv, 0, none⟩ = some (.string m0) := BV1.cell 0
          go_wp2_with (first
            | (at_builtin; refine wpList_seen (al := al) (x := m0) rfl _ _ rfl rfl rfl HS1.out ?c1 ?c2 ?_)
            | fail)
          case c1 => exact hbw1.size
          case c2 => rw [HAL.out]; omega
          intro v' w2 hS2 hK2 hB2
          obtain ⟨ta, tc, rfl⟩ := hS2.form
          have hl2 : (al ++ [m0]).length = k + 1 := by rw [List.length_append, HAL.out]; rfl
          rw [hl2] at hS2 ⊢
          have HS2 : Hid (Seen w2 w.heap.size (.slice ta (k + 1) tc) (al ++ [m0])) := hS2
          have HAL2 : Hid ((al ++ [m0]).length = k + 1) := hl2
          have hb2 : Below w.heap.size w w2 := hbw1.trans hB2
          have BX2 := BX1.kp hK2 (fun e => absurd (own_type HS1.out e BX1) (by decide))
          have BV2 := BV1.kp hK2 (fun e => absurd (own_type HS1.out e BV1) (by decide))
          clear v0 hS2 hl2 hK2 hB2 BX1 BV1 HS1 hbw1 HAL
          have b0 : (w2).cell? ⟨w.heap.size, 0, none⟩ = some (.string nm) := BX2.cell 0
          have b1 : (w2).cell? ⟨w.heap.size, 1, none⟩ = some (.slice am M cm) := BX2.cell 1
          have b2 : (w2).cell? ⟨w.heap.size, 2, none⟩ = some (.slice ae E ce) := BX2.cell 2
          have b3 : (w2).cell? ⟨w.heap.size, 3, none⟩ = some (.slice (some ⟨g, off, none⟩) T ct) := BX2.cell 3
          have b4 : (w2).cell? ⟨bv, 1, none⟩ = some (.string m1) := BV2.cell 1
          go_wp2_with fail
          refine (rmessage_any (HM.out.below hb2)).mono ?_
          rintro e wv ⟨vf, vr, rfl, h1, h2, hb⟩
          rw [find_mn]
          obtain ⟨ya, yc, rfl, _, _⟩ := h1.form2
          obtain ⟨yd, ye, rfl, _, _⟩ := h2.form2
          generalize ((s.msgs.find? fun x => decide (x.name = m1)).getD zeroM).name = yn at *
          generalize (flRows ((s.msgs.find? fun x => decide (x.name = m1)).getD zeroM).fields).length = yF at *
          generalize (inRows ((s.msgs.find? fun x => decide (x.name = m1)).getD zeroM).reserved).length = yR at *
          have ha : Below wv.heap.size wv (wv.alloc (.cells #[.string yn, .slice ya yF yc, .slice yd yR ye] 35)) := (Below.refl _ _).alloc (Nat.le_refl _) _
          have hbwv : Below w.heap.size w (wv.alloc (.cells #[.string yn, .slice ya yF yc, .slice yd yR ye] 35)) := (hb2.trans (hb.mono hb2.size)).trans (ha.mono (hb2.trans (hb.mono hb2.size)).size)
          have BXwv := (BX2.below hb).below ha
          have BVwv := (BV2.below hb).below ha
          have HSwv : Hid (Seen (wv.alloc (.cells #[.string yn, .slice ya yF yc, .slice yd yR ye] 35)) w.heap.size (.slice ta (k + 1) tc) (al ++ [m0])) := Seen.below (Seen.below HS2.out hb) ha
          obtain ⟨yB, hyB⟩ : ∃ B, memB m1 (s.msgs.map MsS.name) = B := ⟨_, rfl⟩
          rw [hyB]
          have HyB : Hid (memB m1 s.mn = yB) := hyB
          clear b0 b1 b2 b3 b4 h1 h2 hb hb2 BX2 BV2 ha hyB
          have b0 : (wv.alloc (.cells #[.string yn, .slice ya yF yc, .slice yd yR ye] 35)).cell? ⟨w.heap.size, 0, none⟩ = some (.string nm) := BXwv.cell 0
          have b1 : (wv.alloc (.cells #[.string yn, .slice ya yF yc, .slice yd yR ye] 35)).cell? ⟨w.heap.size, 1, none⟩ = some (.slice am M cm) := BXwv.cell 1
          have b2 : (wv.alloc (.cells #[.string yn, .slice ya yF yc, .slice yd yR ye] 35)).cell? ⟨w.heap.size, 2, none⟩ = some (.slice ae E ce) := BXwv.cell 2
          have b3 : (wv.alloc (.cells #[.string yn, .slice ya yF yc, .slice yd yR ye] 35)).cell? ⟨w.heap.size, 3, none⟩ = some (.slice (some ⟨g, off, none⟩) T ct) := BXwv.cell 3
          have b4 : (wv.alloc (.cells #[.string yn, .slice ya yF yc, .slice yd yR ye] 35)).cell? ⟨bv, 2, none⟩ = some (.string m2) := BVwv.cell 2
          go_wp2_with fail
          refine (rmessage_any (HM.out.below hbwv)).mono ?_
          rintro e wx ⟨vf, vr, rfl, h1, h2, hb⟩
          rw [find_mn]
          obtain ⟨za, zc, rfl, _, _⟩ := h1.form2
          obtain ⟨zd, ze, rfl, _, _⟩ := h2.form2
          generalize ((s.msgs.find? fun x => decide (x.name = m2)).getD zeroM).name = zn at *
          generalize (flRows ((s.msgs.find? fun x => decide (x.name = m2)).getD zeroM).fields).length = zF at *
          generalize (inRows ((s.msgs.find? fun x => decide (x.name = m2)).getD zeroM).reserved).length = zR at *
          have ha : Below wx.heap.size wx (wx.alloc (.cells #[.string zn, .slice za zF zc, .slice zd zR ze] 35)) := (Below.refl _ _).alloc (Nat.le_refl _) _
          have hbwx : Below w.heap.size w (wx.alloc (.cells #[.string zn, .slice za zF zc, .slice zd zR ze] 35)) := (hbwv.trans (hb.mono hbwv.size)).trans (ha.mono (hbwv.trans (hb.mono hbwv.size)).size)
          have BXwx := (BXwv.below hb).below ha
          have BVwx := (BVwv.below hb).below ha
          have HSwx : Hid (Seen (wx.alloc (.cells #[.string zn, .slice za zF zc, .slice zd zR ze] 35)) w.heap.size (.slice ta (k + 1) tc) (al ++ [m0])) := Seen.below (Seen.below HSwv.out hb) ha
          obtain ⟨zB, hzB⟩ : ∃ B, memB m2 (s.msgs.map MsS.name) = B := ⟨_, rfl⟩
          rw [hzB]
          have HzB : Hid (memB m2 s.mn = zB) := hzB
          clear b0 b1 b2 b3 b4 h1 h2 hb hbwv BXwv BVwv ha hzB
          cases yB with
          | false =>
            have HA5 : Hid (A = 8) := by show _ = _; rw [HA4.out, if_pos (by rw [HyB.out]; rfl)]
            clear HA4
            go_wp2_with fail
            go_ret
            exact ⟨ret_e HA5.out.symm, hbwx⟩
          | true =>
            cases zB with
            | false =>
              have HA5 : Hid (A = 8) := by show _ = _; rw [HA4.out, if_pos (by rw [HyB.out, HzB.out]; rfl)]
              clear HA4
              go_wp2_with fail
              go_ret
              exact ⟨ret_e HA5.out.symm, hbwx⟩
            | true =>
              have HA5 : Hid (A = chkTs s.mn ((s.methods.take (k + 1)).map MtS.name) (s.methods.drop (k + 1))) := by show _ = _; rw [HA4.out, if_neg (by rw [HyB.out, HzB.out]; decide), HTK.out]
              have HS4 : Hid (Seen (wx.alloc (.cells #[.string zn, .slice za zF zc, .slice zd zR ze] 35)) w.heap.size (.slice ta (k + 1) tc) ((s.methods.take (k + 1)).map MtS.name)) := by show Seen _ _ _ _; rw [HTK.out]; exact HSwx.out
              clear HA4
              go_wp2_with fail
              go_roundw
              case rel => exact ⟨k + 1, ta, tc, rfl, by go_num, by omega, HA5, HS4, hbwx, BXwx⟩
              case measure => simp [intOf]; omega
      · have HA3 : Hid (A = 0) := by show _ = _; rw [HAk.out, drop_end (by rw [HLT.out]; omega)]; rfl
        clear HAk
        go_wp2_with fail
        go_ret
        exact ⟨ret_e HA3.out.symm, hbel⟩
end Go.Proofs.Ytomeppgmmlaibaa
