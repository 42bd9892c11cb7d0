/- Part 18 of what the proof stands on. -/
import Derived.Test.YtmgbhicogmclgaaGreatPkWAQ
namespace Go.Proofs.YtmgbhicogmclgaaGreat
set_option maxHeartbeats 8000000
set_option linter.unusedVariables false
set_option linter.unusedSimpArgs false
set_option maxRecDepth 20000
open Go.ChangeShapes Go.WideShapes Go.ChangeAt Go.RowKit Go.Maps
theorem rparts_any {w : World} {snm : ByteArray} {am ae at' : Option Addr} {M cm E ce T ct : Nat} {ms : List MsS} {es : List EnS} (hm : MsIn w (.slice am M cm) ms) (he : EnIn w (.slice ae E ce) es) (hM : ms.length = M) (hE : es.length = E)
  (hM14 : M ≤ 30000) (hE10 : E ≤ 30000) (hfl : ∀ m ∈ ms,m.fields.length ≤ 30000 ∧ m.reserved.length ≤ 30000) (hvl : ∀ e ∈ es,e.values.length ≤ 30000) (hsm : ∀ m ∈ ms,m.name.size ≤ 20000 ∧ ∀ f ∈ m.fields,f.name.size ≤ 20000) (hse : ∀ m ∈ es,m.name.size ≤ 20000 ∧ ∀ f ∈ m.values,f.name.size ≤ 20000) :
  Calls Tryz.prog 29 #[.agg #[.string snm,.slice am M cm,.slice ae E ce,.slice at' T ct]] w fun e w' => e = .returned (.int .i64 (orE (chkMs (ms.map MsS.name) (es.map EnS.name) [] ms) (chkEs (ms.map MsS.name) es))) ∧ Below w.heap.size w w' := by
 have q1 : M ≤ cm ∧ cm ≤ 9223372036854775807 := by
  obtain ⟨a,c,h1,h2,h3⟩ := hm.form2;simp only [Value.slice.injEq] at h1;obtain ⟨_,rfl,rfl⟩ := h1;exact ⟨h2,h3⟩
 have q2 : E ≤ ce ∧ ce ≤ 9223372036854775807 := by
  obtain ⟨a,c,h1,h2,h3⟩ := he.form2;simp only [Value.slice.injEq] at h1;obtain ⟨_,rfl,rfl⟩ := h1;exact ⟨h2,h3⟩
 obtain ⟨qm1,qm2⟩ := q1;obtain ⟨qe1,qe2⟩ := q2;have HM : Hid (MsIn w (.slice am M cm) ms) := hm;have HE : Hid (EnIn w (.slice ae E ce) es) := he;have HLM : Hid (ms.length = M) := hM;have HLE : Hid (es.length = E) := hE;have HFL : Hid (∀ m ∈ ms,m.fields.length ≤ 30000 ∧ m.reserved.length ≤ 30000) := hfl;have HVL : Hid (∀ e ∈ es,e.values.length ≤ 30000) := hvl;have HSM : Hid (∀ m ∈ ms,m.name.size ≤ 20000 ∧ ∀ f ∈ m.fields,f.name.size ≤ 20000) := hsm;have HSN : Hid (∀ m ∈ es,m.name.size ≤ 20000 ∧ ∀ f ∈ m.values,f.name.size ≤ 20000) := hse;clear hm he hM hE hfl hvl hsm hse;obtain ⟨A,hA⟩ : ∃ A,orE (chkMs (ms.map MsS.name) (es.map EnS.name) [] ms) (chkEs (ms.map MsS.name) es) = A := ⟨_,rfl⟩;rw [hA];have HA : Hid (A = orE (chkMs (ms.map MsS.name) (es.map EnS.name) ((ms.take 0).map MsS.name) (ms.drop 0)) (chkEs (ms.map MsS.name) es)) := hA.symm;clear hA;have hba : Below w.heap.size w (w.alloc (.cells #[.string snm,.slice am M cm,.slice ae E ce,.slice at' T ct] 26)) := bra _;have BX0 := Blk.new w #[.string snm,.slice am M cm,.slice ae E ce,.slice at' T ct] 26;have HS0 : Hid (Seen (w.alloc (.cells #[.string snm,.slice am M cm,.slice ae E ce,.slice at' T ct] 26)) w.heap.size (.slice none 0 0) ((ms.take 0).map MsS.name)) := Seen.nil _ _
 go_enter Tryz.func29,Tryz.ntmps29
 go_wp2_with fail;generalize w.alloc (.cells #[.string snm,.slice am M cm,.slice ae E ce,.slice at' T ct] 26) = wb at *
 go_loopw [3,4] (fun nv iv wr => ∃ (k : Nat) (sa : Option Addr) (sc : Nat),nv = .slice sa k sc ∧ iv = .int .i64 (k : Int) ∧ k ≤ M ∧ Hid (A = orE (chkMs (ms.map MsS.name) (es.map EnS.name) ((ms.take k).map MsS.name) (ms.drop k)) (chkEs (ms.map MsS.name) es)) ∧ Hid (Seen wr w.heap.size (.slice sa k sc) ((ms.take k).map MsS.name)) ∧ Below w.heap.size w wr ∧ Blk wr w.heap.size #[.string snm,.slice am M cm,.slice ae E ce,.slice at' T ct] 26) (fun _ iv _ => M - (intOf iv).toNat)
 case atStart => exact ⟨0,none,0,rfl,rfl,by omega,HA,HS0,hba,BX0⟩
 case round =>
  clear HA HS0 hba BX0;obtain ⟨k,sa,sc,rfl,rfl,hk,HAk,HSE,hbel,BX⟩ := hrel;have x1 : wr.cell? ⟨w.heap.size,1,none⟩ = some (.slice am M cm) := BX.cell 1
  by_cases hlt : k < M
  ·obtain ⟨m,hm⟩ : ∃ x,ms[k]? = some x := ⟨_,List.getElem?_eq_getElem (by rw [HLM.out]; exact hlt)⟩;obtain ⟨g,off,vf,vr,rfl,c0',c1',c2',hrf,hrr⟩ := HM.out.get hm;obtain ⟨a3,c3,rfl,_,_⟩ := hrf.form2;obtain ⟨a4,c4,rfl,_,_⟩ := hrr.form2;have hmem := List.mem_of_getElem? hm;have hsz := (HSM.out m hmem).1
   have HTK : Hid ((ms.take (k + 1)).map MsS.name = (ms.take k).map MsS.name ++ [m.name]) := by show _ = _; rw [List.take_add_one,hm]; simp
   obtain ⟨al,hal⟩ : ∃ al,(ms.take k).map MsS.name = al := ⟨_,rfl⟩;rw [hal] at HAk HSE HTK
   have HAL : Hid (al.length = k) := by show _ = _; rw [← hal,List.length_map,List.length_take,HLM.out]; omega
   obtain ⟨X,hX⟩ : ∃ X,chkMb (ms.map MsS.name) (es.map EnS.name) m = X := ⟨_,rfl⟩
   have HA2 : Hid (A = orE (if freshB m.name al = false then 6 else orE X (chkMs (ms.map MsS.name) (es.map EnS.name) (al ++ [m.name]) (ms.drop (k + 1)))) (chkEs (ms.map MsS.name) es)) := by
    show _ = _
    rw [HAk.out,drop_at hm,← hX]; rfl
   have HCM : Hid (∀ W,Below w.heap.size w W → Calls Tryz.prog 57 #[.agg #[.string snm,.slice (some ⟨g,off,none⟩) M cm,.slice ae E ce,.slice at' T ct],.agg #[.string m.name,.slice a3 (flRows m.fields).length c3,.slice a4 (inRows m.reserved).length c4]] W fun e W' => e = .returned (.int .i64 X) ∧ Below W.heap.size W W') := fun W hW => by
    rw [← hX];exact rmsg_any (HM.out.below hW) (HE.out.below hW) (hrf.below hW) (hrr.below hW) (HFL.out m hmem).1 (HFL.out m hmem).2 (HSM.out m hmem).2
   have C0 : Hid (w.cell? ⟨g,off + k * 3,none⟩ = some (.string m.name)) := c0';have C1 : Hid (w.cell? ⟨g,off + k * 3 + 1,none⟩ = some (.slice a3 (flRows m.fields).length c3)) := c1';have C2 : Hid (w.cell? ⟨g,off + k * 3 + 2,none⟩ = some (.slice a4 (inRows m.reserved).length c4)) := c2';clear c0' c1' c2' hrf hrr hm hmem hal hX HAk;generalize (flRows m.fields).length = nF at *;generalize (inRows m.reserved).length = nR at *;generalize m.name = m0 at *;have p0 : wr.cell? ⟨g,off + k * 3,none⟩ = some (.string m0) := (hbel.cell (World.block_lt_of_cell? _ _ C0.out)).trans C0.out;go_wp2_with fail;clear x1 p0;refine (rfresh_any m0 hsz HSE.out.row).mono ?_;rintro e w1 ⟨rfl,hb1⟩;have hbw1 : Below w.heap.size w w1 := hbel.trans (hb1.mono hbel.size);have HS1 : Hid (Seen w1 w.heap.size (.slice sa k sc) al) := HSE.out.below hb1;have BX1 := BX.below hb1;clear hb1 HSE hbel BX
   cases hfr : freshB m0 al with
   | false =>
    have HA4 : Hid (A = 6) := by show _ = _; rw [HA2.out,if_pos hfr]; rfl
    clear HA2;go_wp2_with fail;go_ret;exact ⟨ret_e HA4.out.symm,hbw1⟩
   | true =>
    have HA4 : Hid (A = orE (orE X (chkMs (ms.map MsS.name) (es.map EnS.name) (al ++ [m0]) (ms.drop (k + 1)))) (chkEs (ms.map MsS.name) es)) := by show _ = _; rw [HA2.out,if_neg (by rw [hfr]; decide)]
    clear HA2 hfr;have x1 : w1.cell? ⟨w.heap.size,1,none⟩ = some (.slice (some ⟨g,off,none⟩) M cm) := BX1.cell 1;have p0 : w1.cell? ⟨g,off + k * 3,none⟩ = some (.string m0) := (hbw1.cell (World.block_lt_of_cell? _ _ C0.out)).trans C0.out
    go_wp2_with (first
     | (at_builtin; refine wpList_seen (al := al) (x := m0) rfl _ _ rfl rfl rfl HS1.out ?c1 ?c2 ?_)
     | fail)
    case c1 => exact hbw1.size
    case c2 => rw [HAL.out]; omega
    intro v' w2 hS2 hK2 hB2;obtain ⟨ta,tc,rfl⟩ := hS2.form
    have hl2 : (al ++ [m0]).length = k + 1 := by rw [List.length_append,HAL.out]; rfl
    rw [hl2] at hS2 ⊢;have HS2 : Hid (Seen w2 w.heap.size (.slice ta (k + 1) tc) (al ++ [m0])) := hS2;have HAL2 : Hid ((al ++ [m0]).length = k + 1) := hl2;have hb2 : Below w.heap.size w w2 := hbw1.trans hB2;have BX2 := BX1.kp hK2 (fun e => absurd (own_type HS1.out e BX1) (by decide));clear x1 p0 hS2 hl2 hK2 hB2 BX1 HS1 hbw1 HAL;have k0 : w2.cell? ⟨g,off + k * 3,none⟩ = some (.string m0) := (hb2.cell (World.block_lt_of_cell? _ _ C0.out)).trans C0.out;have k1 : w2.cell? ⟨g,off + k * 3 + 1,none⟩ = some (.slice a3 nF c3) := (hb2.cell (World.block_lt_of_cell? _ _ C1.out)).trans C1.out;have k2 : w2.cell? ⟨g,off + k * 3 + 2,none⟩ = some (.slice a4 nR c4) := (hb2.cell (World.block_lt_of_cell? _ _ C2.out)).trans C2.out;have x0 : w2.cell? ⟨w.heap.size,0,none⟩ = some (.string snm) := BX2.cell 0;have x1 : w2.cell? ⟨w.heap.size,1,none⟩ = some (.slice (some ⟨g,off,none⟩) M cm) := BX2.cell 1;have x2 : w2.cell? ⟨w.heap.size,2,none⟩ = some (.slice ae E ce) := BX2.cell 2;have x3 : w2.cell? ⟨w.heap.size,3,none⟩ = some (.slice at' T ct) := BX2.cell 3
    have HS : Hid (∀ W,Below w2.heap.size w2 W → Calls Tryz.prog 57 #[.agg #[.string snm,.slice (some ⟨g,off,none⟩) M cm,.slice ae E ce,.slice at' T ct],.agg #[.string m0,.slice a3 nF c3,.slice a4 nR c4]] W fun e W' => e = .returned (.int .i64 X) ∧ Below w2.heap.size w2 W') := fun W hW => by
     refine (HCM.out W (hb2.trans (hW.mono hb2.size))).mono ?_;rintro e W' ⟨rfl,hb⟩;exact ⟨rfl,hW.trans (hb.mono hW.size)⟩
    clear HCM;go_wp2_with fail;have kk0 := kept_cell k0;have kk1 := kept_cell k1;have kk2 := kept_cell k2;have kk3 := kept_cell x0;have kk4 := kept_cell x1;have kk5 := kept_cell x2;have kk6 := kept_cell x3
    haveI := nonempty_qb (Below.refl w2.heap.size w2)
    refine wp_region_qb (Below.refl w2.heap.size w2) (by kernel_rfl) (by kernel_rfl) ?_
    repeat (go_big_quiet_step (first | (go_at_call 57; exact qb_call HS.out)))
    refine wpQuiet_nil ?_;rintro we ⟨⟨_,hW⟩,rfl⟩;clear kk0 kk1 kk2 kk3 kk4 kk5 kk6;have hbn : Below w.heap.size w we := hb2.trans (hW.mono hb2.size);have hbx := BX2.below hW;have HS3 : Hid (Seen we w.heap.size (.slice ta (k + 1) tc) (al ++ [m0])) := HS2.out.below hW;clear k0 k1 k2 x0 x1 x2 x3 HS hW hb2 BX2 HS2
    by_cases hX0 : X = 0
    ·subst hX0
     have HA5 : Hid (A = orE (chkMs (ms.map MsS.name) (es.map EnS.name) ((ms.take (k + 1)).map MsS.name) (ms.drop (k + 1))) (chkEs (ms.map MsS.name) es)) := by show _ = _; rw [HA4.out,HTK.out,orE_zero]
     have HS4 : Hid (Seen we w.heap.size (.slice ta (k + 1) tc) ((ms.take (k + 1)).map MsS.name)) := by show Seen _ _ _ _; rw [HTK.out]; exact HS3.out
     go_wp2_with fail
     go_roundw
     case rel => exact ⟨k + 1,ta,tc,rfl,by go_num,by omega,HA5,HS4,hbn,hbx⟩
     case measure => simp [intOf]; omega
    ·have HA5 : Hid (A = X) := by show _ = _; rw [HA4.out,orE_ne hX0,orE_ne hX0]
     have hq : (X == 0) = false := by rw [beq_eq_false_iff_ne]; exact hX0
     clear HA4 hX0;go_wp2_with fail;go_ret;exact ⟨ret_e HA5.out.symm,hbn⟩
  ·have HA2 : Hid (A = chkEs ((ms.map MsS.name) ++ (es.take 0).map EnS.name) (es.drop 0)) := by
    show _ = _
    rw [HAk.out,drop_end (by rw [HLM.out]; omega)]
    simp [chkMs,orE]
   have hkM : k = M := by omega
   have HS0 : Hid (Seen wr w.heap.size (.slice sa (M + 0) sc) ((ms.map MsS.name) ++ (es.take 0).map EnS.name)) := by
    have h1 := HSE.out
    show Seen _ _ _ _
    rw [hkM,List.take_of_length_le (by rw [HLM.out]; omega)] at h1
    simpa using h1
   clear HAk HSE;subst hkM;go_wp2_with fail;clear x1 hk hlt
   go_loopw [3,6] (fun nv iv wr => ∃ (j : Nat) (sa : Option Addr) (sc : Nat),nv = .slice sa (k + j) sc ∧ iv = .int .i64 (j : Int) ∧ j ≤ E ∧ Hid (A = chkEs ((ms.map MsS.name) ++ (es.take j).map EnS.name) (es.drop j)) ∧ Hid (Seen wr w.heap.size (.slice sa (k + j) sc) ((ms.map MsS.name) ++ (es.take j).map EnS.name)) ∧ Below w.heap.size w wr ∧ Blk wr w.heap.size #[.string snm,.slice am k cm,.slice ae E ce,.slice at' T ct] 26) (fun _ iv _ => E - (intOf iv).toNat)
   case atStart => exact ⟨0,sa,sc,rfl,rfl,by omega,HA2,HS0,hbel,BX⟩
   case round =>
    clear HA2 HS0 hbel BX;obtain ⟨j,sa,sc,rfl,rfl,hj,HAk,HSE,hbel,BX⟩ := hrel;have x2 : wr.cell? ⟨w.heap.size,2,none⟩ = some (.slice ae E ce) := BX.cell 2
    by_cases hlt : j < E
    ·obtain ⟨m,hm⟩ : ∃ x,es[j]? = some x := ⟨_,List.getElem?_eq_getElem (by rw [HLE.out]; exact hlt)⟩;obtain ⟨g,off,vv,rfl,c0',c1',hrf⟩ := HE.out.get hm;obtain ⟨a3,c3,rfl,_,_⟩ := hrf.form2;have hmem := List.mem_of_getElem? hm;have hsz := (HSN.out m hmem).1
     have HTK : Hid ((ms.map MsS.name) ++ (es.take (j + 1)).map EnS.name = ((ms.map MsS.name) ++ (es.take j).map EnS.name) ++ [m.name]) := by show _ = _; rw [List.take_add_one,hm]; simp
     obtain ⟨al,hal⟩ : ∃ al,(ms.map MsS.name) ++ (es.take j).map EnS.name = al := ⟨_,rfl⟩;rw [hal] at HAk HSE HTK
     have HAL : Hid (al.length = k + j) := by show _ = _; rw [← hal,List.length_append,List.length_map,List.length_map,List.length_take,HLE.out,HLM.out]; omega
     obtain ⟨X,hX⟩ : ∃ X,chkEb m = X := ⟨_,rfl⟩
     have HA2 : Hid (A = if freshB m.name al = false then 6 else orE X (chkEs (al ++ [m.name]) (es.drop (j + 1)))) := by
      show _ = _
      rw [HAk.out,drop_at hm,← hX]; rfl
     have HCM : Hid (∀ W,Below w.heap.size w W → Calls Tryz.prog 58 #[.agg #[.string m.name,.slice a3 (nmRows m.values).length c3]] W fun e W' => e = .returned (.int .i64 X) ∧ Below W.heap.size W W') := fun W hW => by
      rw [← hX];exact rfenum_any (hrf.below hW) (HVL.out m hmem) (HSN.out m hmem).2
     have C0 : Hid (w.cell? ⟨g,off + j * 2,none⟩ = some (.string m.name)) := c0';have C1 : Hid (w.cell? ⟨g,off + j * 2 + 1,none⟩ = some (.slice a3 (nmRows m.values).length c3)) := c1';clear c0' c1' hrf hm hmem hal hX HAk;generalize (nmRows m.values).length = nF at *;generalize m.name = m0 at *;have p0 : wr.cell? ⟨g,off + j * 2,none⟩ = some (.string m0) := (hbel.cell (World.block_lt_of_cell? _ _ C0.out)).trans C0.out;go_wp2_with fail;clear x2 p0;refine (rfresh_any m0 hsz HSE.out.row).mono ?_;rintro e w1 ⟨rfl,hb1⟩;have hbw1 : Below w.heap.size w w1 := hbel.trans (hb1.mono hbel.size);have HS1 : Hid (Seen w1 w.heap.size (.slice sa (k + j) sc) al) := HSE.out.below hb1;have BX1 := BX.below hb1;clear hb1 HSE hbel BX
     cases hfr : freshB m0 al with
     | false =>
      have HA4 : Hid (A = 6) := by show _ = _; rw [HA2.out,if_pos hfr]
      clear HA2;go_wp2_with fail;go_ret;exact ⟨ret_e HA4.out.symm,hbw1⟩
     | true =>
      have HA4 : Hid (A = orE X (chkEs (al ++ [m0]) (es.drop (j + 1)))) := by show _ = _; rw [HA2.out,if_neg (by rw [hfr]; decide)]
      clear HA2 hfr;have x2 : w1.cell? ⟨w.heap.size,2,none⟩ = some (.slice (some ⟨g,off,none⟩) E ce) := BX1.cell 2;have p0 : w1.cell? ⟨g,off + j * 2,none⟩ = some (.string m0) := (hbw1.cell (World.block_lt_of_cell? _ _ C0.out)).trans C0.out
      go_wp2_with (first
       | (at_builtin; refine wpList_seen (al := al) (x := m0) rfl _ _ rfl rfl rfl HS1.out ?c1 ?c2 ?_)
       | fail)
      case c1 => exact hbw1.size
      case c2 => rw [HAL.out]; omega
      intro v' w2 hS2 hK2 hB2;obtain ⟨ta,tc,rfl⟩ := hS2.form
      have hl2 : (al ++ [m0]).length = k + j + 1 := by rw [List.length_append,HAL.out]; rfl
      rw [hl2] at hS2 ⊢;have HS2 : Hid (Seen w2 w.heap.size (.slice ta (k + j + 1) tc) (al ++ [m0])) := hS2;have HAL2 : Hid ((al ++ [m0]).length = k + j + 1) := hl2;have hb2 : Below w.heap.size w w2 := hbw1.trans hB2;have BX2 := BX1.kp hK2 (fun e => absurd (own_type HS1.out e BX1) (by decide));clear x2 p0 hS2 hl2 hK2 hB2 BX1 HS1 hbw1 HAL;have k0 : w2.cell? ⟨g,off + j * 2,none⟩ = some (.string m0) := (hb2.cell (World.block_lt_of_cell? _ _ C0.out)).trans C0.out;have k1 : w2.cell? ⟨g,off + j * 2 + 1,none⟩ = some (.slice a3 nF c3) := (hb2.cell (World.block_lt_of_cell? _ _ C1.out)).trans C1.out;have x2 : w2.cell? ⟨w.heap.size,2,none⟩ = some (.slice (some ⟨g,off,none⟩) E ce) := BX2.cell 2;go_wp2_with fail;clear k0 k1 x2;refine (HCM.out w2 hb2).mono ?_;rintro e we ⟨rfl,hW⟩;have hbn : Below w.heap.size w we := hb2.trans (hW.mono hb2.size);have hbx := BX2.below hW;have HS3 : Hid (Seen we w.heap.size (.slice ta (k + j + 1) tc) (al ++ [m0])) := HS2.out.below hW;clear hW hb2 BX2 HS2 HCM
      by_cases hX0 : X = 0
      ·subst hX0
       have HA5 : Hid (A = chkEs ((ms.map MsS.name) ++ (es.take (j + 1)).map EnS.name) (es.drop (j + 1))) := by show _ = _; rw [HA4.out,HTK.out,orE_zero]
       have HS4 : Hid (Seen we w.heap.size (.slice ta (k + (j + 1)) tc) ((ms.map MsS.name) ++ (es.take (j + 1)).map EnS.name)) := by show Seen _ _ _ _; rw [HTK.out]; exact HS3.out
       go_wp2_with fail
       go_roundw
       case rel => exact ⟨j + 1,ta,tc,rfl,by go_num,by omega,HA5,HS4,hbn,hbx⟩
       case measure => simp [intOf]; omega
      ·have HA5 : Hid (A = X) := by show _ = _; rw [HA4.out,orE_ne hX0]
       have hq : (X == 0) = false := by rw [beq_eq_false_iff_ne]; exact hX0
       clear HA4 hX0;go_wp2_with fail;go_ret;exact ⟨ret_e HA5.out.symm,hbn⟩
    ·have HA3 : Hid (A = 0) := by show _ = _; rw [HAk.out,drop_end (by rw [HLE.out]; omega)]; rfl
     clear HAk;go_wp2_with fail;go_ret;exact ⟨ret_e HA3.out.symm,hbel⟩
end Go.Proofs.YtmgbhicogmclgaaGreat
