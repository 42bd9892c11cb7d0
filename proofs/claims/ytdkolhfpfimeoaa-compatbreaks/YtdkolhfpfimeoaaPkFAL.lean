/- Part 12 of what the proof stands on. -/
import Derived.Test.YtdkolhfpfimeoaaPkFAK
namespace Go.Proofs.Ytdkolhfpfimeoaa
set_option maxHeartbeats 8000000
set_option linter.unusedVariables false
set_option linter.unusedSimpArgs false
set_option maxRecDepth 20000
section
open Go.ChangeShapes Go.WideShapes Go.ChangeAt Go.RowKit Go.Maps
theorem rparts_any {w : World} {snm : ByteArray} {am ae at' : Option Addr} {M cm E ce T ct : Nat} {ms : List MsS} {es : List EnS} (hm : MsIn w (.slice am M cm) ms) (he : EnIn w (.slice ae E ce) es) (hM : ms.length = M) (hE : es.length = E)
  (hM14 : M ≤ 30000) (hE10 : E ≤ 30000) (hfl : ∀ m ∈ ms,m.fields.length ≤ 30000 ∧ m.reserved.length ≤ 30000) (hvl : ∀ e ∈ es,e.values.length ≤ 30000) (hsm : ∀ m ∈ ms,m.name.size ≤ 20000 ∧ ∀ f ∈ m.fields,f.name.size ≤ 20000) (hse : ∀ m ∈ es,m.name.size ≤ 20000 ∧ ∀ f ∈ m.values,f.name.size ≤ 20000) :
  Calls Try.prog 29 #[.agg #[.string snm,.slice am M cm,.slice ae E ce,.slice at' T ct]] w fun e w' => e = .returned (.int .i64 (orE (chkMs (ms.map MsS.name) (es.map EnS.name) [] ms) (chkEs (ms.map MsS.name) es))) ∧ Below w.heap.size w w' := by
 have q1 : M ≤ cm ∧ cm ≤ 9223372036854775807 := by
  obtain ⟨a,c,h1,h2,h3⟩ := hm.form2;simp only [Value.slice.injEq] at h1;obtain ⟨_,rfl,rfl⟩ := h1;exact ⟨h2,h3⟩
 have q2 : E ≤ ce ∧ ce ≤ 9223372036854775807 := by
  obtain ⟨a,c,h1,h2,h3⟩ := he.form2;simp only [Value.slice.injEq] at h1;obtain ⟨_,rfl,rfl⟩ := h1;exact ⟨h2,h3⟩
 obtain ⟨qm1,qm2⟩ := q1;obtain ⟨qe1,qe2⟩ := q2;have HM : Hid (MsIn w (.slice am M cm) ms) := hm;have HE : Hid (EnIn w (.slice ae E ce) es) := he;have HLM : Hid (ms.length = M) := hM;have HLE : Hid (es.length = E) := hE;have HFL : Hid (∀ m ∈ ms,m.fields.length ≤ 30000 ∧ m.reserved.length ≤ 30000) := hfl;have HVL : Hid (∀ e ∈ es,e.values.length ≤ 30000) := hvl;have HSM : Hid (∀ m ∈ ms,m.name.size ≤ 20000 ∧ ∀ f ∈ m.fields,f.name.size ≤ 20000) := hsm;have HSN : Hid (∀ m ∈ es,m.name.size ≤ 20000 ∧ ∀ f ∈ m.values,f.name.size ≤ 20000) := hse;clear hm he hM hE hfl hvl hsm hse;obtain ⟨A,hA⟩ : ∃ A,orE (chkMs (ms.map MsS.name) (es.map EnS.name) [] ms) (chkEs (ms.map MsS.name) es) = A := ⟨_,rfl⟩;rw [hA];have HA : Hid (A = orE (chkMs (ms.map MsS.name) (es.map EnS.name) ((ms.take 0).map MsS.name) (ms.drop 0)) (chkEs (ms.map MsS.name) es)) := hA.symm;clear hA;have hba : Below w.heap.size w (w.alloc (.cells #[.string snm,.slice am M cm,.slice ae E ce,.slice at' T ct] 26)) := (Below.refl _ _).alloc (Nat.le_refl _) _;have BX0 := Blk.new w #[.string snm,.slice am M cm,.slice ae E ce,.slice at' T ct] 26;have HS0 : Hid (Seen (w.alloc (.cells #[.string snm,.slice am M cm,.slice ae E ce,.slice at' T ct] 26)) w.heap.size (.slice none 0 0) ((ms.take 0).map MsS.name)) := Seen.nil _ _
 go_enter Try.func29,Try.ntmps29
 go_wp2_with fail;generalize w.alloc (.cells #[.string snm,.slice am M cm,.slice ae E ce,.slice at' T ct] 26) = wb at *
 go_loopw [3,4] (fun nv iv wr => ∃ (k : Nat) (sa : Option Addr) (sc : Nat),nv = .slice sa k sc ∧ iv = .int .i64 (k : Int) ∧ k ≤ M ∧ Hid (A = orE (chkMs (ms.map MsS.name) (es.map EnS.name) ((ms.take k).map MsS.name) (ms.drop k)) (chkEs (ms.map MsS.name) es)) ∧ Hid (Seen wr w.heap.size (.slice sa k sc) ((ms.take k).map MsS.name)) ∧ Below w.heap.size w wr ∧ Blk wr w.heap.size #[.string snm,.slice am M cm,.slice ae E ce,.slice at' T ct] 26) (fun _ iv _ => M - (intOf iv).toNat)
 case atStart => exact ⟨0,none,0,rfl,rfl,by omega,HA,HS0,hba,BX0⟩
 case round =>
  clear HA HS0 hba BX0;obtain ⟨k,sa,sc,rfl,rfl,hk,HAk,HSE,hbel,BX⟩ := hrel;have x1 : wr.cell? ⟨w.heap.size,1,none⟩ = some (.slice am M cm) := BX.cell 1
  by_cases hlt : k < M
  ·obtain ⟨m,hm⟩ : ∃ x,ms[k]? = some x := ⟨_,List.getElem?_eq_getElem (by rw [HLM.out]; exact hlt)⟩;obtain ⟨g,off,vf,vr,rfl,c0',c1',c2',hrf,hrr⟩ := HM.out.get hm;obtain ⟨a3,c3,rfl,_,_⟩ := hrf.form2;obtain ⟨a4,c4,rfl,_,_⟩ := hrr.form2;have hmem := List.mem_of_getElem? hm;have hsz := (HSM.out m hmem).1
   have HTK : Hid ((ms.take (k + 1)).map MsS.name = (ms.take k).map MsS.name ++ [m.name]) := by show _ = _; rw [List.take_add_one,hm]; simp
   obtain ⟨al,hal⟩ : ∃ al,(ms.take k).map MsS.name = al := ⟨_,rfl⟩;rw [hal] at HAk HSE HTK
   have HAL : Hid (al.length = k) := by show _ = _; rw [← hal,List.length_map,List.length_take,HLM.out]; omega
   obtain ⟨X,hX⟩ : ∃ X,chkMb (ms.map MsS.name) (es.map EnS.name) m = X := ⟨_,rfl⟩
   have HA2 : Hid (A = orE (if freshB m.name al = false then 6 else orE X (chkMs (ms.map MsS.name) (es.map EnS.name) (al ++ [m.name]) (ms.drop (k + 1)))) (chkEs (ms.map MsS.name) es)) := by
    show _ = _
    rw [HAk.out,drop_at hm,← hX]; rfl
   have HCM : Hid (∀ W,Below w.heap.size w W → Calls Try.prog 48 #[.agg #[.string snm,.slice (some ⟨g,off,none⟩) M cm,.slice ae E ce,.slice at' T ct],.agg #[.string m.name,.slice a3 (flRows m.fields).length c3,.slice a4 (inRows m.reserved).length c4]] W fun e W' => e = .returned (.int .i64 X) ∧ Below W.heap.size W W') := fun W hW => by
    rw [← hX];exact rmsg_any (HM.out.below hW) (HE.out.below hW) (hrf.below hW) (hrr.below hW) (HFL.out m hmem).1 (HFL.out m hmem).2 (HSM.out m hmem).2
   have C0 : Hid (w.cell? ⟨g,off + k * 3,none⟩ = some (.string m.name)) := c0';have C1 : Hid (w.cell? ⟨g,off + k * 3 + 1,none⟩ = some (.slice a3 (flRows m.fields).length c3)) := c1';have C2 : Hid (w.cell? ⟨g,off + k * 3 + 2,none⟩ = some (.slice a4 (inRows m.reserved).length c4)) := c2';clear c0' c1' c2' hrf hrr hm hmem hal hX HAk;generalize (flRows m.fields).length = nF at *;generalize (inRows m.reserved).length = nR at *;generalize m.name = m0 at *;have p0 : wr.cell? ⟨g,off + k * 3,none⟩ = some (.string m0) := (hbel.cell (World.block_lt_of_cell? _ _ C0.out)).trans C0.out;go_wp2_with fail;clear x1 p0;refine (rfresh_any m0 hsz HSE.out.row).mono ?_;rintro e w1 ⟨rfl,hb1⟩;have hbw1 : Below w.heap.size w w1 := hbel.trans (hb1.mono hbel.size);have HS1 : Hid (Seen w1 w.heap.size (.slice sa k sc) al) := HSE.out.below hb1;have BX1 := BX.below hb1;clear hb1 HSE hbel BX
   cases hfr : freshB m0 al with
   | false =>
    have HA4 : Hid (A = 6) := by show _ = _; rw [HA2.out,if_pos hfr]; rfl
    clear HA2;go_wp2_with fail;go_ret;exact ⟨ret_e HA4.out.symm,hbw1⟩
   | true =>
    have HA4 : Hid (A = orE (orE X (chkMs (ms.map MsS.name) (es.map EnS.name) (al ++ [m0]) (ms.drop (k + 1)))) (chkEs (ms.map MsS.name) es)) := by show _ = _; rw [HA2.out,if_neg (by rw [hfr]; decide)]
    clear HA2 hfr;have x1 : w1.cell? ⟨w.heap.size,1,none⟩ = some (.slice (some ⟨g,off,none⟩) M cm) := BX1.cell 1;have p0 : w1.cell? ⟨g,off + k * 3,none⟩ = some (.string m0) := (hbw1.cell (World.block_lt_of_cell? _ _ C0.out)).trans C0.out
    go_wp2_with (first
     | (at_builtin; refine wpList_seen (al := al) (x := m0) rfl _ _ rfl rfl rfl HS1.out ?c1 ?c2 ?_)
     | fail)
    case c1 => exact hbw1.size
    case c2 => rw [HAL.out]; omega
    intro v' w2 hS2 hK2 hB2;obtain ⟨ta,tc,rfl⟩ := hS2.form
    have hl2 : (al ++ [m0]).length = k + 1 := by rw [List.length_append,HAL.out]; rfl
    rw [hl2] at hS2 ⊢;have HS2 : Hid (Seen w2 w.heap.size (.slice ta (k + 1) tc) (al ++ [m0])) := hS2;have HAL2 : Hid ((al ++ [m0]).length = k + 1) := hl2;have hb2 : Below w.heap.size w w2 := hbw1.trans hB2;have BX2 := BX1.kp hK2 (fun e => absurd (own_type HS1.out e BX1) (by decide));clear x1 p0 hS2 hl2 hK2 hB2 BX1 HS1 hbw1 HAL;have k0 : w2.cell? ⟨g,off + k * 3,none⟩ = some (.string m0) := (hb2.cell (World.block_lt_of_cell? _ _ C0.out)).trans C0.out;have k1 : w2.cell? ⟨g,off + k * 3 + 1,none⟩ = some (.slice a3 nF c3) := (hb2.cell (World.block_lt_of_cell? _ _ C1.out)).trans C1.out;have k2 : w2.cell? ⟨g,off + k * 3 + 2,none⟩ = some (.slice a4 nR c4) := (hb2.cell (World.block_lt_of_cell? _ _ C2.out)).trans C2.out;have x0 : w2.cell? ⟨w.heap.size,0,none⟩ = some (.string snm) := BX2.cell 0;have x1 : w2.cell? ⟨w.heap.size,1,none⟩ = some (.slice (some ⟨g,off,none⟩) M cm) := BX2.cell 1;have x2 : w2.cell? ⟨w.heap.size,2,none⟩ = some (.slice ae E ce) := BX2.cell 2;have x3 : w2.cell? ⟨w.heap.size,3,none⟩ = some (.slice at' T ct) := BX2.cell 3
    have HS : Hid (∀ W,Below w2.heap.size w2 W → Calls Try.prog 48 #[.agg #[.string snm,.slice (some ⟨g,off,none⟩) M cm,.slice ae E ce,.slice at' T ct],.agg #[.string m0,.slice a3 nF c3,.slice a4 nR c4]] W fun e W' => e = .returned (.int .i64 X) ∧ Below w2.heap.size w2 W') := fun W hW => by
     refine (HCM.out W (hb2.trans (hW.mono hb2.size))).mono ?_;rintro e W' ⟨rfl,hb⟩;exact ⟨rfl,hW.trans (hb.mono hW.size)⟩
    clear HCM;go_wp2_with fail;have kk0 := kept_cell k0;have kk1 := kept_cell k1;have kk2 := kept_cell k2;have kk3 := kept_cell x0;have kk4 := kept_cell x1;have kk5 := kept_cell x2;have kk6 := kept_cell x3
    haveI := nonempty_qb (Below.refl w2.heap.size w2)
    refine wp_region_qb (Below.refl w2.heap.size w2) (by kernel_rfl) (by kernel_rfl) ?_
    repeat (go_big_quiet_step (first | (go_at_call 48; exact qb_call HS.out)))
    refine wpQuiet_nil ?_;rintro we ⟨⟨_,hW⟩,rfl⟩;clear kk0 kk1 kk2 kk3 kk4 kk5 kk6;have hbn : Below w.heap.size w we := hb2.trans (hW.mono hb2.size);have hbx := BX2.below hW;have HS3 : Hid (Seen we w.heap.size (.slice ta (k + 1) tc) (al ++ [m0])) := HS2.out.below hW;clear k0 k1 k2 x0 x1 x2 x3 HS hW hb2 BX2 HS2
    by_cases hX0 : X = 0
    ·subst hX0
     have HA5 : Hid (A = orE (chkMs (ms.map MsS.name) (es.map EnS.name) ((ms.take (k + 1)).map MsS.name) (ms.drop (k + 1))) (chkEs (ms.map MsS.name) es)) := by show _ = _; rw [HA4.out,HTK.out,orE_zero]
     have HS4 : Hid (Seen we w.heap.size (.slice ta (k + 1) tc) ((ms.take (k + 1)).map MsS.name)) := by show Seen _ _ _ _; rw [HTK.out]; exact HS3.out
     go_wp2_with fail
     go_roundw
     case rel => exact ⟨k + 1,ta,tc,rfl,by go_num,by omega,HA5,HS4,hbn,hbx⟩
     case measure => simp [intOf]; omega
    ·have HA5 : Hid (A = X) := by show _ = _; rw [HA4.out,orE_ne hX0,orE_ne hX0]
     have hq : (X == 0) = false := by rw [beq_eq_false_iff_ne]; exact hX0
     clear HA4 hX0;go_wp2_with fail;go_ret;exact ⟨ret_e HA5.out.symm,hbn⟩
  ·have HA2 : Hid (A = chkEs ((ms.map MsS.name) ++ (es.take 0).map EnS.name) (es.drop 0)) := by
    show _ = _
    rw [HAk.out,drop_end (by rw [HLM.out]; omega)]
    simp [chkMs,orE]
   have hkM : k = M := by omega
   have HS0 : Hid (Seen wr w.heap.size (.slice sa (M + 0) sc) ((ms.map MsS.name) ++ (es.take 0).map EnS.name)) := by
    have h1 := HSE.out
    show Seen _ _ _ _
    rw [hkM,List.take_of_length_le (by rw [HLM.out]; omega)] at h1
    simpa using h1
   clear HAk HSE;subst hkM;go_wp2_with fail;clear x1 hk hlt
   go_loopw [3,6] (fun nv iv wr => ∃ (j : Nat) (sa : Option Addr) (sc : Nat),nv = .slice sa (k + j) sc ∧ iv = .int .i64 (j : Int) ∧ j ≤ E ∧ Hid (A = chkEs ((ms.map MsS.name) ++ (es.take j).map EnS.name) (es.drop j)) ∧ Hid (Seen wr w.heap.size (.slice sa (k + j) sc) ((ms.map MsS.name) ++ (es.take j).map EnS.name)) ∧ Below w.heap.size w wr ∧ Blk wr w.heap.size #[.string snm,.slice am k cm,.slice ae E ce,.slice at' T ct] 26) (fun _ iv _ => E - (intOf iv).toNat)
   case atStart => exact ⟨0,sa,sc,rfl,rfl,by omega,HA2,HS0,hbel,BX⟩
   case round =>
    clear HA2 HS0 hbel BX;obtain ⟨j,sa,sc,rfl,rfl,hj,HAk,HSE,hbel,BX⟩ := hrel;have x2 : wr.cell? ⟨w.heap.size,2,none⟩ = some (.slice ae E ce) := BX.cell 2
    by_cases hlt : j < E
    ·obtain ⟨m,hm⟩ : ∃ x,es[j]? = some x := ⟨_,List.getElem?_eq_getElem (by rw [HLE.out]; exact hlt)⟩;obtain ⟨g,off,vv,rfl,c0',c1',hrf⟩ := HE.out.get hm;obtain ⟨a3,c3,rfl,_,_⟩ := hrf.form2;have hmem := List.mem_of_getElem? hm;have hsz := (HSN.out m hmem).1
     have HTK : Hid ((ms.map MsS.name) ++ (es.take (j + 1)).map EnS.name = ((ms.map MsS.name) ++ (es.take j).map EnS.name) ++ [m.name]) := by show _ = _; rw [List.take_add_one,hm]; simp
     obtain ⟨al,hal⟩ : ∃ al,(ms.map MsS.name) ++ (es.take j).map EnS.name = al := ⟨_,rfl⟩;rw [hal] at HAk HSE HTK
     have HAL : Hid (al.length = k + j) := by show _ = _; rw [← hal,List.length_append,List.length_map,List.length_map,List.length_take,HLE.out,HLM.out]; omega
     obtain ⟨X,hX⟩ : ∃ X,chkEb m = X := ⟨_,rfl⟩
     have HA2 : Hid (A = if freshB m.name al = false then 6 else orE X (chkEs (al ++ [m.name]) (es.drop (j + 1)))) := by
      show _ = _
      rw [HAk.out,drop_at hm,← hX]; rfl
     have HCM : Hid (∀ W,Below w.heap.size w W → Calls Try.prog 49 #[.agg #[.string m.name,.slice a3 (nmRows m.values).length c3]] W fun e W' => e = .returned (.int .i64 X) ∧ Below W.heap.size W W') := fun W hW => by
      rw [← hX];exact rfenum_any (hrf.below hW) (HVL.out m hmem) (HSN.out m hmem).2
     have C0 : Hid (w.cell? ⟨g,off + j * 2,none⟩ = some (.string m.name)) := c0';have C1 : Hid (w.cell? ⟨g,off + j * 2 + 1,none⟩ = some (.slice a3 (nmRows m.values).length c3)) := c1';clear c0' c1' hrf hm hmem hal hX HAk;generalize (nmRows m.values).length = nF at *;generalize m.name = m0 at *;have p0 : wr.cell? ⟨g,off + j * 2,none⟩ = some (.string m0) := (hbel.cell (World.block_lt_of_cell? _ _ C0.out)).trans C0.out;go_wp2_with fail;clear x2 p0;refine (rfresh_any m0 hsz HSE.out.row).mono ?_;rintro e w1 ⟨rfl,hb1⟩;have hbw1 : Below w.heap.size w w1 := hbel.trans (hb1.mono hbel.size);have HS1 : Hid (Seen w1 w.heap.size (.slice sa (k + j) sc) al) := HSE.out.below hb1;have BX1 := BX.below hb1;clear hb1 HSE hbel BX
     cases hfr : freshB m0 al with
     | false =>
      have HA4 : Hid (A = 6) := by show _ = _; rw [HA2.out,if_pos hfr]
      clear HA2;go_wp2_with fail;go_ret;exact ⟨ret_e HA4.out.symm,hbw1⟩
     | true =>
      have HA4 : Hid (A = orE X (chkEs (al ++ [m0]) (es.drop (j + 1)))) := by show _ = _; rw [HA2.out,if_neg (by rw [hfr]; decide)]
      clear HA2 hfr;have x2 : w1.cell? ⟨w.heap.size,2,none⟩ = some (.slice (some ⟨g,off,none⟩) E ce) := BX1.cell 2;have p0 : w1.cell? ⟨g,off + j * 2,none⟩ = some (.string m0) := (hbw1.cell (World.block_lt_of_cell? _ _ C0.out)).trans C0.out
      go_wp2_with (first
       | (at_builtin; refine wpList_seen (al := al) (x := m0) rfl _ _ rfl rfl rfl HS1.out ?c1 ?c2 ?_)
       | fail)
      case c1 => exact hbw1.size
      case c2 => rw [HAL.out]; omega
      intro v' w2 hS2 hK2 hB2;obtain ⟨ta,tc,rfl⟩ := hS2.form
      have hl2 : (al ++ [m0]).length = k + j + 1 := by rw [List.length_append,HAL.out]; rfl
      rw [hl2] at hS2 ⊢;have HS2 : Hid (Seen w2 w.heap.size (.slice ta (k + j + 1) tc) (al ++ [m0])) := hS2;have HAL2 : Hid ((al ++ [m0]).length = k + j + 1) := hl2;have hb2 : Below w.heap.size w w2 := hbw1.trans hB2;have BX2 := BX1.kp hK2 (fun e => absurd (own_type HS1.out e BX1) (by decide));clear x2 p0 hS2 hl2 hK2 hB2 BX1 HS1 hbw1 HAL;have k0 : w2.cell? ⟨g,off + j * 2,none⟩ = some (.string m0) := (hb2.cell (World.block_lt_of_cell? _ _ C0.out)).trans C0.out;have k1 : w2.cell? ⟨g,off + j * 2 + 1,none⟩ = some (.slice a3 nF c3) := (hb2.cell (World.block_lt_of_cell? _ _ C1.out)).trans C1.out;have x2 : w2.cell? ⟨w.heap.size,2,none⟩ = some (.slice (some ⟨g,off,none⟩) E ce) := BX2.cell 2;go_wp2_with fail;clear k0 k1 x2;refine (HCM.out w2 hb2).mono ?_;rintro e we ⟨rfl,hW⟩;have hbn : Below w.heap.size w we := hb2.trans (hW.mono hb2.size);have hbx := BX2.below hW;have HS3 : Hid (Seen we w.heap.size (.slice ta (k + j + 1) tc) (al ++ [m0])) := HS2.out.below hW;clear hW hb2 BX2 HS2 HCM
      by_cases hX0 : X = 0
      ·subst hX0
       have HA5 : Hid (A = chkEs ((ms.map MsS.name) ++ (es.take (j + 1)).map EnS.name) (es.drop (j + 1))) := by show _ = _; rw [HA4.out,HTK.out,orE_zero]
       have HS4 : Hid (Seen we w.heap.size (.slice ta (k + (j + 1)) tc) ((ms.map MsS.name) ++ (es.take (j + 1)).map EnS.name)) := by show Seen _ _ _ _; rw [HTK.out]; exact HS3.out
       go_wp2_with fail
       go_roundw
       case rel => exact ⟨j + 1,ta,tc,rfl,by go_num,by omega,HA5,HS4,hbn,hbx⟩
       case measure => simp [intOf]; omega
      ·have HA5 : Hid (A = X) := by show _ = _; rw [HA4.out,orE_ne hX0]
       have hq : (X == 0) = false := by rw [beq_eq_false_iff_ne]; exact hX0
       clear HA4 hX0;go_wp2_with fail;go_ret;exact ⟨ret_e HA5.out.symm,hbn⟩
    ·have HA3 : Hid (A = 0) := by show _ = _; rw [HAk.out,drop_end (by rw [HLE.out]; omega)]; rfl
     clear HAk;go_wp2_with fail;go_ret;exact ⟨ret_e HA3.out.symm,hbel⟩
theorem FewS.sm {s : ScS} (h : FewS s) : ∀ m ∈ s.msgs,m.name.size ≤ 20000 ∧ ∀ f ∈ m.fields,f.name.size ≤ 20000 := fun m hm => by
 have h1 := h.eachM m hm;refine ⟨by have := h1.1; omega,fun f hf => ?_⟩;have h2 := (h1.2.2.2 f hf);unfold flFew at h2
 omega
theorem FewS.sn {s : ScS} (h : FewS s) : ∀ m ∈ s.enums,m.name.size ≤ 20000 ∧ ∀ f ∈ m.values,f.name.size ≤ 20000 := fun m hm => by
 have h1 := h.eachE m hm;refine ⟨by have := h1.1; omega,fun f hf => ?_⟩;have h2 := (h1.2.2 f hf);unfold nmFew at h2
 omega
structure MayS (s : ScS) : Prop where
 may : MayL s
 name : s.name.size ≤ 20000
 sm : ∀ m ∈ s.msgs,m.name.size ≤ 20000 ∧ ∀ f ∈ m.fields,f.name.size ≤ 20000
 sn : ∀ m ∈ s.enums,m.name.size ≤ 20000 ∧ ∀ f ∈ m.values,f.name.size ≤ 20000
 st : ∀ m ∈ s.methods,m.name.size ≤ 20000
theorem FewS.mayS {s : ScS} (h : FewS s) : MayS s := ⟨h.few.may,Nat.le_trans h.name (by decide),h.sm,h.sn,fun m hm => Nat.le_trans (h.eachT m hm).1 (by decide)⟩
theorem rcheck_may {w : World} {v : Value} {s : ScS} (hr : ScIn w v s) (hfs : MayS s) :
  Calls Try.prog 16 #[v] w fun e w' => e = .returned (.int .i64 (checkA s)) ∧ Below w.heap.size w w' := by
 obtain ⟨vm0,ve0,vt0,rfl,hm,he,ht⟩ := hr;obtain ⟨am,cm,rfl,qm1,qm2⟩ := hm.form2;obtain ⟨ae,ce,rfl,qe1,qe2⟩ := he.form2;obtain ⟨at',ct,rfl,qt1,qt2⟩ := ht.form2
 have hTl : (mtRows s.methods).length = s.methods.length := by simp [mtRows]
 rw [hTl] at ht qt1 ⊢;obtain ⟨M,hM⟩ : ∃ N,s.msgs.length = N := ⟨_,rfl⟩;obtain ⟨E,hE⟩ : ∃ N,s.enums.length = N := ⟨_,rfl⟩;obtain ⟨T,hT⟩ : ∃ N,s.methods.length = N := ⟨_,rfl⟩;obtain ⟨nm,hnm⟩ : ∃ N,s.name = N := ⟨_,rfl⟩;rw [hM] at hm qm1 ⊢;rw [hE] at he qe1 ⊢;rw [hT] at ht qt1 ⊢;rw [hnm];have HM : Hid (MsIn w (.slice am M cm) s.msgs) := hm;have HE : Hid (EnIn w (.slice ae E ce) s.enums) := he;have HTR : Hid (RowG w (.slice at' T ct) 3 (mtRows s.methods)) := ht;have HLM : Hid (s.msgs.length = M) := hM;have HLE : Hid (s.enums.length = E) := hE;have HLT : Hid (s.methods.length = T) := hT;have HNM : Hid (s.name = nm) := hnm;have HF : Hid (MayS s) := hfs
 have hM14 : M ≤ 30000 := by have := hfs.may.msgs; omega
 have hE10 : E ≤ 30000 := by have := hfs.may.enums; omega
 have hT10 : T ≤ 30000 := by have := hfs.may.meths; omega
 have hns : nm.size ≤ 20000 := by have := hfs.name; rw [hnm] at this; omega
 clear hm he ht hM hE hT hnm hfs hTl;obtain ⟨A,hA⟩ : ∃ A,checkA s = A := ⟨_,rfl⟩;rw [hA];have HA : Hid (A = checkA s) := hA.symm;clear hA;have hba : Below w.heap.size w (w.alloc (.cells #[.string nm,.slice am M cm,.slice ae E ce,.slice at' T ct] 26)) := (Below.refl _ _).alloc (Nat.le_refl _) _;have BX0 := Blk.new w #[.string nm,.slice am M cm,.slice ae E ce,.slice at' T ct] 26
 go_enter Try.func16,Try.ntmps16
 go_wp2_with fail;refine (rfname_any nm _ hns).mono ?_;rintro e w1 ⟨rfl,hb1⟩;have hbw1 : Below w.heap.size w w1 := hba.trans (hb1.mono hba.size);have BX1 := BX0.below hb1;clear hb1 hba BX0
 cases hn : nameB nm with
 | false =>
  have HA2 : Hid (A = 6) := by show _ = _; rw [HA.out]; unfold checkA wholeA; rw [HNM.out,if_pos hn]; rfl
  clear HA hn;go_wp2_with fail;go_ret;exact ⟨ret_e HA2.out.symm,hbw1⟩
 | true =>
  have c0 : w1.cell? ⟨w.heap.size,0,none⟩ = some (.string nm) := BX1.cell 0;have c1 : w1.cell? ⟨w.heap.size,1,none⟩ = some (.slice am M cm) := BX1.cell 1;have c2 : w1.cell? ⟨w.heap.size,2,none⟩ = some (.slice ae E ce) := BX1.cell 2;have c3 : w1.cell? ⟨w.heap.size,3,none⟩ = some (.slice at' T ct) := BX1.cell 3
  by_cases hM0 : M = 0
  ·have HA2 : Hid (A = 12) := by show _ = _; rw [HA.out]; unfold checkA wholeA; rw [HNM.out,if_neg (by rw [hn]; decide),if_pos (by rw [HLM.out]; exact hM0)]; rfl
   clear HA hn;subst hM0;go_wp2_with fail;go_ret;exact ⟨ret_e HA2.out.symm,hbw1⟩
  by_cases hbig : 10 < M
  ·have HA2 : Hid (A = 4) := by show _ = _; rw [HA.out]; unfold checkA wholeA; rw [HNM.out,if_neg (by rw [hn]; decide),if_neg (by rw [HLM.out]; exact hM0),if_pos (by unfold bigS; rw [HLM.out,decide_eq_true (.inl hbig)])]; rfl
   clear HA hn;go_wp2_with fail;go_ret;exact ⟨ret_e HA2.out.symm,hbw1⟩
  by_cases hbig2 : 6 < E
  ·have HA2 : Hid (A = 4) := by show _ = _; rw [HA.out]; unfold checkA wholeA; rw [HNM.out,if_neg (by rw [hn]; decide),if_neg (by rw [HLM.out]; exact hM0),if_pos (by unfold bigS; rw [HLE.out,decide_eq_true (.inr (.inl hbig2))])]; rfl
   clear HA hn;go_wp2_with fail;go_ret;exact ⟨ret_e HA2.out.symm,hbw1⟩
  by_cases hbig3 : 6 < T
  ·have HA2 : Hid (A = 4) := by show _ = _; rw [HA.out]; unfold checkA wholeA; rw [HNM.out,if_neg (by rw [hn]; decide),if_neg (by rw [HLM.out]; exact hM0),if_pos (by unfold bigS; rw [HLT.out,decide_eq_true (.inr (.inr hbig3))])]; rfl
   clear HA hn;go_wp2_with fail;go_ret;exact ⟨ret_e HA2.out.symm,hbw1⟩
  obtain ⟨X,hX⟩ : ∃ X,partsA s = X := ⟨_,rfl⟩
  have HA2 : Hid (A = orE X (chkTs s.mn ((s.methods.take 0).map MtS.name) (s.methods.drop 0))) := by
   show _ = _
   rw [HA.out]; unfold checkA wholeA;rw [HNM.out,if_neg (by rw [hn]; decide),if_neg (by rw [HLM.out]; exact hM0),if_neg (by unfold bigS; rw [HLM.out,HLE.out,HLT.out,decide_eq_false (by omega)]; decide),orE_zero,hX]
   rfl
  have HP : Hid (∀ W,Below w.heap.size w W → Calls Try.prog 29 #[.agg #[.string nm,.slice am M cm,.slice ae E ce,.slice at' T ct]] W fun e W' => e = .returned (.int .i64 X) ∧ Below W.heap.size W W') := fun W hW => by
   rw [← hX];exact rparts_any (HM.out.below hW) (HE.out.below hW) HLM.out HLE.out hM14 hE10 HF.out.may.flds HF.out.may.vals HF.out.sm HF.out.sn
  clear HA hX hn;go_wp2_with fail;clear c0 c1 c2 c3;refine (HP.out w1 hbw1).mono ?_;rintro e w2 ⟨rfl,hb2⟩;have hbw2 : Below w.heap.size w w2 := hbw1.trans (hb2.mono hbw1.size);have BX2 := BX1.below hb2;clear hb2 hbw1 BX1 HP
  by_cases hX0 : X = 0
  case neg =>
   have HA3 : Hid (A = X) := by show _ = _; rw [HA2.out,orE_ne hX0]
   have hq : (X == 0) = false := by rw [beq_eq_false_iff_ne]; exact hX0
   clear HA2 hX0;go_wp2_with fail;go_ret;exact ⟨ret_e HA3.out.symm,hbw2⟩
  subst hX0
  have HA3 : Hid (A = chkTs s.mn ((s.methods.take 0).map MtS.name) (s.methods.drop 0)) := by show _ = _; rw [HA2.out,orE_zero]
  have HS0 : Hid (Seen w2 w.heap.size (.slice none 0 0) ((s.methods.take 0).map MtS.name)) := Seen.nil _ _;clear HA2;go_wp2_with fail
  go_loopw [4,5] (fun nv iv wr => ∃ (k : Nat) (sa : Option Addr) (sc : Nat),nv = .slice sa k sc ∧ iv = .int .i64 (k : Int) ∧ k ≤ T ∧ Hid (A = chkTs s.mn ((s.methods.take k).map MtS.name) (s.methods.drop k)) ∧ Hid (Seen wr w.heap.size (.slice sa k sc) ((s.methods.take k).map MtS.name)) ∧ Below w.heap.size w wr ∧ Blk wr w.heap.size #[.string nm,.slice am M cm,.slice ae E ce,.slice at' T ct] 26) (fun _ iv _ => T - (intOf iv).toNat)
  case atStart => exact ⟨0,none,0,rfl,rfl,by omega,HA3,HS0,hbw2,BX2⟩
  case round =>
   clear HA3 HS0 hbw2 BX2;obtain ⟨k,sa,sc,rfl,rfl,hk,HAk,HSE,hbel,BX⟩ := hrel;have x3 : wr.cell? ⟨w.heap.size,3,none⟩ = some (.slice at' T ct) := BX.cell 3
   by_cases hlt : k < T
   ·obtain ⟨m,hm⟩ : ∃ x,s.methods[k]? = some x := ⟨_,List.getElem?_eq_getElem (by rw [HLT.out]; exact hlt)⟩;have hsz := HF.out.st m (List.mem_of_getElem? hm);obtain ⟨m0,m1,m2⟩ := m;simp only at hsz
    have hfr : (mtRows s.methods)[k]? = some [.string m0,.string m1,.string m2] := by simp [mtRows,MtS.cells,hm]
    obtain ⟨g,off,rfl,hcs⟩ := HTR.out.get hfr;have C0 := hcs 0 _ rfl;have C1 := hcs 1 _ rfl;have C2 := hcs 2 _ rfl;simp only [Nat.add_zero] at C0 C1 C2
    have HTK : Hid ((s.methods.take (k + 1)).map MtS.name = (s.methods.take k).map MtS.name ++ [m0]) := by show _ = _; rw [List.take_add_one,hm]; simp
    obtain ⟨al,hal⟩ : ∃ al,(s.methods.take k).map MtS.name = al := ⟨_,rfl⟩;rw [hal] at HAk HSE HTK
    have HAL : Hid (al.length = k) := by show _ = _; rw [← hal,List.length_map,List.length_take,HLT.out]; omega
    have HA2 : Hid (A = if freshB m0 al = false then 6 else if (memB m1 s.mn && memB m2 s.mn) = false then 8 else chkTs s.mn (al ++ [m0]) (s.methods.drop (k + 1))) := by
     show _ = _
     rw [HAk.out,drop_at hm]; rfl
    have p0 : wr.cell? ⟨g,off + k * 3,none⟩ = some (.string m0) := (hbel.cell (World.block_lt_of_cell? _ _ C0)).trans C0;have p1 : wr.cell? ⟨g,off + k * 3 + 1,none⟩ = some (.string m1) := (hbel.cell (World.block_lt_of_cell? _ _ C1)).trans C1;have p2 : wr.cell? ⟨g,off + k * 3 + 2,none⟩ = some (.string m2) := (hbel.cell (World.block_lt_of_cell? _ _ C2)).trans C2;have ha : Below wr.heap.size wr (wr.alloc (.cells #[.string m0,.string m1,.string m2] 47)) := (Below.refl _ _).alloc (Nat.le_refl _) _;have BV := Blk.new wr #[.string m0,.string m1,.string m2] 47;clear C0 C1 C2 hcs hfr hm hal HAk;go_wp2_with fail;clear x3 p0 p1 p2;refine (rfresh_any m0 (by omega) (HSE.out.below ha).row).mono ?_;rintro e w1 ⟨rfl,hb1⟩;have hbw1 : Below w.heap.size w w1 := (hbel.trans (ha.mono hbel.size)).trans (hb1.mono (hbel.trans (ha.mono hbel.size)).size);have HS1 : Hid (Seen w1 w.heap.size (.slice sa k sc) al) := (HSE.out.below ha).below hb1;have BX1 := (BX.below ha).below hb1;have BV1 := BV.below hb1;clear BV ha hb1 HSE
    cases hfr : freshB m0 al with
    | false =>
     have HA4 : Hid (A = 6) := by show _ = _; rw [HA2.out,if_pos hfr]
     clear HA2;go_wp2_with fail;go_ret;exact ⟨ret_e HA4.out.symm,hbw1⟩
    | true =>
     have HA4 : Hid (A = if (memB m1 s.mn && memB m2 s.mn) = false then 8 else chkTs s.mn (al ++ [m0]) (s.methods.drop (k + 1))) := by show _ = _; rw [HA2.out,if_neg (by rw [hfr]; decide)]
     clear HA2 hfr;obtain ⟨bv,hbv⟩ : ∃ n,wr.heap.size = n := ⟨_,rfl⟩;rw [hbv] at BV1 ⊢;clear hbv hbel BX;have v0 : w1.cell? ⟨bv,0,none⟩ = some (.string m0) := BV1.cell 0
     go_wp2_with (first
      | (at_builtin; refine wpList_seen (al := al) (x := m0) rfl _ _ rfl rfl rfl HS1.out ?c1 ?c2 ?_)
      | fail)
     case c1 => exact hbw1.size
     case c2 => rw [HAL.out]; omega
     intro v' w2 hS2 hK2 hB2;obtain ⟨ta,tc,rfl⟩ := hS2.form
     have hl2 : (al ++ [m0]).length = k + 1 := by rw [List.length_append,HAL.out]; rfl
     rw [hl2] at hS2 ⊢;have HS2 : Hid (Seen w2 w.heap.size (.slice ta (k + 1) tc) (al ++ [m0])) := hS2;have HAL2 : Hid ((al ++ [m0]).length = k + 1) := hl2;have hb2 : Below w.heap.size w w2 := hbw1.trans hB2;have BX2 := BX1.kp hK2 (fun e => absurd (own_type HS1.out e BX1) (by decide));have BV2 := BV1.kp hK2 (fun e => absurd (own_type HS1.out e BV1) (by decide));clear v0 hS2 hl2 hK2 hB2 BX1 BV1 HS1 hbw1 HAL;have b0 : (w2).cell? ⟨w.heap.size,0,none⟩ = some (.string nm) := BX2.cell 0;have b1 : (w2).cell? ⟨w.heap.size,1,none⟩ = some (.slice am M cm) := BX2.cell 1;have b2 : (w2).cell? ⟨w.heap.size,2,none⟩ = some (.slice ae E ce) := BX2.cell 2;have b3 : (w2).cell? ⟨w.heap.size,3,none⟩ = some (.slice (some ⟨g,off,none⟩) T ct) := BX2.cell 3;have b4 : (w2).cell? ⟨bv,1,none⟩ = some (.string m1) := BV2.cell 1;go_wp2_with fail;refine (r7message_any (HM.out.below hb2)).mono ?_;rintro e wv ⟨vf,vr,rfl,h1,h2,hb⟩;rw [find_mn];obtain ⟨ya,yc,rfl,_,_⟩ := h1.form2;obtain ⟨yd,ye,rfl,_,_⟩ := h2.form2;generalize ((s.msgs.find? fun x => decide (x.name = m1)).getD zeroM).name = yn at *;generalize (flRows ((s.msgs.find? fun x => decide (x.name = m1)).getD zeroM).fields).length = yF at *;generalize (inRows ((s.msgs.find? fun x => decide (x.name = m1)).getD zeroM).reserved).length = yR at *;have ha : Below wv.heap.size wv (wv.alloc (.cells #[.string yn,.slice ya yF yc,.slice yd yR ye] 40)) := (Below.refl _ _).alloc (Nat.le_refl _) _;have hbwv : Below w.heap.size w (wv.alloc (.cells #[.string yn,.slice ya yF yc,.slice yd yR ye] 40)) := (hb2.trans (hb.mono hb2.size)).trans (ha.mono (hb2.trans (hb.mono hb2.size)).size);have BXwv := (BX2.below hb).below ha;have BVwv := (BV2.below hb).below ha;have HSwv : Hid (Seen (wv.alloc (.cells #[.string yn,.slice ya yF yc,.slice yd yR ye] 40)) w.heap.size (.slice ta (k + 1) tc) (al ++ [m0])) := Seen.below (Seen.below HS2.out hb) ha;obtain ⟨yB,hyB⟩ : ∃ B,memB m1 (s.msgs.map MsS.name) = B := ⟨_,rfl⟩;rw [hyB];have HyB : Hid (memB m1 s.mn = yB) := hyB;clear b0 b1 b2 b3 b4 h1 h2 hb hb2 BX2 BV2 ha hyB;have b0 : (wv.alloc (.cells #[.string yn,.slice ya yF yc,.slice yd yR ye] 40)).cell? ⟨w.heap.size,0,none⟩ = some (.string nm) := BXwv.cell 0;have b1 : (wv.alloc (.cells #[.string yn,.slice ya yF yc,.slice yd yR ye] 40)).cell? ⟨w.heap.size,1,none⟩ = some (.slice am M cm) := BXwv.cell 1;have b2 : (wv.alloc (.cells #[.string yn,.slice ya yF yc,.slice yd yR ye] 40)).cell? ⟨w.heap.size,2,none⟩ = some (.slice ae E ce) := BXwv.cell 2;have b3 : (wv.alloc (.cells #[.string yn,.slice ya yF yc,.slice yd yR ye] 40)).cell? ⟨w.heap.size,3,none⟩ = some (.slice (some ⟨g,off,none⟩) T ct) := BXwv.cell 3;have b4 : (wv.alloc (.cells #[.string yn,.slice ya yF yc,.slice yd yR ye] 40)).cell? ⟨bv,2,none⟩ = some (.string m2) := BVwv.cell 2;go_wp2_with fail;refine (r7message_any (HM.out.below hbwv)).mono ?_;rintro e wx ⟨vf,vr,rfl,h1,h2,hb⟩;rw [find_mn];obtain ⟨za,zc,rfl,_,_⟩ := h1.form2;obtain ⟨zd,ze,rfl,_,_⟩ := h2.form2;generalize ((s.msgs.find? fun x => decide (x.name = m2)).getD zeroM).name = zn at *;generalize (flRows ((s.msgs.find? fun x => decide (x.name = m2)).getD zeroM).fields).length = zF at *;generalize (inRows ((s.msgs.find? fun x => decide (x.name = m2)).getD zeroM).reserved).length = zR at *;have ha : Below wx.heap.size wx (wx.alloc (.cells #[.string zn,.slice za zF zc,.slice zd zR ze] 40)) := (Below.refl _ _).alloc (Nat.le_refl _) _;have hbwx : Below w.heap.size w (wx.alloc (.cells #[.string zn,.slice za zF zc,.slice zd zR ze] 40)) := (hbwv.trans (hb.mono hbwv.size)).trans (ha.mono (hbwv.trans (hb.mono hbwv.size)).size);have BXwx := (BXwv.below hb).below ha;have BVwx := (BVwv.below hb).below ha;have HSwx : Hid (Seen (wx.alloc (.cells #[.string zn,.slice za zF zc,.slice zd zR ze] 40)) w.heap.size (.slice ta (k + 1) tc) (al ++ [m0])) := Seen.below (Seen.below HSwv.out hb) ha;obtain ⟨zB,hzB⟩ : ∃ B,memB m2 (s.msgs.map MsS.name) = B := ⟨_,rfl⟩;rw [hzB];have HzB : Hid (memB m2 s.mn = zB) := hzB;clear b0 b1 b2 b3 b4 h1 h2 hb hbwv BXwv BVwv ha hzB
     cases yB with
     | false =>
      have HA5 : Hid (A = 8) := by show _ = _; rw [HA4.out,if_pos (by rw [HyB.out]; rfl)]
      clear HA4;go_wp2_with fail;go_ret;exact ⟨ret_e HA5.out.symm,hbwx⟩
     | true =>
      cases zB with
      | false =>
       have HA5 : Hid (A = 8) := by show _ = _; rw [HA4.out,if_pos (by rw [HyB.out,HzB.out]; rfl)]
       clear HA4;go_wp2_with fail;go_ret;exact ⟨ret_e HA5.out.symm,hbwx⟩
      | true =>
       have HA5 : Hid (A = chkTs s.mn ((s.methods.take (k + 1)).map MtS.name) (s.methods.drop (k + 1))) := by show _ = _; rw [HA4.out,if_neg (by rw [HyB.out,HzB.out]; decide),HTK.out]
       have HS4 : Hid (Seen (wx.alloc (.cells #[.string zn,.slice za zF zc,.slice zd zR ze] 40)) w.heap.size (.slice ta (k + 1) tc) ((s.methods.take (k + 1)).map MtS.name)) := by show Seen _ _ _ _; rw [HTK.out]; exact HSwx.out
       clear HA4;go_wp2_with fail
       go_roundw
       case rel => exact ⟨k + 1,ta,tc,rfl,by go_num,by omega,HA5,HS4,hbwx,BXwx⟩
       case measure => simp [intOf]; omega
   ·have HA3 : Hid (A = 0) := by show _ = _; rw [HAk.out,drop_end (by rw [HLT.out]; omega)]; rfl
    clear HAk;go_wp2_with fail;go_ret;exact ⟨ret_e HA3.out.symm,hbel⟩
theorem rcheck_any {w : World} {v : Value} {s : ScS} (hr : ScIn w v s) (hfs : FewS s) :
  Calls Try.prog 16 #[v] w fun e w' => e = .returned (.int .i64 (checkA s)) ∧ Below w.heap.size w w' := rcheck_may hr hfs.mayS
end
section
open Go.ChangeShapes Go.WideShapes Go.ChangeAt Go.RowKit
def placeI (v n : Int) : Int := if v.tmod n < 0 then v.tmod n + n else v.tmod n
theorem placeI_in (v n : Int) (hn : 1 ≤ n) : 0 ≤ placeI v n ∧ placeI v n < n := by
 have t1 := Int.tmod_lt_of_pos v (b := n) (by omega);have t2 := Int.lt_tmod_of_pos v (b := n) (by omega);unfold placeI; split <;> omega
theorem place_is (v n : Int) (hv1 : -9223372036854775808 ≤ v) (hv2 : v ≤ 9223372036854775807) (hn1 : 1 ≤ n) (hn2 : n ≤ 4611686018427387904) (w : World) :
  Calls Try.prog 17 #[.int .i64 v,.int .i64 n] w fun e w' => e = .returned (.int .i64 (placeI v n)) ∧ w' = w := by
 have t1 := Int.tmod_lt_of_pos v (b := n) (by omega);have t2 := Int.lt_tmod_of_pos v (b := n) (by omega)
 have hz : (n == 0) = false := by rw [beq_eq_false_iff_ne]; omega
 by_cases h : v.tmod n < 0
 ·have HP : Hid (v.tmod n + n = placeI v n) := by show _ = _; unfold placeI; rw [if_pos h]
  go_enter Try.func17,Try.ntmps17
  go_wp2_with fail;go_ret;exact ⟨by rw [← HP.out]; rfl,rfl⟩
 ·have HP : Hid (v.tmod n = placeI v n) := by show _ = _; unfold placeI; rw [if_neg h]
  go_enter Try.func17,Try.ntmps17
  go_wp2_with fail;go_ret;exact ⟨by rw [← HP.out]; rfl,rfl⟩
end
end Go.Proofs.Ytdkolhfpfimeoaa
