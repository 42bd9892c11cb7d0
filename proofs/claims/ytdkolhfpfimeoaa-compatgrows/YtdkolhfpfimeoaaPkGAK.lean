/- Part 11 of what the proof stands on. -/
import Derived.Test.YtdkolhfpfimeoaaPkGAJ
namespace Go.Proofs.Ytdkolhfpfimeoaa
set_option maxHeartbeats 8000000
set_option linter.unusedVariables false
set_option linter.unusedSimpArgs false
set_option maxRecDepth 20000
open Go.ChangeShapes Go.WideShapes Go.ChangeAt Go.RowKit Go.Maps
def tupA : Value → Value
 | .tuple a => a.getD 0 undef
 | _ => undef
def tupB : Value → Value
 | .tuple a => a.getD 1 undef
 | _ => undef
theorem RowG.take {w : World} {a : Option Addr} {N c size k : Nat} {rs : List (List Value)} (h : RowG w (.slice a N c) size rs) (hN : rs.length = N) (hk : k ≤ N) : RowG w (.slice a k c) size (rs.take k) := by
 obtain ⟨a',cap,h1,h2,h3,h4,h5⟩ := h;simp only [Value.slice.injEq] at h1;obtain ⟨rfl,h1,rfl⟩ := h1
 have hl : (rs.take k).length = k := by rw [List.length_take]; omega
 refine ⟨a,c,by rw [hl],by rw [hl]; omega,h3,h4,fun hne => ?_⟩;obtain ⟨g,off,h6,h7⟩ := h5 (fun e => hne (by rw [e]; simp));refine ⟨g,off,h6,fun i x u j hi hj => h7 i x u j ?_ hj⟩
 have hik : i < k := by have := (List.getElem?_eq_some_iff.1 hi).1; omega
 rw [List.getElem?_take_of_lt hik] at hi;exact hi
theorem tagR_low {n : Int} (h : n < 1) : tagR n = false := by unfold tagR; rw [decide_eq_false (by omega)]
theorem tagR_high {n : Int} (h : 500 < n) : tagR n = false := by unfold tagR; rw [decide_eq_false (by omega)]
theorem tagR_in {n : Int} (h : ¬ n < 1) (h2 : ¬ 500 < n) : tagR n = true := by unfold tagR; rw [decide_eq_true (by omega)]
theorem find_tag (fs : List FlS) (t : Int) : (fs.find? fun m => decide (m.tag = t)).isSome = memI t (fs.map FlS.tag) := by
 rw [Bool.eq_iff_iff,List.find?_isSome]
 simp [memI]
theorem rmsg_any {w : World} {snm mnm : ByteArray} {am ae at' : Option Addr} {M cm E ce T ct : Nat} {ms : List MsS} {es : List EnS} {vf vr : Value} {fs : List FlS} {ns : List Int} (hm : MsIn w (.slice am M cm) ms) (he : EnIn w (.slice ae E ce) es)
  (hf : RowG w vf 5 (flRows fs)) (hr : RowG w vr 1 (inRows ns)) (hl1 : fs.length ≤ 30000) (hl2 : ns.length ≤ 30000) (hw : ∀ f ∈ fs,f.name.size ≤ 20000) :
  Calls Try.prog 48 #[.agg #[.string snm,.slice am M cm,.slice ae E ce,.slice at' T ct],.agg #[.string mnm,vf,vr]] w fun e w' => e = .returned (.int .i64 (chkMb (ms.map MsS.name) (es.map EnS.name) ⟨mnm,fs,ns⟩)) ∧ Below w.heap.size w w' := by
 obtain ⟨fa,fc,rfl,q1,q2⟩ := hf.form2;obtain ⟨ra,rc,rfl,q3,q4⟩ := hr.form2
 have e1 : (flRows fs).length = fs.length := by simp [flRows]
 have e2 : (inRows ns).length = ns.length := by simp [inRows]
 rw [e1] at hf q1 ⊢;rw [e2] at hr q3 ⊢;obtain ⟨nF,hnF⟩ : ∃ x,fs.length = x := ⟨_,rfl⟩;obtain ⟨nR,hnR⟩ : ∃ x,ns.length = x := ⟨_,rfl⟩;rw [hnF] at hf q1 hl1 ⊢;rw [hnR] at hr q3 hl2 ⊢;have HNF : Hid (fs.length = nF) := hnF;have HNR : Hid (ns.length = nR) := hnR;have HF : Hid (RowG w (.slice fa nF fc) 5 (flRows fs)) := hf;have HR : Hid (RowG w (.slice ra nR rc) 1 (inRows ns)) := hr;have HM : Hid (MsIn w (.slice am M cm) ms) := hm;have HE : Hid (EnIn w (.slice ae E ce) es) := he;have HW : Hid (∀ f ∈ fs,f.name.size ≤ 20000) := hw;clear hf hr hm he hw hnF hnR e1 e2;obtain ⟨A,hA⟩ : ∃ A,chkMb (ms.map MsS.name) (es.map EnS.name) ⟨mnm,fs,ns⟩ = A := ⟨_,rfl⟩;rw [hA];have HA : Hid (A = chkMb (ms.map MsS.name) (es.map EnS.name) ⟨mnm,fs,ns⟩) := hA.symm;clear hA;have hba : Below w.heap.size w ((w.alloc (.cells #[.string snm,.slice am M cm,.slice ae E ce,.slice at' T ct] 26)).alloc (.cells #[.string mnm,.slice fa nF fc,.slice ra nR rc] 40)) := ((Below.refl _ _).alloc (Nat.le_refl _) _).alloc (by simp) _;have BS0 : Blk ((w.alloc (.cells #[.string snm,.slice am M cm,.slice ae E ce,.slice at' T ct] 26)).alloc (.cells #[.string mnm,.slice fa nF fc,.slice ra nR rc] 40)) w.heap.size #[.string snm,.slice am M cm,.slice ae E ce,.slice at' T ct] 26 := (Blk.new w _ _).below ((Below.refl _ _).alloc (Nat.le_refl _) _)
 have BM0 : Blk ((w.alloc (.cells #[.string snm,.slice am M cm,.slice ae E ce,.slice at' T ct] 26)).alloc (.cells #[.string mnm,.slice fa nF fc,.slice ra nR rc] 40)) (w.heap.size + 1) #[.string mnm,.slice fa nF fc,.slice ra nR rc] 40 := by
  have := Blk.new (w.alloc (.cells #[.string snm,.slice am M cm,.slice ae E ce,.slice at' T ct] 26)) #[.string mnm,.slice fa nF fc,.slice ra nR rc] 40
  rwa [show (w.alloc (.cells #[.string snm,.slice am M cm,.slice ae E ce,.slice at' T ct] 26)).heap.size = w.heap.size + 1 by simp] at this
 by_cases hb1 : 16 < nF
 ·have HA2 : Hid (A = 4) := by show _ = _; rw [HA.out]; unfold chkMb; rw [if_pos (by unfold bigM; simp only; rw [HNF.out,decide_eq_true (.inl hb1)])]
  go_enter Try.func48,Try.ntmps48
  go_wp2_with fail;go_ret;exact ⟨ret_e HA2.out.symm,hba⟩
 by_cases hb2 : 32 < nR
 ·have HA2 : Hid (A = 4) := by show _ = _; rw [HA.out]; unfold chkMb; rw [if_pos (by unfold bigM; simp only; rw [HNR.out,decide_eq_true (.inr hb2)])]
  go_enter Try.func48,Try.ntmps48
  go_wp2_with fail;go_ret;exact ⟨ret_e HA2.out.symm,hba⟩
 have HA1 : Hid (A = orE (chkRes (ns.take 0) (ns.drop 0)) (chkFs (ms.map MsS.name) (es.map EnS.name) [] ns fs)) := by
  show _ = _
  rw [HA.out]; unfold chkMb;rw [if_neg (by unfold bigM; simp only; rw [HNR.out,HNF.out,decide_eq_false (by omega)]; decide)]
  rfl
 clear HA
 go_enter Try.func48,Try.ntmps48
 go_wp2_with fail;generalize (w.alloc (.cells #[.string snm,.slice am M cm,.slice ae E ce,.slice at' T ct] 26)).alloc (.cells #[.string mnm,.slice fa nF fc,.slice ra nR rc] 40) = wb at *;obtain ⟨bm,hbm⟩ : ∃ n,w.heap.size + 1 = n := ⟨_,rfl⟩;rw [hbm] at BM0 ⊢;clear hbm
 go_loopw [5] (fun iv wr => ∃ k : Nat,iv = .int .i64 (k : Int) ∧ k ≤ nR ∧ Hid (A = orE (chkRes (ns.take k) (ns.drop k)) (chkFs (ms.map MsS.name) (es.map EnS.name) [] ns fs)) ∧ Below w.heap.size w wr ∧ Blk wr w.heap.size #[.string snm,.slice am M cm,.slice ae E ce,.slice at' T ct] 26 ∧ Blk wr bm #[.string mnm,.slice fa nF fc,.slice ra nR rc] 40) (fun iv _ => nR - (intOf iv).toNat)
 case atStart => exact ⟨0,rfl,by omega,HA1,hba,BS0,BM0⟩
 case round =>
  clear HA1 hba BS0 BM0;obtain ⟨k,rfl,hk,HAk,hbel,BS,BM⟩ := hrel;have x1 : wr.cell? ⟨bm,2,none⟩ = some (.slice ra nR rc) := BM.cell 2
  by_cases hlt : k < nR
  ·obtain ⟨n,hn⟩ : ∃ n,ns[k]? = some n := ⟨_,List.getElem?_eq_getElem (by rw [HNR.out]; exact hlt)⟩
   have hrr : (inRows ns)[k]? = some [.int .i64 n] := by simp [inRows,hn]
   obtain ⟨g,off,rfl,c1⟩ := (HR.out.below hbel).get hrr
   have HA2 : Hid (A = orE (if tagB n (ns.take k) = true then chkRes (ns.take (k + 1)) (ns.drop (k + 1)) else 7) (chkFs (ms.map MsS.name) (es.map EnS.name) [] ns fs)) := by
    show _ = _
    rw [HAk.out,drop_at hn,List.take_add_one,hn]; rfl
   have p0 : wr.cell? ⟨g,off + k,none⟩ = some (.int .i64 n) := by have := c1 0 _ rfl; simpa using this
   have HS : Hid (∀ W,Below wr.heap.size wr W → Calls Try.prog 40 #[.agg #[.string ⟨#[]⟩,.slice none 0 0,.slice (some ⟨g,off,none⟩) k rc],.int .i64 n] W fun e W' => e = .returned (.bool (memI n (ns.take k))) ∧ Below wr.heap.size wr W') := fun W hW => by
    have hrk := RowG.take (k := k) ((HR.out.below hbel).below hW) (by simp [inRows,HNR.out]) (by omega);rw [show (inRows ns).take k = inRows (ns.take k) by simp [inRows,List.map_take]] at hrk;refine (rreserved_any n hrk).mono ?_;rintro e W' ⟨rfl,hb⟩;exact ⟨rfl,hW.trans (hb.mono hW.size)⟩
   clear c1 hrr hn HAk;go_wp2_with fail
   by_cases hlo : n < 1
   ·have HA3 : Hid (A = 7) := by show _ = _; rw [HA2.out,if_neg (by unfold tagB; rw [tagR_low hlo]; simp)]; rfl
    clear HA2;have kk0 := kept_cell x1;have kk1 := kept_cell p0
    haveI := nonempty_qb (Below.refl wr.heap.size wr)
    refine wp_region_qb (Below.refl wr.heap.size wr) (by kernel_rfl) (by kernel_rfl) ?_
    repeat (go_big_quiet_step (first | (go_at_call 40; exact qb_call HS.out)))
    refine wpQuiet_nil ?_;rintro we ⟨⟨_,hW⟩,rfl⟩;clear kk0 kk1;have hbn : Below w.heap.size w we := hbel.trans (hW.mono hbel.size);have hbs := BS.below hW;have hbm := BM.below hW;clear x1 p0 HS hW hbel BS BM;go_wp2_with fail;go_ret;exact ⟨ret_e HA3.out.symm,hbn⟩
   by_cases hhi : 500 < n
   ·have HA3 : Hid (A = 7) := by show _ = _; rw [HA2.out,if_neg (by unfold tagB; rw [tagR_high hhi]; simp)]; rfl
    clear HA2;have kk0 := kept_cell x1;have kk1 := kept_cell p0
    haveI := nonempty_qb (Below.refl wr.heap.size wr)
    refine wp_region_qb (Below.refl wr.heap.size wr) (by kernel_rfl) (by kernel_rfl) ?_
    repeat (go_big_quiet_step (first | (go_at_call 40; exact qb_call HS.out)))
    refine wpQuiet_nil ?_;rintro we ⟨⟨_,hW⟩,rfl⟩;clear kk0 kk1;have hbn : Below w.heap.size w we := hbel.trans (hW.mono hbel.size);have hbs := BS.below hW;have hbm := BM.below hW;clear x1 p0 HS hW hbel BS BM;go_wp2_with fail;go_ret;exact ⟨ret_e HA3.out.symm,hbn⟩
   obtain ⟨R,hR⟩ : ∃ R,memI n (ns.take k) = R := ⟨_,rfl⟩;rw [hR] at HS;have HRR : Hid (memI n (ns.take k) = R) := hR;clear hR
   cases R with
   | true =>
     have HA3 : Hid (A = 7) := by show _ = _; rw [HA2.out,if_neg (by unfold tagB; rw [HRR.out]; simp)]; rfl
     clear HA2;have kk0 := kept_cell x1;have kk1 := kept_cell p0
     haveI := nonempty_qb (Below.refl wr.heap.size wr)
     refine wp_region_qb (Below.refl wr.heap.size wr) (by kernel_rfl) (by kernel_rfl) ?_
     repeat (go_big_quiet_step (first | (go_at_call 40; exact qb_call HS.out)))
     refine wpQuiet_nil ?_;rintro we ⟨⟨_,hW⟩,rfl⟩;clear kk0 kk1;have hbn : Below w.heap.size w we := hbel.trans (hW.mono hbel.size);have hbs := BS.below hW;have hbm := BM.below hW;clear x1 p0 HS hW hbel BS BM;go_wp2_with fail;go_ret;exact ⟨ret_e HA3.out.symm,hbn⟩
   | false =>
     have HA4 : Hid (A = orE (chkRes (ns.take (k + 1)) (ns.drop (k + 1))) (chkFs (ms.map MsS.name) (es.map EnS.name) [] ns fs)) := by show _ = _; rw [HA2.out,if_pos (by unfold tagB; rw [HRR.out,tagR_in hlo hhi]; rfl)]
     clear HA2;have kk0 := kept_cell x1;have kk1 := kept_cell p0
     haveI := nonempty_qb (Below.refl wr.heap.size wr)
     refine wp_region_qb (Below.refl wr.heap.size wr) (by kernel_rfl) (by kernel_rfl) ?_
     repeat (go_big_quiet_step (first | (go_at_call 40; exact qb_call HS.out)))
     refine wpQuiet_nil ?_;rintro we ⟨⟨_,hW⟩,rfl⟩;clear kk0 kk1;have hbn : Below w.heap.size w we := hbel.trans (hW.mono hbel.size);have hbs := BS.below hW;have hbm := BM.below hW;clear x1 p0 HS hW hbel BS BM;go_wp2_with fail
     go_roundw
     case rel => exact ⟨k + 1,by go_num,by omega,HA4,hbn,hbs,hbm⟩
     case measure => simp [intOf]; omega
  ·have HA2 : Hid (A = chkFs (ms.map MsS.name) (es.map EnS.name) [] (ns ++ (fs.take 0).map FlS.tag) (fs.drop 0)) := by
    show _ = _
    rw [HAk.out,drop_end (by rw [HNR.out]; omega)]
    simp [chkRes,orE]
   clear HAk;go_wp2_with fail;clear x1 hk hlt;have HS0 : Hid (Seen wr w.heap.size (.slice none 0 0) []) := Seen.nil _ _
   go_loopw [6,7] (fun nv iv wr => ∃ (k : Nat) (al : List ByteArray) (sa : Option Addr) (sc : Nat),nv = .slice sa k sc ∧ iv = .int .i64 (k : Int) ∧ k ≤ nF ∧ Hid (al.length = k) ∧ Hid (A = chkFs (ms.map MsS.name) (es.map EnS.name) al (ns ++ (fs.take k).map FlS.tag) (fs.drop k)) ∧ Hid (Seen wr w.heap.size (.slice sa k sc) al) ∧ Below w.heap.size w wr ∧ Blk wr w.heap.size #[.string snm,.slice am M cm,.slice ae E ce,.slice at' T ct] 26 ∧ Blk wr bm #[.string mnm,.slice fa nF fc,.slice ra nR rc] 40) (fun _ iv _ => nF - (intOf iv).toNat)
   case atStart => exact ⟨0,[],none,0,rfl,rfl,by omega,rfl,HA2,HS0,hbel,BS,BM⟩
   case round =>
    clear HA2 HS0 hbel BS BM;obtain ⟨k,al,sa,sc,rfl,rfl,hk,HK,HAk,HSE,hbel,BS,BM⟩ := hrel;have x1 : wr.cell? ⟨bm,1,none⟩ = some (.slice fa nF fc) := BM.cell 1
    by_cases hlt : k < nF
    ·obtain ⟨f,hf⟩ : ∃ n,fs[k]? = some n := ⟨_,List.getElem?_eq_getElem (by rw [HNF.out]; exact hlt)⟩
     have hrr : (flRows fs)[k]? = some f.cells := by simp [flRows,hf]
     obtain ⟨g,off,rfl,c1⟩ := (HF.out.below hbel).get hrr;have hsz := HW.out _ (List.mem_of_getElem? hf);obtain ⟨f0,f1,f2,f3,f4⟩ := f;simp only at hsz
     have HA3 : Hid (A = if freshB f0 al = false then 6 else if tagB f1 (ns ++ (fs.take k).map FlS.tag) = false then 7 else if (labB f2 && typeB (ms.map MsS.name) (es.map EnS.name) f3 f4) = false then 8 else chkFs (ms.map MsS.name) (es.map EnS.name) (al ++ [f0]) (ns ++ (fs.take (k + 1)).map FlS.tag) (fs.drop (k + 1))) := by
      show _ = _
      rw [HAk.out,drop_at hf,List.take_add_one,hf,List.map_append,← List.append_assoc]; rfl
     have p0 := c1 0 _ rfl;have p1 := c1 1 _ rfl;have p2 := c1 2 _ rfl;have p3 := c1 3 _ rfl;have p4 := c1 4 _ rfl;simp only [Nat.add_zero] at p0 p1 p2 p3 p4;have ha : Below wr.heap.size wr (wr.alloc (.cells #[.string f0,.int .i64 f1,.int .i64 f2,.int .i64 f3,.string f4] 42)) := (Below.refl _ _).alloc (Nat.le_refl _) _;have BV := Blk.new wr #[.string f0,.int .i64 f1,.int .i64 f2,.int .i64 f3,.string f4] 42;clear c1 hrr hf HAk;go_wp2_with fail;clear x1 p0 p1 p2 p3 p4;refine (rfresh_any f0 hsz (HSE.out.below ha).row).mono ?_;rintro e w1 ⟨rfl,hb1⟩;have hbw1 : Below w.heap.size w w1 := (hbel.trans (ha.mono hbel.size)).trans (hb1.mono (hbel.trans (ha.mono hbel.size)).size);have HS1 : Hid (Seen w1 w.heap.size (.slice sa k sc) al) := (HSE.out.below ha).below hb1;have BS1 := (BS.below ha).below hb1;have BM1 := (BM.below ha).below hb1;have BV1 := BV.below hb1;clear BV ha hb1 HSE
     cases hfr : freshB f0 al with
     | false =>
      have HA4 : Hid (A = 6) := by show _ = _; rw [HA3.out,if_pos hfr]
      clear HA3;go_wp2_with fail;go_ret;exact ⟨ret_e HA4.out.symm,hbw1⟩
     | true =>
      have HA4 : Hid (A = if tagB f1 (ns ++ (fs.take k).map FlS.tag) = false then 7 else if (labB f2 && typeB (ms.map MsS.name) (es.map EnS.name) f3 f4) = false then 8 else chkFs (ms.map MsS.name) (es.map EnS.name) (al ++ [f0]) (ns ++ (fs.take (k + 1)).map FlS.tag) (fs.drop (k + 1))) := by show _ = _; rw [HA3.out,if_neg (by rw [hfr]; decide)]
      clear HA3 hfr;obtain ⟨bv,hbv⟩ : ∃ n,wr.heap.size = n := ⟨_,rfl⟩;rw [hbv] at BV1 ⊢;clear hbv hbel BS BM;have v0 : w1.cell? ⟨bv,0,none⟩ = some (.string f0) := BV1.cell 0
      go_wp2_with (first
       | (at_builtin; refine wpList_seen (al := al) (x := f0) rfl _ _ rfl rfl rfl HS1.out ?c1 ?c2 ?_)
       | fail)
      case c1 => exact hbw1.size
      case c2 => rw [HK.out]; omega
      intro v' w2 hS2 hK2 hB2;obtain ⟨ta,tc,rfl⟩ := hS2.form
      have hl2 : (al ++ [f0]).length = k + 1 := by rw [List.length_append,HK.out]; rfl
      rw [hl2] at hS2 ⊢;have HS2 : Hid (Seen w2 w.heap.size (.slice ta (k + 1) tc) (al ++ [f0])) := hS2;have HK2 : Hid ((al ++ [f0]).length = k + 1) := hl2;have hb2 : Below w.heap.size w w2 := hbw1.trans hB2;have BS2 := BS1.kp hK2 (fun e => absurd (own_type HS1.out e BS1) (by decide));have BM2 := BM1.kp hK2 (fun e => absurd (own_type HS1.out e BM1) (by decide));have BV2 := BV1.kp hK2 (fun e => absurd (own_type HS1.out e BV1) (by decide));clear v0 hS2 hl2 hK2 hB2 BS1 BM1 BV1 HS1 hbw1 HK;go_wp2_with fail;obtain ⟨z,hz⟩ : ∃ z,((fs.take k).find? fun m => decide (m.tag = f1)).getD zeroF = z := ⟨_,rfl⟩;obtain ⟨Z,hZ⟩ : ∃ Z,((fs.take k).find? fun m => decide (m.tag = f1)).isSome = Z := ⟨_,rfl⟩;obtain ⟨z0,z1,z2,z3,z4⟩ := z
      have HZ : Hid (memI f1 ((fs.take k).map FlS.tag) = Z) := by show _ = _; rw [← find_tag]; exact hZ
      have HCL : Hid (∀ W,Below w2.heap.size w2 W → W.cell? ⟨bm,1,none⟩ = some (.slice (some ⟨g,off,none⟩) nF fc) ∧ W.cell? ⟨bv,1,none⟩ = some (.int .i64 f1)) := fun W hW => ⟨(BM2.below hW).cell 1,(BV2.below hW).cell 1⟩
      have HCALL : Hid (∀ W,Below w2.heap.size w2 W → Calls Try.prog 41 #[.agg #[.string ⟨#[]⟩,.slice (some ⟨g,off,none⟩) k fc,.slice none 0 0],.int .i64 f1] W fun e w' => (e = .returned (.tuple #[.agg #[.string z0,.int .i64 z1,.int .i64 z2,.int .i64 z3,.string z4],.bool Z]) ∧ True) ∧ Below W.heap.size W w') := fun W hW => by
       have hrk := RowG.take (k := k) (HF.out.below (hb2.trans (hW.mono hb2.size))) (by simp [flRows,HNF.out]) (by omega);rw [show (flRows fs).take k = flRows (fs.take k) by simp [flRows,List.map_take]] at hrk;refine (r7field_any hrk).mono ?_;rintro e w' ⟨rfl,hb⟩;rw [hz,hZ];exact ⟨⟨rfl,trivial⟩,hb⟩
      clear hz hZ
      have hkc : ¬ fc < k := by omega
      have hkc2 : k ≤ fc := by omega
      refine wp_region_held_drew (S := fun W => Below w2.heap.size w2 W) (by kernel_rfl) (below_drewN 1 (Below.refl _ _)) (fun hS => ?_);generalize w2.drew = Y16 at *;refine rg_take 0 78 (.pointer (some ⟨bm,1,none⟩)) _ rfl rfl (by kernel_rfl) (by kernel_rfl) (by kernel_rfl) (fun _ _ _ h => h) (by rfl) (fun w' hw' => ?_) hS (listed' := bts 14 1) (by kernel_rfl) rfl ?_
      ·obtain ⟨g0,g1⟩ := HCL.out w' hw'; go_simp
      simp only [zsA,zsZ,zsS];refine rg_take 2 80 (.int .i64 (k : Int)) _ rfl rfl (by kernel_rfl) (by kernel_rfl) (by kernel_rfl) (fun _ _ _ h => h) (by rfl) (fun w' hw' => ?_) hS (listed' := bts 14 5) (by kernel_rfl) rfl ?_
      ·obtain ⟨g0,g1⟩ := HCL.out w' hw'; go_simp
      simp only [zsA,zsZ,zsS];refine rg_take 1 79 (.slice (some ⟨g,off,none⟩) nF fc) _ rfl rfl (by kernel_rfl) (by kernel_rfl) (by kernel_rfl) (fun _ _ _ h => h) (by rfl) (fun w' hw' => ?_) hS (listed' := bts 14 7) (by kernel_rfl) rfl ?_
      ·obtain ⟨g0,g1⟩ := HCL.out w' hw'; go_simp
      simp only [zsA,zsZ,zsS];refine rg_take 3 81 (.slice (some ⟨g,off,none⟩) k fc) _ rfl rfl (by kernel_rfl) (by kernel_rfl) (by kernel_rfl) (fun _ _ _ h => h) (by rfl) (fun w' hw' => ?_) hS (listed' := bts 14 15) (by kernel_rfl) rfl ?_
      ·obtain ⟨g0,g1⟩ := HCL.out w' hw'; go_simp
      simp only [zsA,zsZ,zsS];refine rg_take 4 82 (.agg #[.string ⟨#[]⟩,.slice (some ⟨g,off,none⟩) k fc,.slice none 0 0]) _ rfl rfl (by kernel_rfl) (by kernel_rfl) (by kernel_rfl) (fun _ _ _ h => h) (by rfl) (fun w' hw' => ?_) hS (listed' := bts 14 31) (by kernel_rfl) rfl ?_
      ·obtain ⟨g0,g1⟩ := HCL.out w' hw'; go_simp
      simp only [zsA,zsZ,zsS];refine rg_take 5 83 (.pointer (some ⟨bv,1,none⟩)) _ rfl rfl (by kernel_rfl) (by kernel_rfl) (by kernel_rfl) (fun _ _ _ h => h) (by rfl) (fun w' hw' => ?_) hS (listed' := bts 14 63) (by kernel_rfl) rfl ?_
      ·obtain ⟨g0,g1⟩ := HCL.out w' hw'; go_simp
      simp only [zsA,zsZ,zsS];refine rg_take 6 84 (.int .i64 f1) _ rfl rfl (by kernel_rfl) (by kernel_rfl) (by kernel_rfl) (fun _ _ _ h => h) (by rfl) (fun w' hw' => ?_) hS (listed' := bts 14 127) (by kernel_rfl) rfl ?_
      ·obtain ⟨g0,g1⟩ := HCL.out w' hw'; go_simp
      simp only [zsA,zsZ,zsS]
      refine rg_ca3 7 11 8 9 10 85 9 77 86 87 41 #[.agg #[.string ⟨#[]⟩,.slice (some ⟨g,off,none⟩) k fc,.slice none 0 0],.int .i64 f1] (fun W => .pointer (some ⟨W.heap.size,0,none⟩)) (fun W => W.alloc (.cells #[.string ⟨#[]⟩,.int .i64 0,.int .i64 0,.int .i64 0,.string ⟨#[]⟩] 42)) (fun v => v) tupA tupB (fun v => v = .tuple #[.agg #[.string z0,.int .i64 z1,.int .i64 z2,.int .i64 z3,.string z4],.bool Z])
       (fun v p W => ∃ b,v = .tuple #[.agg #[.string z0,.int .i64 z1,.int .i64 z2,.int .i64 z3,.string z4],.bool Z] ∧ p = .pointer (some ⟨b,0,none⟩) ∧ w2.heap.size ≤ b ∧ Blk W b #[.string ⟨#[]⟩,.int .i64 0,.int .i64 0,.int .i64 0,.string ⟨#[]⟩] 42 ∧ True)
       rfl rfl rfl rfl rfl rfl rfl rfl rfl rfl (by decide) (by decide) (by decide) (by decide) (by decide) (by decide) (by decide) (by decide) (by kernel_rfl) (by kernel_rfl) (by kernel_rfl) (by kernel_rfl) (by kernel_rfl) (by kernel_rfl) (by kernel_rfl) (by kernel_rfl) (by kernel_rfl) (by kernel_rfl) (by kernel_rfl) (by kernel_rfl) (by kernel_rfl) (by kernel_rfl) (by kernel_rfl) (by kernel_rfl)
       (fun _ => rfl) (fun _ => rfl) (fun _ => rfl) (fun _ => rfl) (fun _ => rfl) (fun d _ _ _ _ h => by cases d <;> exact h) ?xj ?xi ?xi' ?x1 ?x1' ?x2 ?x2' ?x3 ?x3' ?hA ?hB ?_
      case xj => intro a' W'; go_simp
      case xi => intro W'; go_simp
      case xi' => intro v W'; go_simp
      case x1 => rintro v W' rfl; go_simp
      case x1' => rintro v p W' rfl; go_simp
      case x2 => rintro v W' rfl; simp only [tupA]; go_simp
      case x2' => rintro v p W' rfl; simp only [tupA]; go_simp
      case x3 => rintro v W' rfl; simp only [tupA,tupB]; go_simp
      case x3' => rintro v p W' rfl; simp only [tupA,tupB]; go_simp
      case hA =>
       refine (HCALL.out Y16 hS).mono ?_;rintro e w1 ⟨⟨rfl,hrw⟩,hb⟩;have s1 : Below w2.heap.size w2 w1 := hS.trans (hb.mono hS.size);have sa : Below w1.heap.size w1 (w1.alloc (.cells #[.string ⟨#[]⟩,.int .i64 0,.int .i64 0,.int .i64 0,.string ⟨#[]⟩] 42)) := (Below.refl _ _).alloc (Nat.le_refl _) _;exact ⟨_,rfl,rfl,s1,s1.trans (sa.mono s1.size),w1.heap.size,rfl,rfl,s1.size,Blk.new w1 _ _,trivial⟩
      case hB =>
       have s0 : Below w2.heap.size w2 (Y16.alloc (.cells #[.string ⟨#[]⟩,.int .i64 0,.int .i64 0,.int .i64 0,.string ⟨#[]⟩] 42)) := hS.alloc hS.size _;refine ⟨s0,(HCALL.out _ s0).mono ?_⟩;rintro e w1 ⟨⟨rfl,hrw⟩,hb⟩;exact ⟨_,rfl,rfl,s0.trans (hb.mono s0.size),Y16.heap.size,rfl,rfl,hS.size,(Blk.new Y16 _ _).below hb,trivial⟩
      rintro v p W1 _ hS ⟨bf,rfl,rfl,hbm,BM,hrw⟩;simp only [tupA,tupB,List.setIfInBounds_toArray,List.set_cons_zero,List.set_cons_succ,List.getD_eq_getElem?_getD,Array.getD_eq_getD_getElem?,List.getElem?_toArray,List.getElem?_cons_zero,List.getElem?_cons_succ,Option.getD_some];have t0 := (BM.cell 0).trans rfl;have y0 := BM.froz 0;have t1 := (BM.cell 1).trans rfl;have y1 := BM.froz 1;have t2 := (BM.cell 2).trans rfl;have y2 := BM.froz 2;have t3 := (BM.cell 3).trans rfl;have y3 := BM.froz 3;have t4 := (BM.cell 4).trans rfl;have y4 := BM.froz 4;have s2 : Below w2.heap.size w2 (((((W1.setCell ⟨bf,0,none⟩ (.string z0)).setCell ⟨bf,1,none⟩ (.int .i64 z1)).setCell ⟨bf,2,none⟩ (.int .i64 z2)).setCell ⟨bf,3,none⟩ (.int .i64 z3)).setCell ⟨bf,4,none⟩ (.string z4)) := (Below.setCell (Below.setCell (Below.setCell (Below.setCell (Below.setCell hS hbm _) hbm _) hbm _) hbm _) hbm _);refine rg_store 12 (((((W1.setCell ⟨bf,0,none⟩ (.string z0)).setCell ⟨bf,1,none⟩ (.int .i64 z1)).setCell ⟨bf,2,none⟩ (.int .i64 z2)).setCell ⟨bf,3,none⟩ (.int .i64 z3)).setCell ⟨bf,4,none⟩ (.string z4)) rfl rfl (by kernel_rfl) (by rfl) (listed' := bts 14 8191) (by kernel_rfl) (by go_simp) s2 ?_;have BM0 : Blk (W1.setCell ⟨bf,0,none⟩ (.string z0)) bf #[.string z0,.int .i64 0,.int .i64 0,.int .i64 0,.string ⟨#[]⟩] 42 := BM.set 0 (.string z0) rfl;have BM1 : Blk ((W1.setCell ⟨bf,0,none⟩ (.string z0)).setCell ⟨bf,1,none⟩ (.int .i64 z1)) bf #[.string z0,.int .i64 z1,.int .i64 0,.int .i64 0,.string ⟨#[]⟩] 42 := BM0.set 1 (.int .i64 z1) rfl;have BM2 : Blk (((W1.setCell ⟨bf,0,none⟩ (.string z0)).setCell ⟨bf,1,none⟩ (.int .i64 z1)).setCell ⟨bf,2,none⟩ (.int .i64 z2)) bf #[.string z0,.int .i64 z1,.int .i64 z2,.int .i64 0,.string ⟨#[]⟩] 42 := BM1.set 2 (.int .i64 z2) rfl;have BM3 : Blk ((((W1.setCell ⟨bf,0,none⟩ (.string z0)).setCell ⟨bf,1,none⟩ (.int .i64 z1)).setCell ⟨bf,2,none⟩ (.int .i64 z2)).setCell ⟨bf,3,none⟩ (.int .i64 z3)) bf #[.string z0,.int .i64 z1,.int .i64 z2,.int .i64 z3,.string ⟨#[]⟩] 42 := BM2.set 3 (.int .i64 z3) rfl;have BM4 : Blk (((((W1.setCell ⟨bf,0,none⟩ (.string z0)).setCell ⟨bf,1,none⟩ (.int .i64 z1)).setCell ⟨bf,2,none⟩ (.int .i64 z2)).setCell ⟨bf,3,none⟩ (.int .i64 z3)).setCell ⟨bf,4,none⟩ (.string z4)) bf #[.string z0,.int .i64 z1,.int .i64 z2,.int .i64 z3,.string z4] 42 := BM3.set 4 (.string z4) rfl
      have KS : Kp (fun k => k = bf) W1 (((((W1.setCell ⟨bf,0,none⟩ (.string z0)).setCell ⟨bf,1,none⟩ (.int .i64 z1)).setCell ⟨bf,2,none⟩ (.int .i64 z2)).setCell ⟨bf,3,none⟩ (.int .i64 z3)).setCell ⟨bf,4,none⟩ (.string z4)) := by
       refine Kp.setCell ?_ (fun _ => by simp) _;refine Kp.setCell ?_ (fun _ => by simp) _;refine Kp.setCell ?_ (fun _ => by simp) _;refine Kp.setCell ?_ (fun _ => by simp) _;refine Kp.setCell ?_ (fun _ => by simp) _;exact Kp.refl _ _
      refine rg_take 13 10 (.bool Z) _ rfl rfl (by kernel_rfl) (by kernel_rfl) (by kernel_rfl) (fun _ _ _ h => h) (by rfl) (fun w' hw' => ?_) s2 (listed' := bts 14 16383) (by kernel_rfl) rfl ?_
      ·go_simp
      simp only [zsA,zsZ,zsS];refine wpAnyH_done (by kernel_rfl) ?_ _;generalize (((((W1.setCell ⟨bf,0,none⟩ (.string z0)).setCell ⟨bf,1,none⟩ (.int .i64 z1)).setCell ⟨bf,2,none⟩ (.int .i64 z2)).setCell ⟨bf,3,none⟩ (.int .i64 z3)).setCell ⟨bf,4,none⟩ (.string z4)) = wd at *;have Bbf : Blk wd bf #[.string z0,.int .i64 z1,.int .i64 z2,.int .i64 z3,.string z4] 42 := BM4;clear KS t0 y0 BM0 t1 y1 BM1 t2 y2 BM2 t3 y3 BM3 t4 y4 BM4 BM hrw hS HCL HCALL;have hbd : Below w.heap.size w wd := hb2.trans (s2.mono hb2.size);have BSd := BS2.below s2;have BMd := BM2.below s2;have BVd := BV2.below s2;have HSd : Hid (Seen wd w.heap.size (.slice ta (k + 1) tc) (al ++ [f0])) := HS2.out.below s2;clear s2 hb2 BS2 BM2 BV2 HS2 Bbf hbm;have m0 : wd.cell? ⟨bm,0,none⟩ = some (.string mnm) := BMd.cell 0;have m1 : wd.cell? ⟨bm,1,none⟩ = some (.slice (some ⟨g,off,none⟩) nF fc) := BMd.cell 1;have m2 : wd.cell? ⟨bm,2,none⟩ = some (.slice ra nR rc) := BMd.cell 2;have v1 : wd.cell? ⟨bv,1,none⟩ = some (.int .i64 f1) := BVd.cell 1
      cases Z with
      | true =>
       have HA5 : Hid (A = 7) := by show _ = _; rw [HA4.out,if_pos (by unfold tagB; rw [memI_append,HZ.out]; simp)]
       clear HA4;go_wp2_with fail;go_ret;exact ⟨ret_e HA5.out.symm,hbd⟩
      | false =>
       by_cases hlo : f1 < 1
       ·have HA5 : Hid (A = 7) := by show _ = _; rw [HA4.out,if_pos (by unfold tagB; rw [tagR_low hlo]; rfl)]
        clear HA4;go_wp2_with fail;go_ret;exact ⟨ret_e HA5.out.symm,hbd⟩
       by_cases hhi : 500 < f1
       ·have HA5 : Hid (A = 7) := by show _ = _; rw [HA4.out,if_pos (by unfold tagB; rw [tagR_high hhi]; rfl)]
        clear HA4;go_wp2_with fail;go_ret;exact ⟨ret_e HA5.out.symm,hbd⟩
       have HTR : Hid (tagR f1 = true) := tagR_in hlo hhi;go_wp2_with fail;clear m0 m1 m2 v1;refine (rreserved_any f1 (HR.out.below hbd)).mono ?_;rintro e w5 ⟨rfl,hb5⟩;have hbw5 : Below w.heap.size w w5 := hbd.trans (hb5.mono hbd.size);have BS5 := BSd.below hb5;have BM5 := BMd.below hb5;have BV5 := BVd.below hb5;have HS5 : Hid (Seen w5 w.heap.size (.slice ta (k + 1) tc) (al ++ [f0])) := HSd.out.below hb5;clear hb5 hbd BSd BMd BVd HSd
       cases hR : memI f1 ns with
       | true =>
        have HA5 : Hid (A = 7) := by show _ = _; rw [HA4.out,if_pos (by unfold tagB; rw [memI_append,hR]; simp)]
        clear HA4 hR;go_wp2_with fail;go_ret;exact ⟨ret_e HA5.out.symm,hbw5⟩
       | false =>
        have HA5 : Hid (A = if (labB f2 && typeB (ms.map MsS.name) (es.map EnS.name) f3 f4) = false then 8 else chkFs (ms.map MsS.name) (es.map EnS.name) (al ++ [f0]) (ns ++ (fs.take (k + 1)).map FlS.tag) (fs.drop (k + 1))) := by show _ = _; rw [HA4.out,if_neg (by unfold tagB; rw [memI_append,HZ.out,hR,HTR.out]; decide)]
        clear HA4 hR hlo hhi HZ HTR;have s0 : w5.cell? ⟨w.heap.size,0,none⟩ = some (.string snm) := BS5.cell 0;have s1 : w5.cell? ⟨w.heap.size,1,none⟩ = some (.slice am M cm) := BS5.cell 1;have s2 : w5.cell? ⟨w.heap.size,2,none⟩ = some (.slice ae E ce) := BS5.cell 2;have s3 : w5.cell? ⟨w.heap.size,3,none⟩ = some (.slice at' T ct) := BS5.cell 3;have v2 : w5.cell? ⟨bv,2,none⟩ = some (.int .i64 f2) := BV5.cell 2;have v3 : w5.cell? ⟨bv,3,none⟩ = some (.int .i64 f3) := BV5.cell 3;have v4 : w5.cell? ⟨bv,4,none⟩ = some (.string f4) := BV5.cell 4
        by_cases hlo : f2 < 1
        ·have HA6 : Hid (A = 8) := by show _ = _; rw [HA5.out,if_pos (by unfold labB; rw [decide_eq_false (by omega)]; rfl)]
         clear HA5;go_wp2_with fail;go_ret;exact ⟨ret_e HA6.out.symm,hbw5⟩
        by_cases hhi : 3 < f2
        ·have HA6 : Hid (A = 8) := by show _ = _; rw [HA5.out,if_pos (by unfold labB; rw [decide_eq_false (by omega)]; rfl)]
         clear HA5;go_wp2_with fail;go_ret;exact ⟨ret_e HA6.out.symm,hbw5⟩
        have HLB : Hid (labB f2 = true) := by show _ = _; unfold labB; rw [decide_eq_true (by omega)]
        go_wp2_with fail;clear s0 s1 s2 s3 v2 v3 v4;refine (r7kind_any f3 (HM.out.below hbw5) (HE.out.below hbw5)).mono ?_;rintro e w6 ⟨rfl,hb6⟩;have hbw6 : Below w.heap.size w w6 := hbw5.trans (hb6.mono hbw5.size);have BS6 := BS5.below hb6;have BM6 := BM5.below hb6;have HS6 : Hid (Seen w6 w.heap.size (.slice ta (k + 1) tc) (al ++ [f0])) := HS5.out.below hb6;clear hb6 hbw5 BS5 BM5 BV5 HS5
        cases hT : typeB (ms.map MsS.name) (es.map EnS.name) f3 f4 with
        | false =>
         have HA6 : Hid (A = 8) := by show _ = _; rw [HA5.out,if_pos (by rw [hT]; simp)]
         clear HA5 hT;go_wp2_with fail;go_ret;exact ⟨ret_e HA6.out.symm,hbw6⟩
        | true =>
         have HA6 : Hid (A = chkFs (ms.map MsS.name) (es.map EnS.name) (al ++ [f0]) (ns ++ (fs.take (k + 1)).map FlS.tag) (fs.drop (k + 1))) := by show _ = _; rw [HA5.out,if_neg (by rw [HLB.out,hT]; decide)]
         clear HA5 hT HLB;go_wp2_with fail
         go_roundw
         case rel => exact ⟨k + 1,al ++ [f0],ta,tc,rfl,by go_num,by omega,HK2,HA6,HS6,hbw6,BS6,BM6⟩
         case measure => simp [intOf]; omega
    ·have HA3 : Hid (A = 0) := by show _ = _; rw [HAk.out,drop_end (by rw [HNF.out]; omega)]; rfl
     clear HAk;go_wp2_with fail;go_ret;exact ⟨ret_e HA3.out.symm,hbel⟩
end Go.Proofs.Ytdkolhfpfimeoaa
