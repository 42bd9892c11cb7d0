/- Part 3 of what the proof stands on. -/
import Derived.Test.YtdkolhfpfimeoaaPkFAB
import Derived.Laws.AppendOwnNone
import Derived.OwnWalk
import Derived.Maps.AppendAt
import Derived.LaidEql
import Derived.LaidEqlPtr
import Derived.Laws.StructEq
import Derived.MapKept
import Derived.Deep.Cut
namespace Go.Proofs.Ytdkolhfpfimeoaa
set_option maxHeartbeats 8000000
set_option linter.unusedVariables false
set_option linter.unusedSimpArgs false
set_option maxRecDepth 20000
section
open Go.ChangeShapes Go.WideShapes Go.ChangeAt Go.RowKit Go.Maps
structure FewL (s : ScS) : Prop where
 msgs : s.msgs.length ≤ 14
 enums : s.enums.length ≤ 10
 meths : s.methods.length ≤ 10
 flds : ∀ m ∈ s.msgs,m.fields.length ≤ 20 ∧ m.reserved.length ≤ 40
 vals : ∀ e ∈ s.enums,e.values.length ≤ 24
structure MayL (s : ScS) : Prop where
 msgs : s.msgs.length ≤ 30000
 enums : s.enums.length ≤ 30000
 meths : s.methods.length ≤ 30000
 flds : ∀ m ∈ s.msgs,m.fields.length ≤ 30000 ∧ m.reserved.length ≤ 30000
 vals : ∀ e ∈ s.enums,e.values.length ≤ 30000
theorem FewL.may {s : ScS} (h : FewL s) : MayL s := ⟨Nat.le_trans h.msgs (by decide),Nat.le_trans h.enums (by decide),Nat.le_trans h.meths (by decide),fun m hm => ⟨Nat.le_trans (h.flds m hm).1 (by decide),Nat.le_trans (h.flds m hm).2 (by decide)⟩,fun e he => Nat.le_trans (h.vals e he) (by decide)⟩
theorem chkMs_err {mn en a : List ByteArray} {m : MsS} {l : List MsS} {X : Int} (hX : X = if freshB m.name a = false then 6 else chkMb mn en m) (h : X ≠ 0) : chkMs mn en a (m :: l) = X := by
 unfold chkMs
 cases hf : freshB m.name a
 ·rw [if_pos rfl]; rw [hf,if_pos rfl] at hX; exact hX.symm
 ·rw [if_neg (by decide)]; rw [hf,if_neg (by decide)] at hX; subst hX; exact orE_ne h _
theorem chkMs_on {mn en a : List ByteArray} {m : MsS} {l : List MsS} (hX : 0 = if freshB m.name a = false then 6 else chkMb mn en m) : freshB m.name a = true ∧ chkMs mn en a (m :: l) = chkMs mn en (a ++ [m.name]) l := by
 cases hf : freshB m.name a
 ·rw [hf,if_pos rfl] at hX; omega
 ·rw [hf,if_neg (by decide)] at hX;refine ⟨rfl,?_⟩
  show (if freshB m.name a = false then 6 else orE (chkMb mn en m) (chkMs mn en (a ++ [m.name]) l)) = _
  rw [hf,if_neg (by decide),← hX,orE_zero]
theorem chkEs_err {a : List ByteArray} {m : EnS} {l : List EnS} {X : Int} (hX : X = if freshB m.name a = false then 6 else chkEb m) (h : X ≠ 0) : chkEs a (m :: l) = X := by
 unfold chkEs
 cases hf : freshB m.name a
 ·rw [if_pos rfl]; rw [hf,if_pos rfl] at hX; exact hX.symm
 ·rw [if_neg (by decide)]; rw [hf,if_neg (by decide)] at hX; subst hX; exact orE_ne h _
theorem chkEs_on {a : List ByteArray} {m : EnS} {l : List EnS} (hX : 0 = if freshB m.name a = false then 6 else chkEb m) : freshB m.name a = true ∧ chkEs a (m :: l) = chkEs (a ++ [m.name]) l := by
 cases hf : freshB m.name a
 ·rw [hf,if_pos rfl] at hX; omega
 ·rw [hf,if_neg (by decide)] at hX;refine ⟨rfl,?_⟩
  show (if freshB m.name a = false then 6 else orE (chkEb m) (chkEs (a ++ [m.name]) l)) = _
  rw [hf,if_neg (by decide),← hX,orE_zero]
theorem check_may {w : World} {v : Value} {s : ScS} (hr : ScIn w v s) (hw : ScW s) (hf : MayL s) :
  Calls Try.prog 18 #[v] w fun e w' => e = .returned (.int .i64 (checkA s)) ∧ Below w.heap.size w w' := by
 have HSC := hr;obtain ⟨vm,ve,vt,rfl,hm,he,ht⟩ := hr;obtain ⟨am,cm,rfl,qm1,qm2⟩ := hm.form2;obtain ⟨ae,ce,rfl,qe1,qe2⟩ := he.form2;obtain ⟨at',ct,rfl,qt1,qt2⟩ := ht.form2
 have hT : (mtRows s.methods).length = s.methods.length := by simp [mtRows]
 rw [hT] at HSC ht qt1 ⊢;clear hT;have HWA : Hid (∀ W : World,Calls Try.prog 32 #[.agg #[.string s.name,.slice am s.msgs.length cm,.slice ae s.enums.length ce,.slice at' s.methods.length ct]] W fun e w' => e = .returned (.int .i64 (wholeA s)) ∧ Below W.heap.size W w') := fun W => cwhole_any s hw.name hf.msgs hf.enums hf.meths
 have HTO : Hid (∀ W : World,Below w.heap.size w W → Calls Try.prog 33 #[.agg #[.string s.name,.slice am s.msgs.length cm,.slice ae s.enums.length ce,.slice at' s.methods.length ct]] W fun e w' => (∃ bY ny T,e = .returned (.map (some bY)) ∧ W.heap.size ≤ bY ∧ SetT w' bY ny T ∧ ∀ k s',memT (k,s') T = typeB s.mn s.en k s') ∧ Below W.heap.size W w') := fun W hW => typesof_any (HSC.below hW) hw hf.msgs hf.enums
 have HM : Hid (MsIn w (.slice am s.msgs.length cm) s.msgs) := hm;have HE : Hid (EnIn w (.slice ae s.enums.length ce) s.enums) := he;have HT : Hid (RowG w (.slice at' s.methods.length ct) 3 (mtRows s.methods)) := ht;have HMN : Hid (s.mn = s.msgs.map MsS.name) := rfl;obtain ⟨CA,hCA⟩ : ∃ A,checkA s = A := ⟨_,rfl⟩;obtain ⟨WA,hWA⟩ : ∃ A,wholeA s = A := ⟨_,rfl⟩
 have HCA : Hid (CA = orE WA (orE (orE (chkMs s.mn s.en [] s.msgs) (chkEs s.mn s.enums)) (chkTs s.mn [] s.methods))) := by show _ = _; rw [← hCA,← hWA]; rfl
 rw [hWA] at HWA;rw [hCA];generalize s.mn = mn at *;generalize s.en = en at *;have HF : Hid (MayL s) := hf;have HW : Hid (ScW s) := hw;obtain ⟨nm,ms,es,ts⟩ := s;simp only at *;have HM : Hid (MsIn w (.slice am ms.length cm) ms) := HM;have HE : Hid (EnIn w (.slice ae es.length ce) es) := HE;obtain ⟨M,hM⟩ : ∃ N,ms.length = N := ⟨_,rfl⟩;obtain ⟨E,hE⟩ : ∃ N,es.length = N := ⟨_,rfl⟩;obtain ⟨T,hT⟩ : ∃ N,ts.length = N := ⟨_,rfl⟩;have h1 := hf.msgs;have h2 := hf.enums;have h3 := hf.meths;simp only at h1 h2 h3;have HL3 : Hid (ts.length ≤ 30000) := h3;rw [hM] at HM qm1 h1 HWA HTO ⊢;rw [hE] at HE qe1 h2 HWA HTO ⊢;rw [hT] at HT qt1 h3 HWA HTO ⊢;have HNM : Hid (ms.length = M) := hM;have HNE : Hid (es.length = E) := hE;have HNT : Hid (ts.length = T) := hT;clear hM hE hT hf hw HSC hm he ht hCA hWA;have hba : Below w.heap.size w (w.alloc (.cells #[.string nm,.slice am M cm,.slice ae E ce,.slice at' T ct] 26)) := (Below.refl _ _).alloc (Nat.le_refl _) _;have BX := Blk.new w #[.string nm,.slice am M cm,.slice ae E ce,.slice at' T ct] 26;have hmm := @run_makeMap Try.prog
 by_cases hw0 : WA = 0
 ·subst hw0
  have HCA : Hid (CA = orE (orE (chkMs mn en [] ms) (chkEs mn es)) (chkTs mn [] ts)) := by show _ = _; rw [HCA.out,orE_zero]
  go_enter Try.func18,Try.ntmps18
  go_wp2_with fail;refine (HWA.out _).mono ?_;rintro e w1 ⟨rfl,hb1⟩;have BX1 := BX.below hb1;have b0 : w1.cell? ⟨w.heap.size,0,none⟩ = some (.string nm) := BX1.cell 0;have b1 : w1.cell? ⟨w.heap.size,1,none⟩ = some (.slice am M cm) := BX1.cell 1;have b2 : w1.cell? ⟨w.heap.size,2,none⟩ = some (.slice ae E ce) := BX1.cell 2;have b3 : w1.cell? ⟨w.heap.size,3,none⟩ = some (.slice at' T ct) := BX1.cell 3;have hb01 : Below w.heap.size w w1 := hba.trans (hb1.mono hba.size);go_wp2_with fail;clear b0 b1 b2 b3;refine (HTO.out w1 hb01).mono ?_;rintro e w2 ⟨⟨bY,ny,Ty,rfl,hbY,hTy,hTt⟩,hb2⟩;have HTy : Hid (SetT w2 bY ny Ty) := hTy;have HTT : Hid (∀ k s',memT (k,s') Ty = typeB mn en k s') := hTt;clear hTy hTt;have BX2 := BX1.below hb2;have hb02 : Below w.heap.size w w2 := hb01.trans (hb2.mono hb01.size);have b1 : w2.cell? ⟨w.heap.size,1,none⟩ = some (.slice am M cm) := BX2.cell 1;have hx2 : w.heap.size < w2.heap.size := BX2.lt;have hxY : w.heap.size < bY := Nat.lt_of_lt_of_le BX1.lt hbY;have hYn : bY < w2.heap.size := SetK.lt HTy.out;clear hb1 hb2 hb01 BX BX1 hba HWA HTO;go_wp2_with fail;clear hmm b1;have HM0 : SetS (w2.alloc (.map #[] 0)) w2.heap.size 0 ((ms.take 0).map MsS.name) := SetK.made 9 w2;have HTy0 : Hid (SetT (w2.alloc (.map #[] 0)) bY ny Ty) := SetK.below HTy.out ((Below.refl _ _).alloc (Nat.le_refl _) _);have hbel0 : Below w.heap.size w (w2.alloc (.map #[] 0)) := hb02.alloc (by omega) _;have BX0 : Blk (w2.alloc (.map #[] 0)) w.heap.size #[.string nm,.slice am M cm,.slice ae E ce,.slice at' T ct] 26 := BX2.below ((Below.refl _ _).alloc (Nat.le_refl _) _);obtain ⟨bn,hbn⟩ : ∃ n,w2.heap.size = n := ⟨_,rfl⟩;rw [hbn] at HM0 hYn hx2 ⊢;clear hbn HTy BX2 hb02;obtain ⟨P1,hP1⟩ : ∃ A,chkMs mn en [] ms = A := ⟨_,rfl⟩;have HP1 : Hid (P1 = chkMs mn en ((ms.take 0).map MsS.name) (ms.drop 0)) := hP1.symm
  have HCA : Hid (CA = orE (orE P1 (chkEs mn es)) (chkTs mn [] ts)) := by show _ = _; rw [HCA.out,hP1]
  clear hP1
  go_loopw [23] (fun iv wr => ∃ (k : Nat),iv = .int .i64 (k : Int) ∧ k ≤ M ∧ Hid (P1 = chkMs mn en ((ms.take k).map MsS.name) (ms.drop k)) ∧ Hid (SetS wr bn k ((ms.take k).map MsS.name)) ∧ Hid (SetT wr bY ny Ty) ∧ Below w.heap.size w wr ∧ Blk wr w.heap.size #[.string nm,.slice am M cm,.slice ae E ce,.slice at' T ct] 26) (fun iv _ => M - (intOf iv).toNat)
  case atStart => exact ⟨0,rfl,by omega,HP1,HM0,HTy0,hbel0,BX0⟩
  case round =>
   obtain ⟨k,rfl,hk,HP,HS,HTy,hbel,BX⟩ := hrel;clear HM0 HTy0 hbel0 BX0;have hbw : bn < wr.heap.size := SetK.lt HS.out
   by_cases hlt : k < M
   ·obtain ⟨m,hm⟩ : ∃ n,ms[k]? = some n := ⟨_,List.getElem?_eq_getElem (by rw [HNM.out]; exact hlt)⟩;obtain ⟨g,off,vf,vr,rfl,c0,c1,c2,hf,hrr⟩ := (HM.out.below hbel).get hm;have HFf : Hid (RowG wr vf 5 (flRows m.fields)) := hf;have HRr : Hid (RowG wr vr 1 (inRows m.reserved)) := hrr;obtain ⟨a3,c3,rfl,_,_⟩ := hf.form2;obtain ⟨a4,c4,rfl,_,_⟩ := hrr.form2;have hmem := List.mem_of_getElem? hm;have HWm : Hid (MsW m) := HW.out.msgs m hmem;have HFm : Hid (m.fields.length ≤ 30000 ∧ m.reserved.length ≤ 30000) := HF.out.flds m hmem
    have HP2 : Hid (P1 = chkMs mn en ((ms.take k).map MsS.name) (m :: ms.drop (k + 1))) := by show _ = _; rw [HP.out,drop_at hm]
    have HTK : Hid ((ms.take (k + 1)).map MsS.name = (ms.take k).map MsS.name ++ [m.name]) := by show _ = _; rw [take_at hm,List.map_append]; rfl
    obtain ⟨m0,mf,mr⟩ := m;simp only at c0 c1 c2 HTK HP2 HFm;have HFf : Hid (RowG wr (.slice a3 (flRows mf).length c3) 5 (flRows mf)) := HFf;have HRr : Hid (RowG wr (.slice a4 (inRows mr).length c4) 1 (inRows mr)) := HRr;have HNF : Hid (RowG wr (.slice a3 (flRows mf).length c3) 5 (flRows mf) ∧ RowG wr (.slice a4 (inRows mr).length c4) 1 (inRows mr)) := ⟨HFf.out,HRr.out⟩;generalize (flRows mf).length = nF at *;generalize (inRows mr).length = nR at *;clear hf hrr hm HP hmem HFf HRr;go_wp2_with fail;clear c0 c1 c2;have hba : Below wr.heap.size wr (wr.alloc (.cells #[.string m0,.slice a3 nF c3,.slice a4 nR c4] 40)) := (Below.refl _ _).alloc (Nat.le_refl _) _;refine (cmsg_any (HNF.out.1.below hba) (HNF.out.2.below hba) HFm.out.1 HFm.out.2 (SetK.below HS.out hba) (by omega) (SetK.below HTy.out hba) (by omega) HTT.out HWm.out).mono ?_;rintro e w3 ⟨rfl,hs3,hk3⟩;have HS3 : Hid _ := hs3;clear hs3;obtain ⟨X,hX⟩ : ∃ X,(if freshB m0 ((ms.take k).map MsS.name) = false then 6 else chkMb mn en ⟨m0,mf,mr⟩) = X := ⟨_,rfl⟩;rw [hX];have HX : Hid (X = if freshB m0 ((ms.take k).map MsS.name) = false then 6 else chkMb mn en ⟨m0,mf,mr⟩) := hX.symm;clear hX;have hb3 : Below w.heap.size w w3 := (hbel.alloc (by omega) _).trans (hk3.toBelow (by simp; omega) (fun k e => by omega))
    by_cases hx0 : X = 0
    ·subst hx0;obtain ⟨g1,g2⟩ := chkMs_on (m := ⟨m0,mf,mr⟩) (l := ms.drop (k + 1)) HX.out
     have HP3 : Hid (P1 = chkMs mn en ((ms.take (k + 1)).map MsS.name) (ms.drop (k + 1))) := by show _ = _; rw [HP2.out,g2,HTK.out]
     have HS4 : Hid (SetS w3 bn (k + 1) ((ms.take (k + 1)).map MsS.name)) := by show SetS _ _ _ _; rw [HTK.out]; exact HS3.out g1
     have HT4 : Hid (SetT w3 bY ny Ty) := SetK.kp (SetK.below HTy.out hba) hk3 (by omega);have BX4 := (BX.below hba).kp hk3 (by omega);clear g1 g2 HX HP2 HTK HS3 hba hk3 BX HS HTy hbel;go_wp2_with fail
     go_roundw
     case rel => exact ⟨k + 1,by go_num,by omega,HP3,HS4,HT4,hb3,BX4⟩
     case measure => simp [intOf]; omega
    ·have hx1 : (X == 0) = false := by simpa using hx0
     have HFin : Hid (X = CA) := by
      show _ = _
      rw [HCA.out,HP2.out,chkMs_err (m := ⟨m0,mf,mr⟩) HX.out hx0,orE_ne hx0,orE_ne hx0]
     go_wp2_with fail;go_ret;exact ⟨ret_int HFin.out,hb3⟩
   ·obtain rfl : k = M := by omega
    have hP0 : P1 = 0 := by rw [HP.out,drop_end (by rw [HNM.out]; omega)]; rfl
    obtain ⟨P2,hP2⟩ : ∃ A,chkEs mn es = A := ⟨_,rfl⟩
    have HP2 : Hid (P2 = chkEs (mn ++ (es.take 0).map EnS.name) (es.drop 0)) := by show _ = _; rw [List.take_zero,List.map_nil,List.append_nil,List.drop_zero]; exact hP2.symm
    have HCA : Hid (CA = orE P2 (chkTs mn [] ts)) := by show _ = _; rw [HCA.out,hP0,hP2,orE_zero]
    have HS0 : Hid (SetS wr bn (k + 0) (mn ++ (es.take 0).map EnS.name)) := by
     show SetS _ _ _ _
     have := HS.out;rw [List.take_of_length_le (by rw [HNM.out]; omega),← HMN.out] at this;rw [List.take_zero,List.map_nil,List.append_nil]; exact this
    have b2 : wr.cell? ⟨w.heap.size,2,none⟩ = some (.slice ae E ce) := BX.cell 2;clear HP hP0 hP2 HS HP1;go_wp2_with fail;clear b2
    go_loopw [38] (fun iv wr => ∃ (i : Nat),iv = .int .i64 (i : Int) ∧ i ≤ E ∧ Hid (P2 = chkEs (mn ++ (es.take i).map EnS.name) (es.drop i)) ∧ Hid (SetS wr bn (k + i) (mn ++ (es.take i).map EnS.name)) ∧ Hid (SetT wr bY ny Ty) ∧ Below w.heap.size w wr ∧ Blk wr w.heap.size #[.string nm,.slice am k cm,.slice ae E ce,.slice at' T ct] 26) (fun iv _ => E - (intOf iv).toNat)
    case atStart => exact ⟨0,rfl,by omega,HP2,HS0,HTy,hbel,BX⟩
    case round =>
     obtain ⟨i,rfl,hi,HP,HS,HTy,hbel,BX⟩ := hrel;clear HS0 HP2;have hbw : bn < wr.heap.size := SetK.lt HS.out
     by_cases hlt : i < E
     ·obtain ⟨m,hm⟩ : ∃ n,es[i]? = some n := ⟨_,List.getElem?_eq_getElem (by rw [HNE.out]; exact hlt)⟩;obtain ⟨g,off,vf,rfl,c0,c1,hf⟩ := (HE.out.below hbel).get hm;have HFf : Hid (RowG wr vf 2 (nmRows m.values)) := hf;obtain ⟨a3,c3,rfl,_,_⟩ := hf.form2;have hmem := List.mem_of_getElem? hm;have HWm : Hid (EnW m) := HW.out.enums m hmem;have HFm : Hid (m.values.length ≤ 30000) := HF.out.vals m hmem
      have HP2 : Hid (P2 = chkEs (mn ++ (es.take i).map EnS.name) (m :: es.drop (i + 1))) := by show _ = _; rw [HP.out,drop_at hm]
      have HTK : Hid (mn ++ (es.take (i + 1)).map EnS.name = (mn ++ (es.take i).map EnS.name) ++ [m.name]) := by show _ = _; rw [take_at hm,List.map_append,List.append_assoc]; rfl
      obtain ⟨m0,mf⟩ := m;simp only at c0 c1 HTK HP2 HFm;have HFf : Hid (RowG wr (.slice a3 (nmRows mf).length c3) 2 (nmRows mf)) := HFf;generalize (nmRows mf).length = nF at *;generalize mn ++ (es.take i).map EnS.name = AL at *;clear hf hm HP hmem;go_wp2_with fail;clear c0 c1;have hba : Below wr.heap.size wr (wr.alloc (.cells #[.string m0,.slice a3 nF c3] 51)) := (Below.refl _ _).alloc (Nat.le_refl _) _;refine (cenum_any (HFf.out.below hba) HFm.out (SetK.below HS.out hba) (by omega) HWm.out).mono ?_;rintro e w3 ⟨rfl,hs3,hk3⟩;have HS3 : Hid _ := hs3;clear hs3;obtain ⟨X,hX⟩ : ∃ X,(if freshB m0 AL = false then 6 else chkEb ⟨m0,mf⟩) = X := ⟨_,rfl⟩;rw [hX];have HX : Hid (X = if freshB m0 AL = false then 6 else chkEb ⟨m0,mf⟩) := hX.symm;clear hX;have hb3 : Below w.heap.size w w3 := (hbel.alloc (by omega) _).trans (hk3.toBelow (by simp; omega) (fun k e => by omega))
      by_cases hx0 : X = 0
      ·subst hx0;obtain ⟨g1,g2⟩ := chkEs_on (m := ⟨m0,mf⟩) (l := es.drop (i + 1)) HX.out
       have HP3 : Hid (P2 = chkEs (mn ++ (es.take (i + 1)).map EnS.name) (es.drop (i + 1))) := by show _ = _; rw [HP2.out,g2,HTK.out]
       have HS4 : Hid (SetS w3 bn (k + (i + 1)) (mn ++ (es.take (i + 1)).map EnS.name)) := by show SetS _ _ _ _; rw [HTK.out]; exact HS3.out g1
       have HT4 : Hid (SetT w3 bY ny Ty) := SetK.kp (SetK.below HTy.out hba) hk3 (by omega);have BX4 := (BX.below hba).kp hk3 (by omega);clear g1 g2 HX HP2 HTK HS3 hba hk3 BX HS HTy hbel HFf;go_wp2_with fail
       go_roundw
       case rel => exact ⟨i + 1,by go_num,by omega,HP3,HS4,HT4,hb3,BX4⟩
       case measure => simp [intOf]; omega
      ·have hx1 : (X == 0) = false := by simpa using hx0
       have HFin : Hid (X = CA) := by
        show _ = _
        rw [HCA.out,HP2.out,chkEs_err (m := ⟨m0,mf⟩) HX.out hx0,orE_ne hx0]
       go_wp2_with fail;go_ret;exact ⟨ret_int HFin.out,hb3⟩
     ·have hP0 : P2 = 0 := by rw [HP.out,drop_end (by rw [HNE.out]; omega)]; rfl
      have HFin : Hid (chkTs mn [] ts = CA) := by show _ = _; rw [HCA.out,hP0,orE_zero]
      have b3 : wr.cell? ⟨w.heap.size,3,none⟩ = some (.slice at' T ct) := BX.cell 3;clear hP0 HP HS;go_wp2_with fail;clear b3;refine (cmethods_any (HT.out.below hbel) HL3.out HTy.out HTT.out HW.out.meths).mono ?_;rintro e w3 ⟨rfl,hb3⟩;rw [HFin.out];go_wp2_with fail;go_ret;exact ⟨rfl,hbel.trans (hb3.mono hbel.size)⟩
 ·have hw1 : (WA == 0) = false := by simpa using hw0
  have HFin : Hid (WA = CA) := by show _ = _; rw [HCA.out,orE_ne hw0]
  go_enter Try.func18,Try.ntmps18
  go_wp2_with fail;refine (HWA.out _).mono ?_;rintro e w1 ⟨rfl,hb1⟩;have hb01 : Below w.heap.size w w1 := hba.trans (hb1.mono hba.size);go_wp2_with fail;go_ret;exact ⟨ret_int HFin.out,hb01⟩
theorem check_any {w : World} {v : Value} {s : ScS} (hr : ScIn w v s) (hw : ScW s) (hf : FewL s) :
  Calls Try.prog 18 #[v] w fun e w' => e = .returned (.int .i64 (checkA s)) ∧ Below w.heap.size w w' := check_may hr hw hf.may
end
section
open Go.ChangeShapes Go.WideShapes Go.ChangeAt Go.RowKit
structure SIn (w : World) (v : Value) (s : ScS) : Prop where
 row : ScIn w v s
 wf : ScW s
 few : FewL s
theorem SIn.below {w w1 : World} {v : Value} {s : ScS} (h : SIn w v s) (hb : Below w.heap.size w w1) : SIn w1 v s := ⟨h.row.below hb,h.wf,h.few⟩
abbrev evolV (r : ByteArray × Int × Bool) : Value := .tuple #[.string r.1,.int .i64 r.2.1,.bool r.2.2]
abbrev EvolC : Prop := ∀ (s t : ScS) (sv tv : Value) (w : World),SIn w sv s → SIn w tv t → Calls Try.prog 11 #[sv,tv] w fun e w' => e = .returned (evolV (evolA s t)) ∧ Below w.heap.size w w'
abbrev FitsC : Prop := ∀ (s t : ScS) (sv tv : Value) (k1 k2 : Int) (n1 n2 : ByteArray) (w : World),SIn w sv s → SIn w tv t → Calls Try.prog 14 #[sv,tv,.agg #[.int .i64 k1,.string n1],.agg #[.int .i64 k2,.string n2]] w fun e w' => e = .returned (.bool (fitsY s t k1 n1 k2 n2)) ∧ Below w.heap.size w w'
theorem flat_inv {size : Nat} : ∀ (rs : List (List Value)),(∀ r ∈ rs,r.length = size) → ∀ (j : Nat) (u : Value),rs.flatten[j]? = some u → ∃ i c k,rs[i]? = some c ∧ c[k]? = some u ∧ j = i * size + k
 | [],_,j,u,h => by simp at h
 | x :: l,hl,j,u,h => by
  have hx := hl x (List.mem_cons_self ..)
  by_cases hj : j < x.length
  ·rw [List.flatten_cons,List.getElem?_append_left hj] at h;exact ⟨0,x,j,rfl,h,by simp⟩
  ·rw [List.flatten_cons,List.getElem?_append_right (by omega)] at h;obtain ⟨i,c,k,h1,h2,h3⟩ := flat_inv l (fun r hr => hl r (List.mem_cons_of_mem _ hr)) _ u h;exact ⟨i + 1,c,k,by simpa using h1,h2,by rw [Nat.add_mul]; omega⟩
theorem run_joinG {w : World} (t ty e : TypeId) (size bytes : Nat) (z : Value) (ht : Try.prog.underlying t = some (.slice e)) (hinfo : (Try.prog.info? e).map (fun i => (i.zero,i.size,i.bytes)) = some (some z,size,bytes)) (hzs : z.cells.size = size) (hsz : 0 < size)
  (base : Nat) (v : Value) (n : Nat) (xs : List Value) (hown : w.ownsRow base e size v n xs)
  (xv : Value) (rs : List (List Value)) (hr : RowG w xv size rs) (hl : ∀ r ∈ rs,r.length = size) (h1 : ∀ u ∈ rs.flatten,u.oneCell' = true) (hb : n + rs.length ≤ 1000000) (hby : bytes ≤ 1000) (hbase : base ≤ w.heap.size) :
  ∃ v' w',(Builtin.append_ #[t,t] ty #[v,xv]).run Try.prog w = .ok v' w' ∧ w'.ownsRow base e size v' (n + rs.length) (xs ++ rs.flatten) ∧ w.grownBy w' v.ownBlock := by
 obtain ⟨i0,hi,hz0,hz1,hz2⟩ := info_parts hinfo;obtain ⟨ao,cap,rfl,q1,q2,q0,q3⟩ := hr.form
 cases ao with
 | none =>
  have hrs : rs = [] := by
   cases rs with
   | nil => rfl
   | cons r l => obtain ⟨g,off,e,_⟩ := q3 (by simp); cases e
  subst hrs;have := q0 rfl;subst this;have hrun := run_append_owned_none (P := Try.prog) (w := w) base t ty e i0 size ht hi v n xs hown;refine ⟨v,w,hrun,?_,⟨rfl,rfl,rfl,Nat.le_refl _,fun _ _ _ => rfl⟩⟩;rw [List.flatten_nil,List.append_nil];exact hown
 | some ad =>
  obtain ⟨v',w',g0,g1,g2,_⟩ := run_append_own w base t ty e i0 z size bytes ht hi hz0 hz1 hz2 hzs hsz v _ _ hown ad rs.length cap rs.flatten (by rw [flat_len rs hl]) (fun j u hu => by
   obtain ⟨i,c,k,e1,e2,rfl⟩ := flat_inv rs hl j u hu;obtain ⟨g,off,e3,e4⟩ := q3 (by intro e; rw [e] at e1; simp at e1)
   cases e3
   have := e4 i c u k e1 e2;rw [Nat.add_assoc] at this;rw [Addr.add_lit]
   exact this) h1 (by unfold maxLen; omega) (Nat.le_trans (Nat.mul_le_mul hb hby) (by decide)) hbase
  exact ⟨v',w',g0,g1,g2⟩
theorem wpList_joinG {w : World} {ops : Array Oper} {rest : List Oper} {o : Oper} {a : Act} {Q : Exit → Act → World → Prop} (hgd : o.guard = none) (s x : Operand) (t e : TypeId) (size bytes : Nat) (z : Value)
  (ho : o.op = .call { callee := .builtin .append,args := #[s,x],argTypes := #[t,t] }) (ht : Try.prog.underlying t = some (.slice e)) (hinfo : (Try.prog.info? e).map (fun i => (i.zero,i.size,i.bytes)) = some (some z,size,bytes)) (hzs : z.cells.size = size) (hsz : 0 < size)
  (base : Nat) (v : Value) (n : Nat) (xs : List Value) (hs : a.eval s = v) (hown : w.ownsRow base e size v n xs)
  (xv : Value) (rs : List (List Value)) (hx : a.eval x = xv) (hr : RowG w xv size rs) (hl : ∀ r ∈ rs,r.length = size) (h1 : ∀ u ∈ rs.flatten,u.oneCell' = true) (hb : n + rs.length ≤ 1000000) (hby : bytes ≤ 1000) (hbase : base ≤ w.heap.size)
  (h : ∀ v' w',w'.ownsRow base e size v' (n + rs.length) (xs ++ rs.flatten) → w.grownBy w' v.ownBlock → wpList Try.prog ops Q rest (a.put o.dst v') w') : wpList Try.prog ops Q (o :: rest) a w := by
 obtain ⟨i0,hi,hz0,hz1,hz2⟩ := info_parts hinfo;obtain ⟨ao,cap,rfl,q1,q2,q0,q3⟩ := hr.form
 cases ao with
 | none =>
  have hrs : rs = [] := by
   cases rs with
   | nil => rfl
   | cons r l => obtain ⟨g,off,e,_⟩ := q3 (by simp); cases e
  subst hrs;have := q0 rfl;subst this;refine wpList_append_own_none hgd s x t ho base e i0 size ht hi v _ _ hs hown hx ?_;refine h v w ?_ ⟨rfl,rfl,rfl,Nat.le_refl _,fun _ _ _ => rfl⟩;rw [List.flatten_nil,List.append_nil];exact hown
 | some ad =>
  refine wpList_append_own w hgd s x t ho base e i0 z size bytes ht hi hz0 hz1 hz2 hzs hsz v _ _ hs hown ad rs.length cap rs.flatten hx (by rw [flat_len rs hl]) ?_ h1 (by unfold maxLen; omega) ?_ hbase ?_
  ·intro j u hu;obtain ⟨i,c,k,e1,e2,rfl⟩ := flat_inv rs hl j u hu;obtain ⟨g,off,e3,e4⟩ := q3 (by intro e; rw [e] at e1; simp at e1)
   cases e3
   have := e4 i c u k e1 e2;rw [Nat.add_assoc] at this;rw [Addr.add_lit];exact this
  ·exact Nat.le_trans (Nat.mul_le_mul hb hby) (by decide)
  ·intro v' w' g1 g2 _;exact h v' w' g1 g2
theorem infoFl : (Try.prog.info? 42).map (fun i => (i.zero,i.size,i.bytes)) = some (some (.agg #[.string ⟨#[]⟩,.int .i64 0,.int .i64 0,.int .i64 0,.string ⟨#[]⟩]),5,56) := by kernel_rfl
theorem infoIn : (Try.prog.info? 3).map (fun i => (i.zero,i.size,i.bytes)) = some (some (.int .i64 0),1,8) := by kernel_rfl
theorem infoNm : (Try.prog.info? 53).map (fun i => (i.zero,i.size,i.bytes)) = some (some (.agg #[.string ⟨#[]⟩,.int .i64 0]),2,24) := by kernel_rfl
theorem infoMs : (Try.prog.info? 40).map (fun i => (i.zero,i.size,i.bytes)) = some (some (.agg #[.string ⟨#[]⟩,.slice none 0 0,.slice none 0 0]),3,64) := by kernel_rfl
theorem infoEn : (Try.prog.info? 51).map (fun i => (i.zero,i.size,i.bytes)) = some (some (.agg #[.string ⟨#[]⟩,.slice none 0 0]),2,40) := by kernel_rfl
theorem infoMt : (Try.prog.info? 47).map (fun i => (i.zero,i.size,i.bytes)) = some (some (.agg #[.string ⟨#[]⟩,.string ⟨#[]⟩,.string ⟨#[]⟩]),3,48) := by kernel_rfl
theorem flr_len (fs : List FlS) : ∀ r ∈ flRows fs,r.length = 5 := fun r hr => by simp only [flRows,List.mem_map] at hr; obtain ⟨_,_,rfl⟩ := hr; rfl
theorem inr_len (fs : List Int) : ∀ r ∈ inRows fs,r.length = 1 := fun r hr => by simp only [inRows,List.mem_map] at hr; obtain ⟨_,_,rfl⟩ := hr; rfl
theorem nmr_len (fs : List NmS) : ∀ r ∈ nmRows fs,r.length = 2 := fun r hr => by simp only [nmRows,List.mem_map] at hr; obtain ⟨_,_,rfl⟩ := hr; rfl
theorem mtr_len (fs : List MtS) : ∀ r ∈ mtRows fs,r.length = 3 := fun r hr => by simp only [mtRows,List.mem_map] at hr; obtain ⟨_,_,rfl⟩ := hr; rfl
theorem flr_one (fs : List FlS) : ∀ u ∈ (flRows fs).flatten,u.oneCell' = true := by
 intro u hu;simp only [List.mem_flatten,flRows,List.mem_map] at hu;obtain ⟨l,⟨f,_,rfl⟩,hu⟩ := hu;simp only [FlS.cells,List.mem_cons,List.not_mem_nil,or_false] at hu
 rcases hu with rfl | rfl | rfl | rfl | rfl <;> rfl
theorem inr_one (fs : List Int) : ∀ u ∈ (inRows fs).flatten,u.oneCell' = true := by
 intro u hu;simp only [List.mem_flatten,inRows,List.mem_map] at hu;obtain ⟨l,⟨f,_,rfl⟩,hu⟩ := hu;simp only [List.mem_cons,List.not_mem_nil,or_false] at hu;subst hu; rfl
theorem nmr_one (fs : List NmS) : ∀ u ∈ (nmRows fs).flatten,u.oneCell' = true := by
 intro u hu;simp only [List.mem_flatten,nmRows,List.mem_map] at hu;obtain ⟨l,⟨f,_,rfl⟩,hu⟩ := hu;simp only [NmS.cells,List.mem_cons,List.not_mem_nil,or_false] at hu
 rcases hu with rfl | rfl <;> rfl
theorem mtr_one (fs : List MtS) : ∀ u ∈ (mtRows fs).flatten,u.oneCell' = true := by
 intro u hu;simp only [List.mem_flatten,mtRows,List.mem_map] at hu;obtain ⟨l,⟨f,_,rfl⟩,hu⟩ := hu;simp only [MtS.cells,List.mem_cons,List.not_mem_nil,or_false] at hu
 rcases hu with rfl | rfl | rfl <;> rfl
theorem own_rowF {w : World} {B n : Nat} {v : Value} {fs : List FlS} (h : w.ownsRow B 42 5 v n (flRows fs).flatten) : RowG w v 5 (flRows fs) := (RowG.own (flr_len fs) (by decide) h).1
theorem own_rowI {w : World} {B n : Nat} {v : Value} {fs : List Int} (h : w.ownsRow B 3 1 v n (inRows fs).flatten) : RowG w v 1 (inRows fs) := (RowG.own (inr_len fs) (by decide) h).1
theorem own_rowN {w : World} {B n : Nat} {v : Value} {fs : List NmS} (h : w.ownsRow B 53 2 v n (nmRows fs).flatten) : RowG w v 2 (nmRows fs) := (RowG.own (nmr_len fs) (by decide) h).1
theorem own_rowT {w : World} {B n : Nat} {v : Value} {fs : List MtS} (h : w.ownsRow B 47 3 v n (mtRows fs).flatten) : RowG w v 3 (mtRows fs) := (RowG.own (mtr_len fs) (by decide) h).1
end
section
open Go.ChangeShapes Go.WideShapes Go.ChangeAt Go.RowKit Go.Maps
def prV (p : Pr) : Value := .agg #[.string p.1,.string p.2]
def prC (p : Pr) : List Value := [.string p.1,.string p.2]
def prRows (l : List Pr) : List (List Value) := l.map prC
def nmV (p : NmS) : Value := .agg #[.string p.name,.int .i64 p.n]
def SetP (w : World) (b n : Nat) (L : List Pr) : Prop := SetK 63 w b n (L.map prV)
def SetN (w : World) (b n : Nat) (L : List NmS) : Prop := SetK 53 w b n (L.map nmV)
theorem lawP : Keyed Try.prog 63 := Keyed.of_law (deep_law_laid laidOutP (m := 3) (by omega) (of_decide_eq_true (by kernel_rfl)) (by kernel_rfl) (by kernel_rfl))
theorem lawN : Keyed Try.prog 53 := Keyed.of_law (deep_law_laid laidOutP (m := 3) (by omega) (of_decide_eq_true (by kernel_rfl)) (by kernel_rfl) (by kernel_rfl))
theorem keyTypeP : Try.prog.keyType 63 = true := by kernel_rfl
theorem keyTypeN : Try.prog.keyType 53 = true := by kernel_rfl
theorem cellsP : Try.prog.cellsOf 63 = 2 := by kernel_rfl
theorem cellsN : Try.prog.cellsOf 53 = 2 := by kernel_rfl
theorem lits_pr {m : Nat} {k s : ByteArray} (hk : k.size ≤ 140737488351232) (hs : s.size ≤ 140737488351232) : Try.prog.keyLits (m + 2) 63 [.string k,.string s] = some [.string k.data.toList,.string s.data.toList] := by
 unfold Program.keyLits;simp only [Try.underlying63,cellsP]
 simp [cellsS,lits_str hk,lits_str hs]
theorem lits_nm {m : Nat} {k : Int} {s : ByteArray} (hk : I64 k) (hs : s.size ≤ 140737488351232) : Try.prog.keyLits (m + 2) 53 [.string s,.int .i64 k] = some [.string s.data.toList,.int .i64 k] := by
 unfold Program.keyLits;simp only [Try.underlying53,cellsN]
 simp [cellsI,cellsS,lits_int hk,lits_str hs]
theorem key_pr {p : Pr} (hk : p.1.size ≤ 140737488351232) (hs : p.2.size ≤ 140737488351232) : ∃ kl,keyOf Try.prog 63 (prV p) = some kl := by
 obtain ⟨m,hm⟩ : ∃ m,Try.prog.types.size + 1 = m + 2 := ⟨Try.prog.types.size - 1,by have : 0 < Try.prog.types.size := of_decide_eq_true (by kernel_rfl); omega⟩
 have hf : (prV p).formed Try.prog 63 = true := by simp [prV,Value.formed,Try.underlying63,cellsP]
 unfold keyOf;rw [hm,show (prV p).cells.toList = [.string p.1,.string p.2] from rfl,lits_pr hk hs,keyTypeP,hf];simp only [Try.underlying63];exact ⟨_,rfl⟩
theorem key_nm {p : NmS} (h : NmW p) : ∃ kl,keyOf Try.prog 53 (nmV p) = some kl := by
 obtain ⟨m,hm⟩ : ∃ m,Try.prog.types.size + 1 = m + 2 := ⟨Try.prog.types.size - 1,by have : 0 < Try.prog.types.size := of_decide_eq_true (by kernel_rfl); omega⟩
 have hf : (nmV p).formed Try.prog 53 = true := by simp [nmV,Value.formed,Try.underlying53,cellsN]
 unfold keyOf;rw [hm,show (nmV p).cells.toList = [.string p.name,.int .i64 p.n] from rfl,lits_nm h.2 h.1,keyTypeN,hf];simp only [Try.underlying53];exact ⟨_,rfl⟩
theorem mem_pr {s : Pr} {L : List Pr} : prV s ∈ L.map prV ↔ s ∈ L := by
 simp only [List.mem_map,prV,Value.agg.injEq,Array.mk.injEq,List.cons.injEq,Value.string.injEq,true_and,and_true]
 constructor
 ·rintro ⟨⟨a,b⟩,h1,h2,h3⟩; obtain ⟨c,d⟩ := s; simp only at h2 h3; subst h2 h3; exact h1
 ·intro h; exact ⟨s,h,rfl,rfl⟩
theorem mem_nm {s : NmS} {L : List NmS} : nmV s ∈ L.map nmV ↔ inVs s L = true := by
 simp only [List.mem_map,nmV,Value.agg.injEq,Array.mk.injEq,List.cons.injEq,Value.string.injEq,Value.int.injEq,true_and,and_true,inVs,List.any_eq_true,decide_eq_true_eq]
 constructor
 ·rintro ⟨x,h1,h2,h3⟩; exact ⟨x,h1,h2.symm,h3.symm⟩
 ·rintro ⟨x,h1,h2,h3⟩; exact ⟨x,h1,h2.symm,h3.symm⟩
theorem has_pr {D : DataW Unit} {L : List Pr} {kl : Lit} {p : Pr} (h2 : ∀ v kl,keyOf Try.prog 63 v = some kl → (Maps.has D kl = true ↔ v ∈ L.map prV)) (hk : keyOf Try.prog 63 (prV p) = some kl) : Maps.has D kl = memP p L := by
 rw [Bool.eq_iff_iff,h2 _ _ hk,mem_pr,memP_iff]
theorem has_nm {D : DataW Unit} {L : List NmS} {kl : Lit} {p : NmS} (h2 : ∀ v kl,keyOf Try.prog 53 v = some kl → (Maps.has D kl = true ↔ v ∈ L.map nmV)) (hk : keyOf Try.prog 53 (nmV p) = some kl) : Maps.has D kl = inVs p L := by
 rw [Bool.eq_iff_iff,h2 _ _ hk,mem_nm]
theorem infoPr : (Try.prog.info? 63).map (fun i => (i.zero,i.size,i.bytes)) = some (some (.agg #[.string ⟨#[]⟩,.string ⟨#[]⟩]),2,32) := by kernel_rfl
theorem prr_len (l : List Pr) : ∀ r ∈ prRows l,r.length = 2 := fun r hr => by simp only [prRows,List.mem_map] at hr; obtain ⟨_,_,rfl⟩ := hr; rfl
theorem set_map {k : TypeId} {w : World} {b n : Nat} {L : List Value} (h : SetK k w b n L) {cs : Array Value} {t : TypeId} (hB : Blk w b cs t) : False := by
 obtain ⟨D,⟨es,c,h4,_⟩,_⟩ := h;have h3 := hB.symm.trans h4
 simp at h3
theorem results_noneE {fn : Func} (h : fn.results = #[]) (tmps : Array Value) (P : Program) (w : World) : (results fn tmps).run P w = .ok (.tuple #[]) w := by
 simp [results,h]
structure Meet (S1 S2 : List Value) (W0 w : World) (b mb : Nat) (vp : Value) (l : List Pr) : Prop where
 below : Below W0.heap.size W0 w
 b0 : W0.heap.size ≤ b
 m0 : W0.heap.size ≤ mb
 blk : Blk w b (S1 ++ S2 ++ [vp,.map (some mb)]).toArray 58
 row : w.ownsRow W0.heap.size 63 2 vp l.length (prRows l).flatten
 seen : SetP w mb l.length l
def MeB (b mb : Nat) (vp : Value) (q : Nat) : Prop := q = b ∨ q = mb ∨ vp.ownBlock = some q
section
variable {S1 S2 : List Value} {W0 w w1 : World} {b mb : Nat} {vp : Value} {l : List Pr}
theorem Meet.bel (h : Meet S1 S2 W0 w b mb vp l) (hb : Below w.heap.size w w1) : Meet S1 S2 W0 w1 b mb vp l :=
 ⟨h.below.trans (hb.mono h.below.size),h.b0,h.m0,h.blk.below hb,own_below h.row hb,SetK.below h.seen hb⟩
theorem Meet.form (h : Meet S1 S2 W0 w b mb vp l) : ∃ a c,vp = .slice a l.length c := own_form h.row
theorem own_blkE {B e s n : Nat} {v : Value} {xs : List Value} (h : w.ownsRow B e s v n xs) {g : Nat} (hg : v.ownBlock = some g) : ∃ cs,Blk w g cs e := by
 rcases h.2 with ⟨rfl,_⟩ | ⟨g',cap,cur,rfl,h1,h2,h3⟩
 ·cases hg
 ·cases hg
  exact ⟨_,h2⟩
theorem Meet.no (h : Meet S1 S2 W0 w b mb vp l) {g : Nat} {cs : Array Value} {t : TypeId} (hB : Blk w g cs t) (h1 : t ≠ 58) (h2 : t ≠ 63) : ¬ MeB b mb vp g := by
 rintro (rfl | rfl | e)
 ·have h3 := hB.symm.trans h.blk;simp only [Option.some.injEq,Obj.cells.injEq] at h3;exact h1 h3.2.1
 ·obtain ⟨D,⟨es,c,h4,_⟩,_⟩ := h.seen;have h3 := hB.symm.trans h4
  simp at h3
 ·obtain ⟨cs',h4⟩ := own_blkE h.row e;have h3 := hB.symm.trans h4;simp only [Option.some.injEq,Obj.cells.injEq] at h3;exact h2 h3.2.1
theorem Meet.own (h : Meet S1 S2 W0 w b mb vp l) (hk : Kp (MeB b mb vp) w w1) {B e s n : Nat} {v : Value} {xs : List Value} (hr : w.ownsRow B e s v n xs) (h1 : e ≠ 58) (h2 : e ≠ 63) : w1.ownsRow B e s v n xs :=
 own_kpV hr hk fun k e1 => by
  obtain ⟨cs,hB⟩ := own_blkE hr e1;exact h.no hB h1 h2
end
end
section
theorem set_comm2 {α : Type} (a : Array α) {i j : Nat} (h : i ≠ j) (x y : α) : (a.setIfInBounds i x).setIfInBounds j y = (a.setIfInBounds j y).setIfInBounds i x := by
 apply Array.ext_getElem?
 intro k;simp only [Array.getElem?_setIfInBounds,Array.size_setIfInBounds]
 by_cases h1 : i = k
 ·subst h1
  by_cases h2 : j = i
  ·exact absurd h2.symm h
  ·simp [h2]
 ·by_cases h2 : j = k <;> simp [h1,h2]
theorem rg_store {P : Program} {md : Region.Mode} {ops : Array Oper} {Q : Exit → Act → World → Prop} {S : World → Prop} {oi : Oper} {fuel : Nat} {listed listed' : Array Bool} {a : Act} {w : World} (i : Nat) (w' : World) (hi : ops[i]? = some oi) (hd : oi.dst = none)
  (hr : Region.ready md ops listed = [i]) (hwt : Region.wanted oi (yielded ops a.tmps) = true) (hl : listed.setIfInBounds i true = listed') (hx : (execOp a.eval oi).run P w = .ok .skip w') (hS : S w')
  (h : wpAnyH P md ops Q S fuel listed' a w') : wpAnyH P md ops Q S (fuel + 1) listed a w := by
 subst hl;refine wpAnyH_ready (rs := [i]) hr (by simp) (AllReadyH.cons hi (fun K hK => ?_) AllReadyH.nil);rw [if_pos hwt];unfold Oper.wp;rw [hx];refine hK.out _ _ hS (fun _ => ?_);rw [hd];exact h
theorem rg_llc {P : Program} {md : Region.Mode} {ops : Array Oper} {Q : Exit → Act → World → Prop} {fuel : Nat} {listed : Array Bool} {a : Act} {w : World} (i1 i4 j d1 d4 dj : Nat) {o1 o4 oj : Oper} (v1 v4 : Value) (f : Nat) (vals : Array Value) (LD : World → Prop)
  (h1 : ops[i1]? = some o1) (h4 : ops[i4]? = some o4) (hj : ops[j]? = some oj) (hd1 : o1.dst = some d1) (hd4 : o4.dst = some d4) (hdj : oj.dst = some dj)
  (hr0 : Region.ready md ops listed = [i1,i4]) (hr1 : Region.ready md ops (listed.setIfInBounds i1 true) = [j,i4]) (hr4 : Region.ready md ops (listed.setIfInBounds i4 true) = [i1])
  (hr14 : Region.ready md ops ((listed.setIfInBounds i1 true).setIfInBounds i4 true) = [j]) (hr1j : Region.ready md ops ((listed.setIfInBounds i1 true).setIfInBounds j true) = [i4])
  (hw1 : ∀ t,Region.wanted o1 t = true) (hw4 : ∀ t,Region.wanted o4 t = true) (hwj : ∀ t,Region.wanted oj t = true) (h14 : i1 ≠ i4) (hj4 : j ≠ i4) (d14 : d1 ≠ d4) (dj4 : dj ≠ d4)
  (hx1 : (execOp a.eval o1).run P w = .ok (.value v1) w) (hx1' : (execOp ({ a with tmps := a.tmps.setIfInBounds d4 v4 } : Act).eval o1).run P w = .ok (.value v1) w)
  (hx4 : (execOp a.eval o4).run P w = .ok (.value v4) w) (hx41 : (execOp ({ a with tmps := a.tmps.setIfInBounds d1 v1 } : Act).eval o4).run P w = .ok (.value v4) w)
  (hx4j : ∀ v W,LD W → (execOp ({ a with tmps := (a.tmps.setIfInBounds d1 v1).setIfInBounds dj v } : Act).eval o4).run P W = .ok (.value v4) W)
  (hxj : ∀ W,(execOp ({ a with tmps := a.tmps.setIfInBounds d1 v1 } : Act).eval oj).run P W = .ok (.enter f vals) W) (hxj' : ∀ W,(execOp ({ a with tmps := (a.tmps.setIfInBounds d1 v1).setIfInBounds d4 v4 } : Act).eval oj).run P W = .ok (.enter f vals) W)
  (h : Calls P f vals w fun e w' => ∃ v,e = .returned v ∧ LD w' ∧ wpAnyH P md ops Q (fun _ => True) fuel (((listed.setIfInBounds i1 true).setIfInBounds i4 true).setIfInBounds j true) { a with tmps := ((a.tmps.setIfInBounds d1 v1).setIfInBounds d4 v4).setIfInBounds dj v } w') :
  wpAnyH P md ops Q (fun _ => True) (fuel + 3) listed a w := by
 have main : wpAnyH P md ops Q (fun _ => True) (fuel + 1) ((listed.setIfInBounds i1 true).setIfInBounds i4 true) { a with tmps := (a.tmps.setIfInBounds d1 v1).setIfInBounds d4 v4 } w := by
  refine rg_call j dj f vals hj hdj hr14 (hwj _) rfl (fun W => hxj' W) ?_;refine h.mono ?_;rintro e w' ⟨v,rfl,_,h3⟩;exact ⟨v,rfl,trivial,h3⟩
 refine wpAnyH_ready (rs := [i1,i4]) hr0 (by simp) (AllReadyH.cons h1 (fun K hK => ?_) (AllReadyH.cons h4 (fun K hK => ?_) AllReadyH.nil))
 ·rw [if_pos (hw1 _)];unfold Oper.wp;rw [hx1];refine hK.out _ _ trivial (fun _ => ?_);rw [hd1];refine wpAnyH_ready (rs := [j,i4]) hr1 (by simp) (AllReadyH.cons hj (fun K hK => ?_) (AllReadyH.cons h4 (fun K hK => ?_) AllReadyH.nil))
  ·rw [if_pos (hwj _)];unfold Oper.wp;have hh : (execOp (Act.put a (some d1) v1).eval oj).run P w = .ok (.enter f vals) w := hxj w;rw [hh];refine Calls.mono h ?_;rintro e w' ⟨v,rfl,l1,h3⟩;refine hK.out _ _ trivial (fun _ => ?_);rw [hdj];refine rg_run i4 d4 v4 w' h4 hd4 hr1j (hw4 _) rfl ?_ trivial ?_
   ·exact hx4j v w' l1
   ·rw [set_comm2 _ hj4]
    show wpAnyH P md ops Q _ _ _ ({ a with tmps := ((a.tmps.setIfInBounds d1 v1).setIfInBounds dj v).setIfInBounds d4 v4 } : Act) w'
    rw [set_comm2 _ dj4];exact h3
  ·rw [if_pos (hw4 _)];unfold Oper.wp;have hh : (execOp (Act.put a (some d1) v1).eval o4).run P w = .ok (.value v4) w := hx41;rw [hh];refine hK.out _ _ trivial (fun _ => ?_);rw [hd4];exact main
 ·rw [if_pos (hw4 _)];unfold Oper.wp;rw [hx4];refine hK.out _ _ trivial (fun _ => ?_);rw [hd4];refine rg_run i1 d1 v1 w h1 hd1 hr4 (hw1 _) rfl ?_ trivial ?_
  ·exact hx1'
  ·rw [set_comm2 listed (Ne.symm h14)]
   show wpAnyH P md ops Q _ _ _ ({ a with tmps := (a.tmps.setIfInBounds d4 v4).setIfInBounds d1 v1 } : Act) w
   rw [set_comm2 a.tmps (Ne.symm d14)];exact main
def wpAnyM (P : Program) (md : Region.Mode) (ops : Array Oper) (Q : Exit → Act → World → Prop) (T : World → Prop) (m : Nat) : Nat → Array Bool → Act → World → Prop
 | 0,listed,a,w => Region.ready md ops listed = [] ∧ Q .normal a w
 | fuel + 1,listed,a,w => (Region.ready md ops listed = [] → Q .normal a w) ∧
  ∀ i ∈ Region.ready md ops listed,wpOp P ops Q i (fun a' w' => ((listed.setIfInBounds i true).getD m true = false → T w') ∧ wpAnyM P md ops Q T m fuel (listed.setIfInBounds i true) a' w') a w
section
variable {P : Program} {md : Region.Mode} {ops : Array Oper} {Q : Exit → Act → World → Prop} {T : World → Prop} {m : Nat}
theorem M_any : ∀ (fuel : Nat) (listed : Array Bool) (a : Act) (w : World),wpAnyM P md ops Q T m fuel listed a w → wpAny P md ops Q fuel listed a w
 | 0,_,_,_,h => h
 | fuel + 1,_,_,_,h => ⟨h.1,fun i hi => wpOp_mono (fun a' w' h' => M_any fuel _ a' w' h'.2) (h.2 i hi)⟩
theorem M_done {listed : Array Bool} {a : Act} {w : World} (hr : Region.ready md ops listed = []) (h : Q .normal a w) : ∀ fuel,wpAnyM P md ops Q T m fuel listed a w
 | 0 => ⟨hr,h⟩
 | _ + 1 => ⟨fun _ => h,by rw [hr]; simp⟩
theorem M_region {id : Nat} {a : Act} {w : World} (hm : P.follows .mixedOrders = true) (h : wpAnyM P .any ops Q T m ops.size (Array.replicate ops.size false) a w.drew) : (Code.region id ops true).wp P Q a w :=
 wp_region_any hm (M_any _ _ _ _ h)
theorem M_first {i : Nat} {oi : Oper} {v : Value} (hi : ops[i]? = some oi) (hsel : ∀ (j : Nat) (o : Oper) cs b,ops[j]? = some o → o.op ≠ .select cs b)
  (hQ : ∀ c a w,Q (.panic c) (a.put oi.dst v) w → Q (.panic c) a w) (hmi : ∀ om,ops[m]? = some om → ∃ e ∈ om.after,Region.binds md e = true ∧ e.on = i) :
  ∀ (fuel : Nat) (listed : Array Bool) (a : Act) (w : World),listed.getD m true = false →
   (∀ j oj,ops[j]? = some oj → j ≠ i → listed.getD j true = false → (∀ e ∈ oj.after,Region.binds md e = true → e.on ≠ i) → oi.apart ops oj = true) →
   i ∈ Region.ready md ops listed → YieldsIf P ops T oi v a → T w →
   wpAnyM P md ops Q T m fuel (listed.setIfInBounds i true) (a.put oi.dst v) w → wpAnyM P md ops Q T m (fuel + 1) listed a w := by
 intro fuel
 induction fuel with
 | zero =>
  intro listed a w hlm _ hr hy hT H;refine ⟨fun h => (by rw [h] at hr; cases hr),fun j hj => ?_⟩
  by_cases hji : j = i
  ·subst hji; exact hy.wpOp hi hT ⟨fun _ => hT,H⟩
  ·have h0 := ready_mono hj hji;rw [H.1] at h0
   cases h0
 | succ fuel ih =>
  intro listed a w hlm hfree hr hy hT H;refine ⟨fun h => (by rw [h] at hr; cases hr),fun j hj => ?_⟩
  by_cases hji : j = i
  ·subst hji; exact hy.wpOp hi hT ⟨fun _ => hT,H⟩
  ·have hH := H.2 j (ready_mono hj hji);obtain ⟨hjun,oj,hoj,hall⟩ := mem_ready.1 hj
   have hjm : j ≠ m := by
    intro e;subst e;obtain ⟨e,he,hb,hon⟩ := hmi oj hoj;have hx := hall e he hb;have h0 := (mem_ready.1 hr).1;rw [hon] at hx
    rcases Nat.lt_or_ge i listed.size with h' | h'
    ·simp [h'] at h0 hx; rw [h0] at hx; cases hx
    ·simp [Array.getElem?_eq_none h'] at hx
   have hnot : ∀ e ∈ oj.after,Region.binds md e = true → e.on ≠ i := fun e he hb heq => by
    have hx := hall e he hb;have h0 := (mem_ready.1 hr).1;rw [heq] at hx
    rcases Nat.lt_or_ge i listed.size with h' | h'
    ·simp [h'] at h0 hx; rw [h0] at hx; cases hx
    ·simp [Array.getElem?_eq_none h'] at hx
   have h2 := wpOp_putIf hoj (hfree j oj hoj hji hjun hnot) (fun cs b => hsel i oi cs b hi) (fun cs b => hsel j oj cs b hoj) hQ hy hH
   have hlj : (listed.setIfInBounds j true).getD m true = false := by rw [getD_set_ne true hjm]; exact hlm
   have him : i ≠ m := by
    intro e;subst e;obtain ⟨e,he,hb,hon⟩ := hmi oi hi;obtain ⟨h0,oi',hoi',hall'⟩ := mem_ready.1 hr;rw [hi] at hoi'
    cases hoi'
    have hx := hall' e he hb;rw [hon] at hx
    rcases Nat.lt_or_ge i listed.size with h' | h'
    ·simp [h'] at h0 hx; rw [h0] at hx; cases hx
    ·simp [Array.getElem?_eq_none h'] at hx
   have hlij : ((listed.setIfInBounds i true).setIfInBounds j true).getD m true = false := by rw [getD_set_ne true hjm,getD_set_ne true him]; exact hlm
   have hfree' : ∀ k ok,ops[k]? = some ok → k ≠ i → (listed.setIfInBounds j true).getD k true = false → (∀ e ∈ ok.after,Region.binds md e = true → e.on ≠ i) → oi.apart ops ok = true := fun k ok hk hki hun hno => by
    refine hfree k ok hk hki ?_ hno
    by_cases hjk : j = k
    ·subst hjk; exact hjun
    ·rw [getD_set_ne true hjk] at hun; exact hun
   refine wpOp_mono (fun a' w' h3 => ⟨fun _ => h3.2.1 hlij,ih (listed.setIfInBounds j true) a' w' hlj hfree' (ready_mono hr (Ne.symm hji)) h3.1 (h3.2.1 hlij) ?_⟩) h2;rw [Array.setIfInBounds_comm _ _ hji];exact h3.2.2
theorem M_take {oi : Oper} {fuel : Nat} {listed listed' : Array Bool} {a : Act} {w : World} (i d : Nat) (v : Value) (tmps' : Array Value) (hi : ops[i]? = some oi) (hd : oi.dst = some d)
  (hs : Region.noSelect ops = true) (hf : Region.free md ops listed i = true) (hr : (Region.ready md ops listed).contains i = true) (hmi : ((ops[m]?).any fun om => om.after.any fun e => Region.binds md e && e.on == i) = true) (hlm : listed.getD m true = false)
  (hQ : ∀ c a w,Q (.panic c) (a.put oi.dst v) w → Q (.panic c) a w) (hwt : Region.wanted oi (yielded ops a.tmps) = true) (hy : ∀ w,T w → (execOp a.eval oi).run P w = .ok (.value v) w) (hT : T w)
  (hl : listed.setIfInBounds i true = listed') (ht : a.tmps.setIfInBounds d v = tmps')
  (h : wpAnyM P md ops Q T m fuel listed' { a with tmps := tmps' } w) : wpAnyM P md ops Q T m (fuel + 1) listed a w := by
 subst hl ht;refine M_first hi (Region.noSelect_spec hs) hQ ?_ fuel listed a w hlm (Region.free_spec hi hf) (by simpa using hr) (.inl ⟨hwt,hy⟩) hT ?_
 ·intro om hom;rw [hom] at hmi;simp only [Option.any_some,Array.any_eq_true] at hmi;obtain ⟨k,hk,hb⟩ := hmi;simp only [Bool.and_eq_true,beq_iff_eq] at hb;exact ⟨_,Array.getElem_mem hk,hb.1,hb.2⟩
 ·rw [hd];exact h
theorem M_run {oi : Oper} {fuel : Nat} {listed listed' : Array Bool} {a : Act} {w : World} (i d : Nat) (v : Value) (w' : World) (hi : ops[i]? = some oi) (hd : oi.dst = some d)
  (hr : Region.ready md ops listed = [i]) (hwt : Region.wanted oi (yielded ops a.tmps) = true) (hl : listed.setIfInBounds i true = listed') (hx : (execOp a.eval oi).run P w = .ok (.value v) w') (hT : T w')
  (h : wpAnyM P md ops Q T m fuel listed' { a with tmps := a.tmps.setIfInBounds d v } w') : wpAnyM P md ops Q T m (fuel + 1) listed a w := by
 subst hl;refine ⟨fun h0 => (by rw [hr] at h0; cases h0),fun j hj => ?_⟩;rw [hr,List.mem_singleton] at hj;subst hj;unfold wpOp;simp only [hi];rw [if_pos hwt];refine .inl ?_;unfold Oper.wp;rw [hx,Oper.upon_value,hd];exact ⟨fun _ => hT,h⟩
theorem M_store {oi : Oper} {fuel : Nat} {listed listed' : Array Bool} {a : Act} {w : World} (i : Nat) (w' : World) (hi : ops[i]? = some oi) (hd : oi.dst = none)
  (hr : Region.ready md ops listed = [i]) (hwt : Region.wanted oi (yielded ops a.tmps) = true) (hl : listed.setIfInBounds i true = listed') (hx : (execOp a.eval oi).run P w = .ok .skip w') (hm : listed'.getD m true = true)
  (h : wpAnyM P md ops Q T m fuel listed' a w') : wpAnyM P md ops Q T m (fuel + 1) listed a w := by
 subst hl;refine ⟨fun h0 => (by rw [hr] at h0; cases h0),fun j hj => ?_⟩;rw [hr,List.mem_singleton] at hj;subst hj;unfold wpOp;simp only [hi];rw [if_pos hwt];refine .inl ?_;unfold Oper.wp;rw [hx,Oper.upon_skip,hd];exact ⟨fun h0 => (by rw [hm] at h0; cases h0),h⟩
theorem M_call {oi : Oper} {fuel : Nat} {listed listed' : Array Bool} {a : Act} {w : World} (i d f : Nat) (vals : Array Value) (hi : ops[i]? = some oi) (hd : oi.dst = some d)
  (hr : Region.ready md ops listed = [i]) (hwt : Region.wanted oi (yielded ops a.tmps) = true) (hl : listed.setIfInBounds i true = listed') (hx : ∀ w,(execOp a.eval oi).run P w = .ok (.enter f vals) w)
  (h : Calls P f vals w fun e w' => ∃ v,e = .returned v ∧ T w' ∧ wpAnyM P md ops Q T m fuel listed' { a with tmps := a.tmps.setIfInBounds d v } w') : wpAnyM P md ops Q T m (fuel + 1) listed a w := by
 subst hl;refine ⟨fun h0 => (by rw [hr] at h0; cases h0),fun j hj => ?_⟩;rw [hr,List.mem_singleton] at hj;subst hj;unfold wpOp;simp only [hi];rw [if_pos hwt];refine .inl ?_;unfold Oper.wp;rw [hx];refine Calls.mono h ?_;rintro e w' ⟨v,rfl,hT,h'⟩;rw [hd];exact ⟨fun _ => hT,h'⟩
theorem M_aa {o1 o2 ok : Oper} {fuel : Nat} {listed : Array Bool} {a : Act} {w : World} (i j k d1 d2 dk : Nat) (z : World → Value) (N : World → World) (f : Value → Value) (U : Value → Prop) (C : Value → Value → World → Prop)
  (h1 : ops[i]? = some o1) (h2 : ops[j]? = some o2) (hk : ops[k]? = some ok) (hd1 : o1.dst = some d1) (hd2 : o2.dst = some d2) (hdk : ok.dst = some dk) (hij : i ≠ j) (hjk : j ≠ k) (d12 : d1 ≠ d2) (d2k : d2 ≠ dk)
  (hr : Region.ready md ops listed = [i,j]) (hri : (Region.ready md ops (listed.setIfInBounds i true)).contains k = true) (hrik : Region.ready md ops ((listed.setIfInBounds i true).setIfInBounds k true) = [j])
  (hrj : Region.ready md ops (listed.setIfInBounds j true) = [i]) (hrji : Region.ready md ops ((listed.setIfInBounds j true).setIfInBounds i true) = [k])
  (hw1 : ∀ t,Region.wanted o1 t = true) (hw2 : ∀ t,Region.wanted o2 t = true) (hwk : ∀ t,Region.wanted ok t = true)
  (hs : Region.noSelect ops = true) (hfk : Region.free md ops (listed.setIfInBounds i true) k = true) (hmk : ((ops[m]?).any fun om => om.after.any fun e => Region.binds md e && e.on == k) = true) (hlm : (listed.setIfInBounds i true).getD m true = false)
  (hQ : ∀ v c a w,Q (.panic c) (a.put ok.dst v) w → Q (.panic c) a w)
  (hx2 : ∀ (a' : Act) w',(execOp a'.eval o2).run P w' = .ok (.value (z w')) (N w'))
  (hA : ∃ u w1,(execOp a.eval o1).run P w = .ok (.value u) w1 ∧ U u ∧ T w1 ∧ T (N w1) ∧ C u (z w1) (N w1))
  (hB : T (N w) ∧ ∃ u w1,(execOp (a.put (some d2) (z w)).eval o1).run P (N w) = .ok (.value u) w1 ∧ U u ∧ T w1 ∧ C u (z w) w1)
  (hxk : ∀ u w',U u → (execOp (a.put (some d1) u).eval ok).run P w' = .ok (.value (f u)) w') (hxk' : ∀ u v w',U u → (execOp ((a.put (some d2) v).put (some d1) u).eval ok).run P w' = .ok (.value (f u)) w')
  (h : ∀ u v w',U u → T w' → C u v w' → wpAnyM P md ops Q T m fuel (((listed.setIfInBounds i true).setIfInBounds k true).setIfInBounds j true) { a with tmps := ((a.tmps.setIfInBounds d1 u).setIfInBounds dk (f u)).setIfInBounds d2 v } w') : wpAnyM P md ops Q T m (fuel + 3) listed a w := by
 refine ⟨fun h0 => (by rw [hr] at h0; cases h0),fun q hq => ?_⟩;rw [hr] at hq;simp only [List.mem_cons,List.not_mem_nil,or_false] at hq
 rcases hq with rfl | rfl
 ·obtain ⟨u,w1,e1,uu,t1,t2,c1⟩ := hA;unfold wpOp;simp only [h1];rw [if_pos (hw1 _)];refine .inl ?_;unfold Oper.wp;rw [e1,Oper.upon_value,hd1];refine ⟨fun _ => t1,?_⟩;refine M_take k dk (f u) _ hk hdk hs hfk hri hmk hlm (fun c a w => hQ _ c a w) (hwk _) (fun w' _ => hxk u w' uu) t1 rfl rfl ?_;exact M_run j d2 (z w1) (N w1) h2 hd2 hrik (hw2 _) rfl (hx2 _ w1) t2 (h u (z w1) (N w1) uu t2 c1)
 ·obtain ⟨t0,u,w1,e1,uu,t1,c1⟩ := hB;unfold wpOp;simp only [h2];rw [if_pos (hw2 _)];refine .inl ?_;unfold Oper.wp;rw [hx2,Oper.upon_value,hd2];refine ⟨fun _ => t0,?_⟩;refine M_run i d1 u w1 h1 hd1 hrj (hw1 _) rfl e1 t1 ?_;refine M_run k dk (f u) w1 hk hdk hrji (hwk _) rfl (hxk' u (z w) w1 uu) t1 ?_;have hh := h u (z w) w1 uu t1 c1;rw [Array.setIfInBounds_comm (xs := listed.setIfInBounds i true) _ _ (Ne.symm hjk),Array.setIfInBounds_comm (xs := listed) _ _ hij,set_comm2 (a.tmps.setIfInBounds d1 u) (Ne.symm d2k),set_comm2 a.tmps d12] at hh;exact hh
end
section
variable {P : Program} {md : Region.Mode} {ops : Array Oper} {Q : Exit → Act → World → Prop} {T : World → Prop} {m : Nat}
theorem M_runA {oi : Oper} {fuel : Nat} {listed listed' : Array Bool} {a : Act} {w : World} (i d : Nat) (v : Value) (w' : World) (hi : ops[i]? = some oi) (hd : oi.dst = some d)
  (hr : Region.ready md ops listed = [i]) (hwt : Region.wanted oi (yielded ops a.tmps) = true) (hl : listed.setIfInBounds i true = listed') (hx : (execOp a.eval oi).run P w = .ok (.value v) w') (hm : listed'.getD m true = true)
  (h : wpAnyM P md ops Q T m fuel listed' { a with tmps := a.tmps.setIfInBounds d v } w') : wpAnyM P md ops Q T m (fuel + 1) listed a w := by
 subst hl;refine ⟨fun h0 => (by rw [hr] at h0; cases h0),fun j hj => ?_⟩;rw [hr,List.mem_singleton] at hj;subst hj;unfold wpOp;simp only [hi];rw [if_pos hwt];refine .inl ?_;unfold Oper.wp;rw [hx,Oper.upon_value,hd];exact ⟨fun h0 => (by rw [hm] at h0; cases h0),h⟩
theorem M_storeT {oi : Oper} {fuel : Nat} {listed listed' : Array Bool} {a : Act} {w : World} (i : Nat) (w' : World) (hi : ops[i]? = some oi) (hd : oi.dst = none)
  (hr : Region.ready md ops listed = [i]) (hwt : Region.wanted oi (yielded ops a.tmps) = true) (hl : listed.setIfInBounds i true = listed') (hx : (execOp a.eval oi).run P w = .ok .skip w') (hT : T w')
  (h : wpAnyM P md ops Q T m fuel listed' a w') : wpAnyM P md ops Q T m (fuel + 1) listed a w := by
 subst hl;refine ⟨fun h0 => (by rw [hr] at h0; cases h0),fun j hj => ?_⟩;rw [hr,List.mem_singleton] at hj;subst hj;unfold wpOp;simp only [hi];rw [if_pos hwt];refine .inl ?_;unfold Oper.wp;rw [hx,Oper.upon_skip,hd];exact ⟨fun _ => hT,h⟩
end
end
section
open Go.ChangeShapes Go.WideShapes Go.ChangeAt Go.RowKit
abbrev Pl : Type := Option Addr × Nat
section
variable {T MT : TypeId} {w : World} {k : Value}
variable {E : TypeId} {L : List Value} {b : Nat}
end
section
variable {T MT : TypeId} {w : World} {k : Value}
variable {E : TypeId} {L : List (Value × Value)} {b : Nat}
end
section
variable {T MT : TypeId} {k : Value}
variable {E : TypeId} {L : List (Value × Value)} {b : Nat} {w : World}
end
theorem lookup_run {MT : TypeId} {b : Nat} {k v : Value} {a : Act} {w : World} {o : Oper} {m x : Operand} (hop : o.op = Op.lookup MT m x true) (hmm : a.eval m = .map (some b)) (hx : a.eval x = k) (hr : (Instr.lookup MT (.map (some b)) k true).run Try.prog w = .ok v w) : (execOp a.eval o).run Try.prog w = .ok (.value v) w := by
 simp [execOp,hop,hmm,hx,hr,Result.andThen]
theorem update_run {MT : TypeId} {b : Nat} {k v : Value} {a : Act} {w w' : World} {o : Oper} {m x y : Operand} (hop : o.op = Op.mapUpdate MT m x y) (hmm : a.eval m = .map (some b)) (hx : a.eval x = k) (hy : a.eval y = v) (hr : (Instr.mapUpdate MT (.map (some b)) k v).run Try.prog w = .ok () w') : (execOp a.eval o).run Try.prog w = .ok .skip w' := by
 simp [execOp,hop,hmm,hx,hy,hr,Result.andThen]
theorem wpList_ran {ops : Array Oper} {rest : List Oper} {o : Oper} {a : Act} {w w' : World} {v : Value} {Q : Exit → Act → World → Prop} (hgd : o.guard = none) (hr : (execOp a.eval o).run Try.prog w = .ok (.value v) w') (h : wpList Try.prog ops Q rest (a.put o.dst v) w') : wpList Try.prog ops Q (o :: rest) a w :=
 wpList_plain hgd fun _ hK => by
  unfold Oper.wp;rw [hr,Oper.upon_value];exact hK _ _ h
theorem RowG.blk {w : World} {b : Nat} {cs : Array Value} {t : TypeId} {size n : Nat} {rs : List (List Value)} (h : Blk w b cs t) (hc : cs.toList = rs.flatten) (hl : ∀ r ∈ rs,r.length = size) (hn : rs.length = n) (hm : n ≤ 1000000) : RowG w (.slice (some ⟨b,0,none⟩) n n) size rs := by
 subst hn;refine ⟨some ⟨b,0,none⟩,rs.length,rfl,Nat.le_refl _,by unfold maxLen; omega,(fun e => by cases e),fun _ => ⟨b,0,rfl,fun i c u j hi hj => ?_⟩⟩;rw [h.cell,← Array.getElem?_toList,hc,Nat.zero_add];exact flat_get rs hl i c hi j u hj
end
section
open Go.ChangeShapes Go.WideShapes Go.ChangeAt Go.RowKit Go.Maps
theorem look_pr {w : World} {mb n : Nat} {l : List Pr} (h : SetP w mb n l) (p : Pr) (h1 : p.1.size ≤ 140737488351232) (h2 : p.2.size ≤ 140737488351232) : (Instr.lookup 55 (.map (some mb)) (.agg #[.string p.1,.string p.2]) true).run Try.prog w = .ok (.tuple #[.agg #[],.bool (memP p l)]) w := by
 obtain ⟨D,hown,h3⟩ := h;obtain ⟨kl,hkey⟩ := key_pr (p := p) h1 h2;obtain ⟨v,ps,hrun,hv⟩ := hown.look_ok lawP Try.underlying55 (zeroU w) (zd := .agg []) (zp := []) unitElem_mk hkey;obtain ⟨rfl,_⟩ := unitElem_inv hv;rw [has_pr h3 hkey] at hrun;exact hrun
theorem upd_pr {w : World} {mb n : Nat} {l : List Pr} (h : SetP w mb n l) (p : Pr) (h1 : p.1.size ≤ 140737488351232) (h2 : p.2.size ≤ 140737488351232) (hn : n ≤ 100000) : ∃ w',(Instr.mapUpdate 55 (.map (some mb)) (.agg #[.string p.1,.string p.2]) (.agg #[])).run Try.prog w = .ok () w' ∧ SetP w' mb (n + 1) (l ++ [p]) ∧ Kp (fun q => q = mb) w w' := by
 obtain ⟨D,hown,h3⟩ := h;obtain ⟨kl,hkey⟩ := key_pr (p := p) h1 h2;obtain ⟨w',hrun,hown1,hg⟩ := hown.update lawP Try.underlying55 (by unfold maxLen; omega) (val := .agg #[]) hkey unitElem_mk;refine ⟨w',hrun,?_,(Kp.refl _ _).grown hg fun k hk _ => by cases hk; rfl⟩;have := SetK.put lawP hown.isMap h3 hkey hown1;unfold SetP;rw [List.map_append];exact this
def MAddP (S1 S2 : List Value) (W0 : World) (b mb : Nat) (vp : Value) (l : List Pr) (w : World) (e : Ending) (w' : World) : Prop := e = .returned (.tuple #[]) ∧ ∃ vp',Meet S1 S2 W0 w' b mb vp' l ∧ Kp (MeB b mb vp) w w'
theorem madd_any {x0 x1 x2 x3 y0 y1 y2 y3 : Value} {W0 w : World} {b mb : Nat} {vp : Value} {l : List Pr} (h : Meet [x0,x1,x2,x3] [y0,y1,y2,y3] W0 w b mb vp l) (p : Pr) (h1 : p.1.size ≤ 140737488351232) (h2 : p.2.size ≤ 140737488351232) (hl : l.length ≤ 1000) :
  Calls Try.prog 20 #[.pointer (some ⟨b,0,none⟩),.agg #[.string p.1,.string p.2]] w (MAddP [x0,x1,x2,x3] [y0,y1,y2,y3] W0 b mb vp (addP l p) w) := by
 obtain ⟨pa,pc,rfl⟩ := h.form;have hlk : ∀ W,Below w.heap.size w W → (Instr.lookup 55 (.map (some mb)) (.agg #[.string p.1,.string p.2]) true).run Try.prog W = .ok (.tuple #[.agg #[],.bool (memP p l)]) W := fun W hW => look_pr (SetK.below h.seen hW) p h1 h2
 have BS := Blk.new w #[.string p.1,.string p.2] 63;have hal : Below w.heap.size w (w.alloc (.cells #[.string p.1,.string p.2] 63)) := (Below.refl _ _).alloc (Nat.le_refl _) _;have hM := h.bel hal;have HP : Hid ((memP p l = true → addP l p = l) ∧ (memP p l = false → addP l p = l ++ [p])) := ⟨fun e => by unfold addP; rw [if_pos e],fun e => by unfold addP; rw [if_neg (by simp [e])]⟩;have H1 : Hid (p.1.size ≤ 140737488351232 ∧ p.2.size ≤ 140737488351232) := ⟨h1,h2⟩;have HUP : Hid (∀ W,SetP W mb l.length l → ∃ w',(Instr.mapUpdate 55 (.map (some mb)) (.agg #[.string p.1,.string p.2]) (.agg #[])).run Try.prog W = .ok () w' ∧ SetP w' mb (l.length + 1) (l ++ [p]) ∧ Kp (fun q => q = mb) W w') := fun W hW => upd_pr hW p h1 h2 (by omega)
 have HPC : Hid (prC p = [.string p.1,.string p.2]) := rfl;obtain ⟨R,hR⟩ : ∃ z,memP p l = z := ⟨_,rfl⟩;rw [hR] at hlk HP;have HLK : Hid (∀ W,Below w.heap.size w W → (Instr.lookup 55 (.map (some mb)) (.agg #[.string p.1,.string p.2]) true).run Try.prog W = .ok (.tuple #[.agg #[],.bool R]) W) := hlk;obtain ⟨K,hK⟩ : ∃ z,l.length = z := ⟨_,rfl⟩;have HK : Hid (l.length = K) := hK;rw [hK] at hM hl h HUP;obtain ⟨p1,hp1⟩ : ∃ z,p.1 = z := ⟨_,rfl⟩;obtain ⟨p2,hp2⟩ : ∃ z,p.2 = z := ⟨_,rfl⟩;rw [hp1,hp2] at BS hal hM HLK HUP H1 HPC;rw [hp1,hp2,hK];have HM : Hid (Meet [x0,x1,x2,x3] [y0,y1,y2,y3] W0 (w.alloc (.cells #[.string p1,.string p2] 63)) b mb (.slice pa K pc) l) := hM;have HB0 : Hid (Below w.heap.size w (w.alloc (.cells #[.string p1,.string p2] 63))) := hal;have BB : Blk (w.alloc (.cells #[.string p1,.string p2] 63)) b #[x0,x1,x2,x3,y0,y1,y2,y3,.slice pa K pc,.map (some mb)] 58 := hM.blk;have HBL : Hid (b < w.heap.size) := h.blk.lt;have HSL : Hid (∀ q,(Value.slice pa K pc).ownBlock = some q → q < w.heap.size) := fun q e => (h.row.lt q e).2
 clear hlk hM hR hK hp1 hp2 h1 h2 hal h
 go_enter Try.func20,Try.ntmps20
 go_upto_region 1 with fail
 generalize hU : w.alloc (Obj.cells #[.string p1,.string p2] 63) = U at *;obtain ⟨s,hs⟩ : ∃ z,w.heap.size = z := ⟨_,rfl⟩;have HSZ : Hid (w.heap.size = s) := hs;rw [hs] at BS HSL;simp only [hs];have HUW : Hid (∀ W,Below U.heap.size U W → Below w.heap.size w W) := fun W hW => HB0.out.trans (hW.mono HB0.out.size)
 clear hU hs;refine M_region (T := fun W => Below U.heap.size U W) (m := 11) (by kernel_rfl) ?_;have hS : Below U.heap.size U U.drew := (Below.refl _ _).drew;refine M_take 0 7 (.pointer (some ⟨b,0,none⟩)) _ rfl rfl (by kernel_rfl) (by kernel_rfl) (by kernel_rfl) (by kernel_rfl) (by kernel_rfl) (fun _ _ _ h => h) (by rfl) (fun w' hw' => ?_) hS (listed' := bts 12 1) (by kernel_rfl) rfl ?_
 ·go_simp
 simp only [zsA,zsZ,zsS];refine M_take 1 8 (.pointer (some ⟨b,0,none⟩)) _ rfl rfl (by kernel_rfl) (by kernel_rfl) (by kernel_rfl) (by kernel_rfl) (by kernel_rfl) (fun _ _ _ h => h) (by rfl) (fun w' hw' => ?_) hS (listed' := bts 12 3) (by kernel_rfl) rfl ?_
 ·go_simp
 simp only [zsA,zsZ,zsS];refine M_take 2 9 (.pointer (some ⟨b,9,none⟩)) _ rfl rfl (by kernel_rfl) (by kernel_rfl) (by kernel_rfl) (by kernel_rfl) (by kernel_rfl) (fun _ _ _ h => h) (by rfl) (fun w' hw' => ?_) hS (listed' := bts 12 7) (by kernel_rfl) rfl ?_
 ·go_simp
 simp only [zsA,zsZ,zsS];refine M_take 3 10 (.map (some mb)) _ rfl rfl (by kernel_rfl) (by kernel_rfl) (by kernel_rfl) (by kernel_rfl) (by kernel_rfl) (fun _ _ _ h => h) (by rfl) (fun w' hw' => ?_) hS (listed' := bts 12 15) (by kernel_rfl) rfl ?_
 ·have f0 := ((BB.below hw').cell 9).trans rfl; go_simp
 simp only [zsA,zsZ,zsS];refine M_take 4 11 (.agg #[.string p1,.string p2]) _ rfl rfl (by kernel_rfl) (by kernel_rfl) (by kernel_rfl) (by kernel_rfl) (by kernel_rfl) (fun _ _ _ h => h) (by rfl) (fun w' hw' => ?_) hS (listed' := bts 12 31) (by kernel_rfl) rfl ?_
 ·have f0 := ((BS.below hw').cell 0).trans rfl; have f1 := ((BS.below hw').cell 1).trans rfl; go_simp
 simp only [zsA,zsZ,zsS];refine M_take 5 12 (.tuple #[.agg #[],.bool R]) _ rfl rfl (by kernel_rfl) (by kernel_rfl) (by kernel_rfl) (by kernel_rfl) (by kernel_rfl) (fun _ _ _ h => h) (by rfl) (fun w' hw' => ?_) hS (listed' := bts 12 63) (by kernel_rfl) rfl ?_
 ·exact lookup_run rfl rfl rfl (HLK.out _ (HUW.out _ hw'))
 simp only [zsA,zsZ,zsS];refine M_take 6 6 (.tuple #[.agg #[],.bool R]) _ rfl rfl (by kernel_rfl) (by kernel_rfl) (by kernel_rfl) (by kernel_rfl) (by kernel_rfl) (fun _ _ _ h => h) (by rfl) (fun w' hw' => ?_) hS (listed' := bts 12 127) (by kernel_rfl) rfl ?_
 ·go_simp
 simp only [zsA,zsZ,zsS];refine M_take 7 13 (.agg #[]) _ rfl rfl (by kernel_rfl) (by kernel_rfl) (by kernel_rfl) (by kernel_rfl) (by kernel_rfl) (fun _ _ _ h => h) (by rfl) (fun w' hw' => ?_) hS (listed' := bts 12 255) (by kernel_rfl) rfl ?_
 ·go_simp
 simp only [zsA,zsZ,zsS];refine M_take 8 14 (.bool R) _ rfl rfl (by kernel_rfl) (by kernel_rfl) (by kernel_rfl) (by kernel_rfl) (by kernel_rfl) (fun _ _ _ h => h) (by rfl) (fun w' hw' => ?_) hS (listed' := bts 12 511) (by kernel_rfl) rfl ?_
 ·go_simp
 simp only [zsA,zsZ,zsS];have hdz : U.drew.heap.size = U.heap.size := rfl;refine M_run 9 4 (.pointer (some ⟨U.heap.size,0,none⟩)) (U.drew.alloc (Obj.cells #[] 89)) rfl rfl (by kernel_rfl) (by rfl) (listed' := bts 12 1023) (by kernel_rfl) (by go_simp) (hS.alloc (Nat.le_refl _) _) ?_;simp only [zsA,zsZ,zsS];refine M_storeT 10 (U.drew.alloc (Obj.cells #[] 89)) rfl rfl (by kernel_rfl) (by rfl) (listed' := bts 12 2047) (by kernel_rfl) (by go_simp) (hS.alloc (Nat.le_refl _) _) ?_;refine M_runA 11 5 (.bool R) (U.drew.alloc (Obj.cells #[] 89)) rfl rfl (by kernel_rfl) (by rfl) (listed' := bts 12 4095) (by kernel_rfl) (by go_simp) (by kernel_rfl) ?_;simp only [zsA,zsZ,zsS];refine M_done (by kernel_rfl) ?_ _;have al3 : Below U.heap.size U (U.drew.alloc (Obj.cells #[] 89)) := hS.alloc (Nat.le_refl _) _;have HM3 := HM.out.bel al3;have hb3 := HUW.out _ al3;have BS3 := BS.below al3;have BB3 := BB.below al3;clear hS hdz al3 HLK HUW BS BB HM HB0;generalize (U.drew.alloc (Obj.cells #[] 89)) = W3 at *
 cases R with
 | true =>
  go_wp2_with fail;refine bodyPost_ret (results_noneE rfl _ _ _) rfl ?_;exact ⟨rfl,_,by rw [HP.out.1 (by simp)]; exact HM3,Kp.ofBelow hb3⟩
 | false =>
  have hm := HM3;have hse := HM3.seen;rw [HK.out] at hse;obtain ⟨W4,hup,hs4,hk4⟩ := HUP.out W3.drew (SetK.below hse ((Below.refl _ _).drew));have HUR : Hid ((Instr.mapUpdate 55 (.map (some mb)) (.agg #[.string p1,.string p2]) (.agg #[])).run Try.prog W3.drew = .ok () W4) := hup;have hbm : b ≠ mb := fun e => set_map hse (e ▸ BB3)
  have hsm : s ≠ mb := fun e => set_map hse (e ▸ BS3)
  have dr3 : Below W3.heap.size W3 W3.drew := (Below.refl _ _).drew;have BB4 := (BB3.below dr3).kp hk4 hbm;have BS4 := (BS3.below dr3).kp hk4 hsm;have BB4d := BB4.below (Below.refl _ _).drew;have BS4d := BS4.below (Below.refl _ _).drew
  have hrow4 := own_kpV (own_below HM3.row dr3) hk4 (fun k e1 e2 => by
   obtain ⟨cs,hB⟩ := own_blkE (own_below HM3.row dr3) e1
   exact set_map (SetK.below hse dr3) (e2 ▸ hB))
  go_upto_region 3 with fail
  refine M_region (T := fun W => Below W3.heap.size W3 W) (m := 6) (by kernel_rfl) ?_;have hS : Below W3.heap.size W3 W3.drew := dr3;refine M_take 0 16 (.pointer (some ⟨b,0,none⟩)) _ rfl rfl (by kernel_rfl) (by kernel_rfl) (by kernel_rfl) (by kernel_rfl) (by kernel_rfl) (fun _ _ _ h => h) (by rfl) (fun w' hw' => ?_) hS (listed' := bts 7 1) (by kernel_rfl) rfl ?_
  ·go_simp
  simp only [zsA,zsZ,zsS];refine M_take 1 17 (.pointer (some ⟨b,0,none⟩)) _ rfl rfl (by kernel_rfl) (by kernel_rfl) (by kernel_rfl) (by kernel_rfl) (by kernel_rfl) (fun _ _ _ h => h) (by rfl) (fun w' hw' => ?_) hS (listed' := bts 7 3) (by kernel_rfl) rfl ?_
  ·go_simp
  simp only [zsA,zsZ,zsS];refine M_take 2 18 (.pointer (some ⟨b,9,none⟩)) _ rfl rfl (by kernel_rfl) (by kernel_rfl) (by kernel_rfl) (by kernel_rfl) (by kernel_rfl) (fun _ _ _ h => h) (by rfl) (fun w' hw' => ?_) hS (listed' := bts 7 7) (by kernel_rfl) rfl ?_
  ·go_simp
  simp only [zsA,zsZ,zsS];refine M_take 3 19 (.map (some mb)) _ rfl rfl (by kernel_rfl) (by kernel_rfl) (by kernel_rfl) (by kernel_rfl) (by kernel_rfl) (fun _ _ _ h => h) (by rfl) (fun w' hw' => ?_) hS (listed' := bts 7 15) (by kernel_rfl) rfl ?_
  ·have f0 := ((BB3.below hw').cell 9).trans rfl; go_simp
  simp only [zsA,zsZ,zsS];refine M_take 4 20 (.agg #[.string p1,.string p2]) _ rfl rfl (by kernel_rfl) (by kernel_rfl) (by kernel_rfl) (by kernel_rfl) (by kernel_rfl) (fun _ _ _ h => h) (by rfl) (fun w' hw' => ?_) hS (listed' := bts 7 31) (by kernel_rfl) rfl ?_
  ·have f0 := ((BS3.below hw').cell 0).trans rfl; have f1 := ((BS3.below hw').cell 1).trans rfl; go_simp
  simp only [zsA,zsZ,zsS];refine M_take 5 21 (.agg #[]) _ rfl rfl (by kernel_rfl) (by kernel_rfl) (by kernel_rfl) (by kernel_rfl) (by kernel_rfl) (fun _ _ _ h => h) (by rfl) (fun w' hw' => ?_) hS (listed' := bts 7 63) (by kernel_rfl) rfl ?_
  ·go_simp
  simp only [zsA,zsZ,zsS];refine M_store 6 W4 rfl rfl (by kernel_rfl) (by rfl) (listed' := bts 7 127) (by kernel_rfl) (update_run rfl rfl rfl rfl HUR.out) (by kernel_rfl) ?_;refine M_done (by kernel_rfl) ?_ _;clear hS hup HUR hse;have hal5 : Below W4.heap.size W4 (W4.drew.alloc (Obj.cells #[.string p1,.string p2] 63)) := ((Below.refl _ _).drew).alloc (Nat.le_refl _) _;have hown5 := own_below hrow4 hal5;have BN5 : Blk (W4.drew.alloc (Obj.cells #[.string p1,.string p2] 63)) W4.heap.size #[.string p1,.string p2] 63 := Blk.new W4.drew _ _;obtain ⟨v',W6,r1,r2,r3⟩ := run_joinG (w := (W4.drew.alloc (Obj.cells #[.string p1,.string p2] 63))) 56 56 63 2 32 _ Try.underlying56 infoPr rfl (by decide) W0.heap.size (.slice pa K pc) l.length (prRows l).flatten hown5 (.slice (some ⟨W4.heap.size,0,none⟩) 1 1) [[.string p1,.string p2]] (RowG.blk BN5 rfl (by simp) rfl (by omega)) (by simp) (by simp [Value.oneCell']) (by have := HK.out; simp; omega) (by decide) (Nat.le_trans (Nat.le_trans HM3.below.size (Nat.le_trans dr3.size hk4.size)) hal5.size);have HRUN : Hid ((Builtin.append_ #[56,56] 56 #[.slice pa K pc,.slice (some ⟨W4.heap.size,0,none⟩) 1 1]).run Try.prog (W4.drew.alloc (Obj.cells #[.string p1,.string p2] 63)) = .ok v' W6) := r1;obtain ⟨na,nc,hv'⟩ := own_form r2;subst hv'
  have hr2 : W6.ownsRow W0.heap.size 63 2 (.slice na (l ++ [p]).length nc) (l ++ [p]).length (prRows (l ++ [p])).flatten := by
   rw [show (l ++ [p]).length = l.length + ([[.string p1,.string p2]] : List (List Value)).length by simp,show (prRows (l ++ [p])).flatten = (prRows l).flatten ++ ([[.string p1,.string p2]] : List (List Value)).flatten by simp [prRows,HPC.out]];exact r2
  have hbn : ∀ q,(Value.slice pa K pc).ownBlock = some q → q ≠ b ∧ q ≠ s := fun q e => by
   obtain ⟨cs,hB⟩ := own_blkE hrow4 e;refine ⟨fun e2 => ?_,fun e2 => ?_⟩
   ·subst e2;have h3 := hB.symm.trans BB4
    simp at h3
   ·have := HM3.row.lt q e;have h4 := HSL.out q e
    omega
  have kg : Kp (fun q => (Value.slice pa K pc).ownBlock = some q) (W4.drew.alloc (Obj.cells #[.string p1,.string p2] 63)) W6 := (Kp.refl _ _).grown r3 fun k hk _ => hk
  have BB6 := (BB4.below hal5).kp kg fun e => (hbn b e).1 rfl
  have BS6 := (BS4.below hal5).kp kg fun e => (hbn s e).2 rfl
  have hs6 := SetK.kp (SetK.below hs4 hal5) kg (fun e => by
   obtain ⟨cs,hB⟩ := own_blkE hown5 e
   exact set_map (SetK.below hs4 hal5) hB)
  have HT5 : Hid ((W4.drew.cell? ⟨b,8,none⟩ = some (.slice pa K pc) ∧ W4.drew.cell? ⟨s,0,none⟩ = some (.string p1) ∧ W4.drew.cell? ⟨s,1,none⟩ = some (.string p2)) ∧ ((W4.drew.alloc (Obj.cells #[.string p1,.string p2] 63)).cell? ⟨b,8,none⟩ = some (.slice pa K pc) ∧ (W4.drew.alloc (Obj.cells #[.string p1,.string p2] 63)).cell? ⟨s,0,none⟩ = some (.string p1) ∧ (W4.drew.alloc (Obj.cells #[.string p1,.string p2] 63)).cell? ⟨s,1,none⟩ = some (.string p2)) ∧ (W6.cell? ⟨b,8,none⟩ = some (.slice pa K pc) ∧ W6.cell? ⟨s,0,none⟩ = some (.string p1) ∧ W6.cell? ⟨s,1,none⟩ = some (.string p2))) := (by
   have BB5 := BB4.below hal5;have BS5 := BS4.below hal5
   exact ⟨⟨(BB4d.cell 8).trans rfl,(BS4d.cell 0).trans rfl,(BS4d.cell 1).trans rfl⟩,⟨(BB5.cell 8).trans rfl,(BS5.cell 0).trans rfl,(BS5.cell 1).trans rfl⟩,⟨(BB6.cell 8).trans rfl,(BS6.cell 0).trans rfl,(BS6.cell 1).trans rfl⟩⟩ : _ ∧ _ ∧ _)
  go_upto_region 4 with fail
  refine M_region (T := fun W => (W.cell? ⟨b,8,none⟩ = some (.slice pa K pc) ∧ W.cell? ⟨s,0,none⟩ = some (.string p1) ∧ W.cell? ⟨s,1,none⟩ = some (.string p2))) (m := 10) (by kernel_rfl) ?_;have hS := HT5.out.1;refine M_take 0 22 (.pointer (some ⟨b,0,none⟩)) _ rfl rfl (by kernel_rfl) (by kernel_rfl) (by kernel_rfl) (by kernel_rfl) (by kernel_rfl) (fun _ _ _ h => h) (by rfl) (fun w' hw' => ?_) hS (listed' := bts 11 1) (by kernel_rfl) rfl ?_
  ·go_simp
  simp only [zsA,zsZ,zsS];refine M_take 1 23 (.pointer (some ⟨b,0,none⟩)) _ rfl rfl (by kernel_rfl) (by kernel_rfl) (by kernel_rfl) (by kernel_rfl) (by kernel_rfl) (fun _ _ _ h => h) (by rfl) (fun w' hw' => ?_) hS (listed' := bts 11 3) (by kernel_rfl) rfl ?_
  ·go_simp
  simp only [zsA,zsZ,zsS];refine M_take 2 24 (.pointer (some ⟨b,0,none⟩)) _ rfl rfl (by kernel_rfl) (by kernel_rfl) (by kernel_rfl) (by kernel_rfl) (by kernel_rfl) (fun _ _ _ h => h) (by rfl) (fun w' hw' => ?_) hS (listed' := bts 11 7) (by kernel_rfl) rfl ?_
  ·go_simp
  simp only [zsA,zsZ,zsS];refine M_take 3 25 (.pointer (some ⟨b,8,none⟩)) _ rfl rfl (by kernel_rfl) (by kernel_rfl) (by kernel_rfl) (by kernel_rfl) (by kernel_rfl) (fun _ _ _ h => h) (by rfl) (fun w' hw' => ?_) hS (listed' := bts 11 15) (by kernel_rfl) rfl ?_
  ·go_simp
  simp only [zsA,zsZ,zsS];refine M_take 4 26 (.slice pa K pc) _ rfl rfl (by kernel_rfl) (by kernel_rfl) (by kernel_rfl) (by kernel_rfl) (by kernel_rfl) (fun _ _ _ h => h) (by rfl) (fun w' hw' => ?_) hS (listed' := bts 11 31) (by kernel_rfl) rfl ?_
  ·obtain ⟨f0, -, -⟩ := hw'; go_simp
  simp only [zsA,zsZ,zsS];refine M_take 5 27 (.agg #[.string p1,.string p2]) _ rfl rfl (by kernel_rfl) (by kernel_rfl) (by kernel_rfl) (by kernel_rfl) (by kernel_rfl) (fun _ _ _ h => h) (by rfl) (fun w' hw' => ?_) hS (listed' := bts 11 63) (by kernel_rfl) rfl ?_
  ·obtain ⟨-,f0,f1⟩ := hw'; go_simp
  simp only [zsA,zsZ,zsS];have hdz : W4.drew.heap.size = W4.heap.size := rfl;refine M_run 6 28 (.slice (some ⟨W4.heap.size,0,none⟩) 1 1) (W4.drew.alloc (Obj.cells #[.string p1,.string p2] 63)) rfl rfl (by kernel_rfl) (by rfl) (listed' := bts 11 127) (by kernel_rfl) (by go_simp) HT5.out.2.1 ?_;simp only [zsA,zsZ,zsS];refine M_run 7 29 (.slice na (l.length + 1) nc) W6 rfl rfl (by kernel_rfl) (by rfl) (listed' := bts 11 255) (by kernel_rfl) (append_run rfl rfl rfl HRUN.out) HT5.out.2.2 ?_;simp only [zsA,zsZ,zsS];refine M_run 8 30 (.pointer (some ⟨b,0,none⟩)) (W6) rfl rfl (by kernel_rfl) (by rfl) (listed' := bts 11 511) (by kernel_rfl) (by go_simp) HT5.out.2.2 ?_;simp only [zsA,zsZ,zsS];refine M_run 9 31 (.pointer (some ⟨b,8,none⟩)) (W6) rfl rfl (by kernel_rfl) (by rfl) (listed' := bts 11 1023) (by kernel_rfl) (by go_simp) HT5.out.2.2 ?_;simp only [zsA,zsZ,zsS];have c8 := (BB6.cell 8).trans rfl;have z8 := BB6.froz 8;refine M_store 10 (W6.setCell ⟨b,8,none⟩ (.slice na (l.length + 1) nc)) rfl rfl (by kernel_rfl) (by rfl) (listed' := bts 11 2047) (by kernel_rfl) (by go_simp) (by kernel_rfl) ?_;refine M_done (by kernel_rfl) ?_ _;clear hS HT5 HRUN hdz
  have hll : (l ++ [p]).length = l.length + 1 := by simp
  rw [hll] at hr2
  have hnb : ∀ q,(Value.slice na (l.length + 1) nc).ownBlock = some q → q ≠ b ∧ q ≠ mb := fun q e => by
   obtain ⟨cs,hB⟩ := own_blkE hr2 e;refine ⟨fun e2 => ?_,fun e2 => ?_⟩
   ·subst e2;have h3 := hB.symm.trans BB6
    simp at h3
   ·subst e2;exact set_map hs6 hB
  have BB7 := BB6.set 8 (.slice na (l.length + 1) nc) (cs' := #[x0,x1,x2,x3,y0,y1,y2,y3,.slice na (l.length + 1) nc,.map (some mb)]) rfl;have k7 : Kp (fun q => q = b) W6 (W6.setCell ⟨b,8,none⟩ (.slice na (l.length + 1) nc)) := Kp.setCell (S := fun q => q = b) (p := ⟨b,8,none⟩) (Kp.refl _ _) (fun _ => rfl) _
  have hb36 : Kp (MeB b mb (.slice pa K pc)) w W6 := by
   have e1 : Kp (MeB b mb (.slice pa K pc)) w W3 := Kp.ofBelow hb3;have e2 : Kp (MeB b mb (.slice pa K pc)) w W3.drew := e1.below dr3;have e3 : Kp (MeB b mb (.slice pa K pc)) w W4 := e2.trans2 hk4 fun i _ e => .inr (.inl e)
   exact (e3.below hal5).trans2 kg fun i _ e => .inr (.inr e)
  have hb37 : Kp (MeB b mb (.slice pa K pc)) w (W6.setCell ⟨b,8,none⟩ (.slice na (l.length + 1) nc)) := hb36.trans2 k7 fun i _ e => .inl e
  have hM7 : Meet [x0,x1,x2,x3] [y0,y1,y2,y3] W0 (W6.setCell ⟨b,8,none⟩ (.slice na (l.length + 1) nc)) b mb (.slice na (l.length + 1) nc) (l ++ [p]) := ⟨?m1,HM3.b0,HM3.m0,BB7,?m2,?m3⟩
  case m1 =>
   have hl6 : Below W0.heap.size W0 W6 := by
    have e1 := HM3.below;have e2 := e1.trans (dr3.mono e1.size);have e3 := e2.trans (hk4.toBelow e2.size fun q e => by rw [e]; exact HM3.m0);have e4 := e3.trans (hal5.mono e3.size);exact e4.trans (kg.toBelow e4.size fun q e => (HM3.row.lt q e).1)
   exact hl6.trans (k7.toBelow hl6.size fun q e => by rw [e]; exact HM3.b0)
  case m2 =>
   rw [hll];exact own_kpV hr2 k7 fun q e1 e2 => (hnb q e1).1 e2
  case m3 =>
   rw [hll];have h3 := SetK.kp hs6 k7 fun e => hbm e.symm
   rw [← HK.out] at h3;exact h3
  go_wp2_with fail;refine bodyPost_end (results_noneE rfl _ _ _) rfl ?_;exact ⟨rfl,_,by rw [HP.out.2 (by simp)]; exact hM7,hb37⟩
theorem allin_any {w : World} {v1 v2 : Value} {l r : List NmS} (h1 : RowG w v1 2 (nmRows l)) (h2 : RowG w v2 2 (nmRows r)) (hl1 : l.length ≤ 30000) (hl2 : r.length ≤ 30000) (hw1 : ∀ x ∈ l,NmW x) (hw2 : ∀ x ∈ r,NmW x) :
  Calls Try.prog 43 #[v1,v2] w fun e w' => e = .returned (.bool (l.all fun v => inVs v r)) ∧ Below w.heap.size w w' := by
 obtain ⟨a1,c1,rfl,q1,q1'⟩ := h1.form2;obtain ⟨a2,c2,rfl,q2,q2'⟩ := h2.form2
 have hN1 : (nmRows l).length = l.length := by simp [nmRows]
 have hN2 : (nmRows r).length = r.length := by simp [nmRows]
 rw [hN1] at h1 q1 ⊢;rw [hN2] at h2 q2 ⊢;obtain ⟨N,hN⟩ : ∃ N,l.length = N := ⟨_,rfl⟩;obtain ⟨M,hM⟩ : ∃ M,r.length = M := ⟨_,rfl⟩;rw [hN] at h1 q1 hl1 ⊢;rw [hM] at h2 q2 hl2 ⊢;have HN : Hid (l.length = N) := hN;have HM : Hid (r.length = M) := hM;have HR1 : Hid (RowG w (.slice a1 N c1) 2 (nmRows l)) := h1;have HR2 : Hid (RowG w (.slice a2 M c2) 2 (nmRows r)) := h2;have HW1 : Hid (∀ x ∈ l,NmW x) := hw1;have HW2 : Hid (∀ x ∈ r,NmW x) := hw2;obtain ⟨A,hA⟩ : ∃ A,(l.all fun v => inVs v r) = A := ⟨_,rfl⟩;rw [hA];have HA : Hid ((l.all fun v => inVs v r) = A) := hA;clear hN1 hN2 hN hM h1 h2 hw1 hw2 hA;have HS0 : Hid (SetN (w.alloc (.map #[] 0)) w.heap.size 0 (r.take 0)) := SetK.made 53 w;have hba : Below w.heap.size w (w.alloc (.map #[] 0)) := (Below.refl _ _).alloc (Nat.le_refl _) _;have hmm := @run_makeMap Try.prog
 go_enter Try.func43,Try.ntmps43
 go_wp2_with fail
 go_loopw [15] (fun iv wr => ∃ k : Nat,iv = .int .i64 (k : Int) ∧ k ≤ M ∧ Hid (SetN wr w.heap.size k (r.take k)) ∧ Below w.heap.size w wr) (fun iv _ => M - (intOf iv).toNat)
 case atStart => exact ⟨0,rfl,by omega,HS0,hba⟩
 case round =>
  clear HS0 hba;obtain ⟨k,rfl,hk,HS,hbel⟩ := hrel
  by_cases hlt : k < M
  ·obtain ⟨f,hfk⟩ : ∃ n,r[k]? = some n := ⟨_,List.getElem?_eq_getElem (by rw [HM.out]; exact hlt)⟩
   have hrr : (nmRows r)[k]? = some [.string f.name,.int .i64 f.n] := by simp [nmRows,hfk,NmS.cells]
   obtain ⟨g,off,rfl,c1⟩ := (HR2.out.below hbel).get hrr
   have HT : Hid ((r.take k).map nmV ++ [nmV f] = (r.take (k + 1)).map nmV) := (by
    show _ = _
    rw [List.take_add_one,hfk,List.map_append]; rfl)
   obtain ⟨kl,hkey⟩ := key_nm (HW2.out f (List.mem_of_getElem? hfk));obtain ⟨f0,f1⟩ := f;have p0 := c1 0 _ rfl;have p1 := c1 1 _ rfl;simp only [Nat.add_zero] at p0 p1;clear c1 hrr hfk;have hal : Below wr.heap.size wr (wr.alloc (.cells #[.string f0,.int .i64 f1] 53)) := (Below.refl _ _).alloc (Nat.le_refl _) _;have hbt := hbel.size;obtain ⟨D,hown,h2'⟩ := SetK.below HS.out hal;have H2 : Hid _ := h2';clear h2' HS;have hkey' := hkey;unfold nmV at hkey';simp only at hkey';have hb3 : Below w.heap.size w (wr.alloc (.cells #[.string f0,.int .i64 f1] 53)) := hbel.trans (hal.mono hbt);have hbt2 : w.heap.size ≤ (wr.alloc (.cells #[.string f0,.int .i64 f1] 53)).heap.size := hb3.size;clear hal hbel
   go_wp2_with (first
    | (at_mapUpdate; refine wpList_mapUpdate_own _ rfl _ _ _ 116 rfl 53 89 lawN Try.underlying116 (unitElem (H := Unit)) w.heap.size k _ rfl hown (by unfold maxLen; omega) _ _ _ rfl rfl hkey' _ [] unitElem_mk ?_; intro w3 hown1 hgrow1)
    | fail)
   have HS3 : Hid (SetN w3 w.heap.size (k + 1) (r.take (k + 1))) := by
    show SetN _ _ _ _
    have := SetK.put lawN hown.isMap H2.out hkey hown1;unfold SetN;rw [← HT.out];exact this
   have hb4 : Below w.heap.size w w3 := hb3.grown hgrow1 hbt2 (fun j hj => by cases hj; exact Nat.le_refl _);clear hown hown1 hgrow1 H2 hkey hkey' HT hb3 hbt hbt2 p0 p1;go_wp2_with fail
   go_roundw
   case rel => exact ⟨k + 1,by go_num,by omega,HS3,hb4⟩
   case measure => simp [intOf]; omega
  ·obtain rfl : k = M := by omega
   have HS2 : Hid (SetN wr w.heap.size k r) := (by
    have h1 := HS.out
    rwa [List.take_of_length_le (by rw [HM.out]; omega)] at h1 : SetN wr w.heap.size k r)
   clear HS;have HI0 : Hid ((l.take 0).all (fun v => inVs v r) = true) := (by simp : _ = _);go_wp2_with fail
   go_loopw [25] (fun iv wr => ∃ i : Nat,iv = .int .i64 (i : Int) ∧ i ≤ N ∧ Hid ((l.take i).all (fun v => inVs v r) = true) ∧ Hid (SetN wr w.heap.size k r) ∧ Below w.heap.size w wr) (fun iv _ => N - (intOf iv).toNat)
   case atStart => exact ⟨0,rfl,by omega,HI0,HS2,hbel⟩
   case round =>
    clear HI0 HS2 hbel;obtain ⟨i,rfl,hi,HI,HS2,hbel⟩ := hrel
    by_cases hlt2 : i < N
    ·obtain ⟨f,hfk⟩ : ∃ n,l[i]? = some n := ⟨_,List.getElem?_eq_getElem (by rw [HN.out]; exact hlt2)⟩
     have hrr : (nmRows l)[i]? = some [.string f.name,.int .i64 f.n] := by simp [nmRows,hfk,NmS.cells]
     obtain ⟨g,off,rfl,c1⟩ := (HR1.out.below hbel).get hrr;obtain ⟨kl,hkey⟩ := key_nm (HW1.out f (List.mem_of_getElem? hfk));have hal : Below wr.heap.size wr (wr.alloc (.cells #[.string f.name,.int .i64 f.n] 53)) := (Below.refl _ _).alloc (Nat.le_refl _) _;obtain ⟨D,hown,h2'⟩ := SetK.below HS2.out hal;have HH : Hid (Maps.has D kl = inVs f r) := has_nm h2' hkey;have HTM : Hid (f ∈ l) := List.mem_of_getElem? hfk
     have HT : Hid ((l.take (i + 1)).all (fun v => inVs v r) = ((l.take i).all (fun v => inVs v r) && inVs f r)) := (by
      show _ = _
      rw [List.take_add_one,hfk,List.all_append]; simp)
     clear h2';have hb2 : Below w.heap.size w (wr.alloc (.cells #[.string f.name,.int .i64 f.n] 53)) := hbel.trans (hal.mono hbel.size);obtain ⟨f0,f1⟩ := f;have p0 := c1 0 _ rfl;have p1 := c1 1 _ rfl;simp only [Nat.add_zero] at p0 p1;unfold nmV at hkey;simp only at hkey hb2 hown;clear c1 hrr hfk hal;obtain ⟨Z,hZ⟩ : ∃ z,inVs ⟨f0,f1⟩ r = z := ⟨_,rfl⟩;rw [hZ] at HH HT;have HZ : Hid (inVs ⟨f0,f1⟩ r = Z) := hZ;clear hZ;have hY := HH.out
     cases Z with
     | true =>
      go_wp2_with (first
       | (at_lookup; refine wpList_lookup_own_unit _ rfl _ _ 116 rfl 53 89 lawN Try.underlying116 (zeroU _) w.heap.size k D rfl hown _ _ rfl hkey ?_)
       | fail)
      have hb3 : Below w.heap.size w ((wr.alloc (.cells #[.string f0,.int .i64 f1] 53)).alloc (.cells #[] 89)) := hb2.alloc hb2.size _;have HI2 : Hid ((l.take (i + 1)).all (fun v => inVs v r) = true) := (by rw [HT.out,HI.out]; rfl : _ = _);have HS3 : Hid (SetN ((wr.alloc (.cells #[.string f0,.int .i64 f1] 53)).alloc (.cells #[] 89)) w.heap.size k r) := SetK.below (SetK.below HS2.out ((Below.refl _ _).alloc (Nat.le_refl _) _)) ((Below.refl _ _).alloc (Nat.le_refl _) _);clear hb2 HT HI HS2 hown hY;go_wp2_with fail
      go_roundw
      case rel => exact ⟨i + 1,by go_num,by omega,HI2,HS3,hb3⟩
      case measure => simp [intOf]; omega
     | false =>
      go_wp2_with (first
       | (at_lookup; refine wpList_lookup_own_unit _ rfl _ _ 116 rfl 53 89 lawN Try.underlying116 (zeroU _) w.heap.size k D rfl hown _ _ rfl hkey ?_)
       | fail)
      have hb3 : Below w.heap.size w ((wr.alloc (.cells #[.string f0,.int .i64 f1] 53)).alloc (.cells #[] 89)) := hb2.alloc hb2.size _;go_ret;refine ⟨ret_bool ?_,hb3⟩;rw [← HA.out]
      symm
      rw [Bool.eq_false_iff,ne_eq,List.all_eq_true];intro hall;have h1 := hall _ HTM.out;rw [HZ.out] at h1
      cases h1
    ·have HI2 : Hid (A = true) := (by rw [← HA.out]; have h1 := HI.out; rwa [List.take_of_length_le (by rw [HN.out]; omega)] at h1 : A = true);go_wp2_with fail;go_ret;exact ⟨ret_bool HI2.out.symm,hbel⟩
def zeroM : MsS := ⟨⟨#[]⟩,[],[]⟩
def zeroN : EnS := ⟨⟨#[]⟩,[]⟩
def zeroT : MtS := ⟨⟨#[]⟩,⟨#[]⟩,⟨#[]⟩⟩
def zeroF : FlS := ⟨⟨#[]⟩,0,0,0,⟨#[]⟩⟩
def mtV (m : MtS) : Value := .agg #[.string m.name,.string m.inn,.string m.out]
def flV (m : FlS) : Value := .agg #[.string m.name,.int .i64 m.tag,.int .i64 m.label,.int .i64 m.kind,.string m.tname]
theorem ret_two {a b c d : Value} (h1 : a = c) (h2 : b = d) : Ending.returned (.tuple #[a,b]) = .returned (.tuple #[c,d]) := by rw [h1,h2]
theorem bytes_ne {a b : ByteArray} (h : ¬ a = b) : (a.toList == b.toList) = false := by
 rw [ByteArray.toList_eq,ByteArray.toList_eq,beq_bytes]; exact decide_eq_false h
end
end Go.Proofs.Ytdkolhfpfimeoaa
