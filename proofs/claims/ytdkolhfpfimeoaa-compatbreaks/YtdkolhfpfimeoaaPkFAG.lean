/- Part 7 of what the proof stands on. -/
import Derived.Test.YtdkolhfpfimeoaaPkFAF
namespace Go.Proofs.Ytdkolhfpfimeoaa
set_option maxHeartbeats 8000000
set_option linter.unusedVariables false
set_option linter.unusedSimpArgs false
set_option maxRecDepth 20000
open Go.ChangeShapes Go.WideShapes Go.ChangeAt Go.RowKit
def flFew (f : FlS) : Prop := f.name.size ≤ 200 ∧ f.tname.size ≤ 200
def msFew (n : Nat) (m : MsS) : Prop := m.name.size ≤ n ∧ m.fields.length ≤ 20 ∧ m.reserved.length ≤ 40 ∧ ∀ f ∈ m.fields,flFew f
def nmFew (f : NmS) : Prop := f.name.size ≤ 200
def enFew (m : EnS) : Prop := m.name.size ≤ 200 ∧ m.values.length ≤ 24 ∧ ∀ f ∈ m.values,nmFew f
def mtFew (m : MtS) : Prop := m.name.size ≤ 200 ∧ m.inn.size ≤ 200 ∧ m.out.size ≤ 200
structure FewS (s : ScS) : Prop where
 name : s.name.size ≤ 3000
 msgs : s.msgs.length ≤ 14
 enums : s.enums.length ≤ 10
 meths : s.methods.length ≤ 10
 eachM : ∀ m ∈ s.msgs,msFew 3000 m
 eachE : ∀ m ∈ s.enums,enFew m
 eachT : ∀ m ∈ s.methods,mtFew m
theorem FewS.few {s : ScS} (h : FewS s) : FewL s := ⟨h.msgs,h.enums,h.meths,fun m hm => ⟨(h.eachM m hm).2.1,(h.eachM m hm).2.2.1⟩,fun e he => (h.eachE e he).2.1⟩
theorem msFew.up {n n' : Nat} {m : MsS} (h : msFew n m) (hn : n ≤ n') : msFew n' m := ⟨Nat.le_trans h.1 hn,h.2⟩
theorem all_snoc {α : Type} {P : α → Prop} {l : List α} {k : Nat} {x : α} (h : ∀ y ∈ l.take k,P y) (hx : l[k]? = some x) (hp : P x) : ∀ y ∈ l.take (k + 1),P y := by
 intro y hy;rw [List.take_add_one,hx] at hy
 rcases List.mem_append.1 hy with hy | hy
 ·exact h y hy
 ·simp at hy; subst hy; exact hp
def FewP (s : ScS) (e : Ending) : Prop := e = .returned (.bool false) ∨ (e = .returned (.bool true) ∧ FewS s)
theorem FewP.no (s : ScS) : FewP s (.returned (.bool false)) := .inl rfl
theorem FewP.yes {s : ScS} (h : FewS s) : FewP s (.returned (.bool true)) := .inr ⟨rfl,h⟩
theorem few_any {w : World} {v : Value} {s : ScS} (hr : ScIn w v s) (hw : ScW s) :
  Calls Try.prog 9 #[v] w fun e w' => FewP s e ∧ Below w.heap.size w w' := by
 obtain ⟨vm0,ve0,vt0,rfl,hm,he,ht⟩ := hr;obtain ⟨am,cm,rfl,qm1,qm2⟩ := hm.form2;obtain ⟨ae,ce,rfl,qe1,qe2⟩ := he.form2;obtain ⟨at',ct,rfl,qt1,qt2⟩ := ht.form2
 have hT : (mtRows s.methods).length = s.methods.length := by simp [mtRows]
 rw [hT] at ht qt1 ⊢;clear hT;have HM : Hid (MsIn w (.slice am s.msgs.length cm) s.msgs) := hm;have HE : Hid (EnIn w (.slice ae s.enums.length ce) s.enums) := he;have HT : Hid (RowG w (.slice at' s.methods.length ct) 3 (mtRows s.methods)) := ht;have HW : Hid (ScW s) := hw;have hnm := hw.name;obtain ⟨nm,ms,es,ts⟩ := s;simp only at *;have HM : Hid (MsIn w (.slice am ms.length cm) ms) := HM;have HE : Hid (EnIn w (.slice ae es.length ce) es) := HE;have HT : Hid (RowG w (.slice at' ts.length ct) 3 (mtRows ts)) := HT;obtain ⟨M,hM⟩ : ∃ N,ms.length = N := ⟨_,rfl⟩;obtain ⟨E,hE⟩ : ∃ N,es.length = N := ⟨_,rfl⟩;obtain ⟨T,hT⟩ : ∃ N,ts.length = N := ⟨_,rfl⟩;rw [hM] at HM qm1 ⊢;rw [hE] at HE qe1 ⊢;rw [hT] at HT qt1 ⊢;have HNM : Hid (ms.length = M) := hM;have HNE : Hid (es.length = E) := hE;have HNT : Hid (ts.length = T) := hT;clear hM hE hT hm he ht hw;obtain ⟨ML,hml1,hml2,HML⟩ : ∃ L,L ≤ M ∧ L ≤ 20 ∧ Hid (L = M ∨ (L = 20 ∧ 20 < M)) := ⟨min M 20,by omega,by omega,by show _ ∨ _; omega⟩;obtain ⟨EL,hel1,hel2,HEL⟩ : ∃ L,L ≤ E ∧ L ≤ 20 ∧ Hid (L = E ∨ (L = 20 ∧ 20 < E)) := ⟨min E 20,by omega,by omega,by show _ ∨ _; omega⟩;obtain ⟨TL,htl1,htl2,HTL⟩ : ∃ L,L ≤ T ∧ L ≤ 20 ∧ Hid (L = T ∨ (L = 20 ∧ 20 < T)) := ⟨min T 20,by omega,by omega,by show _ ∨ _; omega⟩;have hbel0 : Below w.heap.size w (w.alloc (.cells #[.string nm,.slice am M cm,.slice ae E ce,.slice at' T ct] 26)) := (Below.refl _ _).alloc (Nat.le_refl _) _;have BX0 := Blk.new w #[.string nm,.slice am M cm,.slice ae E ce,.slice at' T ct] 26;have HP0 : Hid (nm.size ≤ nm.size ∧ ∀ m ∈ ms.take 0,msFew nm.size m) := ⟨Nat.le_refl _,fun m hm => by simp at hm⟩
 go_enter Try.func9,Try.ntmps9
 go_wp2_with fail
 go_loopw [3,4] (fun nv iv wr => ∃ (n i : Nat),nv = .int .i64 (n : Int) ∧ iv = .int .i64 (i : Int) ∧ i ≤ ML ∧ n ≤ 140737488351232 * (i + 1) ∧ Hid (nm.size ≤ n ∧ ∀ m ∈ ms.take i,msFew n m) ∧ Below w.heap.size w wr ∧ Blk wr w.heap.size #[.string nm,.slice am M cm,.slice ae E ce,.slice at' T ct] 26) (fun _ iv _ => ML - (intOf iv).toNat)
 case atStart => exact ⟨nm.size,0,rfl,rfl,by omega,by omega,HP0,hbel0,BX0⟩
 case round =>
  obtain ⟨n,i,rfl,rfl,hi,hn,HP,hbel,BX⟩ := hrel;clear HP0 hbel0 BX0;have x1 : wr.cell? ⟨w.heap.size,1,none⟩ = some (.slice am M cm) := BX.cell 1
  go_upto_region 3 with fail
  go_cut [21] from 13 to 81 (fun bv wx => bv = .bool (decide (i < ML)) ∧ wx = wr)
  case first =>
   by_cases h1 : i < ML
   ·have h2 : i < M := by omega
    have h3 : decide ((i : Int) < 20) = true := decide_eq_true (by omega);have HD : Hid (decide (i < ML) = true) := decide_eq_true h1;go_wp2_with fail
    go_meet
    exact ⟨by rw [HD.out],rfl⟩
   ·have HD : Hid (decide (i < ML) = false) := decide_eq_false h1
    by_cases h2 : i < M
    ·have h3 : decide ((i : Int) < 20) = false := decide_eq_false (by have := HML.out; omega);go_wp2_with fail
     go_meet
     exact ⟨by rw [HD.out],rfl⟩
    ·go_wp2_with fail
     go_meet
     exact ⟨by rw [HD.out],rfl⟩
  case rest =>
  obtain ⟨hcb,hcw⟩ := hcut;subst hcb;subst hcw
  by_cases hlt : i < ML
  ·have hdt : decide (i < ML) = true := decide_eq_true hlt;rw [hdt];obtain ⟨m,hm⟩ : ∃ x,ms[i]? = some x := ⟨_,List.getElem?_eq_getElem (by rw [HNM.out]; omega)⟩;obtain ⟨g,off,vf,vr,rfl,c0',c1',c2',hrf,hrr⟩ := HM.out.get hm;have c0 := (hbel.cell (World.block_lt_of_cell? _ _ c0')).trans c0';have c1 := (hbel.cell (World.block_lt_of_cell? _ _ c1')).trans c1';have c2 := (hbel.cell (World.block_lt_of_cell? _ _ c2')).trans c2';have C1 : Hid (w.cell? ⟨g,off + i * 3 + 1,none⟩ = some vf) := c1';clear c0' c1' c2';have HFf : Hid (RowG w vf 5 (flRows m.fields)) := hrf;obtain ⟨a3,c3,rfl,qf1,qf2⟩ := hrf.form2;obtain ⟨a4,c4,rfl,qr1,qr2⟩ := hrr.form2;have hms := (HW.out.msgs m (List.mem_of_getElem? hm)).1
   have e1 : (flRows m.fields).length = m.fields.length := by simp [flRows]
   have e2 : (inRows m.reserved).length = m.reserved.length := by simp [inRows]
   rw [e1] at qf1 C1 c1;rw [e2] at qr1 c2
   have HFf : Hid (RowG w (.slice a3 m.fields.length c3) 5 (flRows m.fields)) := by have := HFf.out; rw [e1] at this; exact this
   have HIX : Hid (ms[i]? = some m) := hm;obtain ⟨m0,mf,mr⟩ := m;simp only at c0 c1 c2 hms C1 HFf qf1 qr1;obtain ⟨nF,hnF⟩ : ∃ N,mf.length = N := ⟨_,rfl⟩;obtain ⟨nR,hnR⟩ : ∃ N,mr.length = N := ⟨_,rfl⟩;rw [hnF] at c1 C1 HFf qf1;rw [hnR] at c2 qr1;have HNF : Hid (mf.length = nF) := hnF;have HNR : Hid (mr.length = nR) := hnR;clear hrf hrr hm hnF hnR e1 e2
   have hov : n + m0.size ≤ 140737488351232 * (i + 1 + 1) := by omega
   have hov2 : n + m0.size ≤ 9223372036854775807 := by omega
   by_cases hbF : 20 < nF
   ·go_wp2_with fail;go_ret;exact ⟨FewP.no _,hbel⟩
   ·have hdF : decide (20 < nF) = false := decide_eq_false hbF
    by_cases hbR : 40 < nR
    ·go_wp2_with fail;go_ret;exact ⟨FewP.no _,hbel⟩
    ·have hdR : decide (40 < nR) = false := decide_eq_false hbR
     have HQ0 : Hid (∀ f ∈ mf.take 0,flFew f) := fun f hf => by simp at hf
     go_wp2_with fail;clear c0 c1 c2 x1
     go_loopw [5] (fun jv wr => ∃ j : Nat,jv = .int .i64 (j : Int) ∧ j ≤ nF ∧ Hid (∀ f ∈ mf.take j,flFew f) ∧ Below w.heap.size w wr ∧ Blk wr w.heap.size #[.string nm,.slice (some ⟨g,off,none⟩) M cm,.slice ae E ce,.slice at' T ct] 26) (fun jv _ => nF - (intOf jv).toNat)
     case atStart => exact ⟨0,rfl,by omega,HQ0,hbel,BX⟩
     case round =>
      obtain ⟨j,rfl,hj,HQ,hbel,BX⟩ := hrel;clear HQ0;have x1 : wr.cell? ⟨w.heap.size,1,none⟩ = some (.slice (some ⟨g,off,none⟩) M cm) := BX.cell 1;have c1 := (hbel.cell (World.block_lt_of_cell? _ _ C1.out)).trans C1.out
      have hiM : i < M := by omega
      by_cases hjl : j < nF
      ·obtain ⟨f,hf⟩ : ∃ x,mf[j]? = some x := ⟨_,List.getElem?_eq_getElem (by rw [HNF.out]; exact hjl)⟩
       have hrr : (flRows mf)[j]? = some f.cells := by simp [flRows,hf]
       obtain ⟨g2,off2,rfl,cc⟩ := (HFf.out.below hbel).get hrr;have HIF : Hid (mf[j]? = some f) := hf;obtain ⟨f0,f1,f2,f3,f4⟩ := f;have p0 := cc 0 _ rfl;have p1 := cc 1 _ rfl;have p2 := cc 2 _ rfl;have p3 := cc 3 _ rfl;have p4 := cc 4 _ rfl;simp only [Nat.add_zero] at p0 p1 p2 p3 p4;clear cc hrr hf;have hb2 : Below w.heap.size w (wr.alloc (.cells #[.string f0,.int .i64 f1,.int .i64 f2,.int .i64 f3,.string f4] 42)) := hbel.alloc hbel.size _;have BX2 : Blk (wr.alloc (.cells #[.string f0,.int .i64 f1,.int .i64 f2,.int .i64 f3,.string f4] 42)) w.heap.size #[.string nm,.slice (some ⟨g,off,none⟩) M cm,.slice ae E ce,.slice at' T ct] 26 := BX.below ((Below.refl _ _).alloc (Nat.le_refl _) _)
       by_cases hbN : 200 < f0.size
       ·go_wp2_with fail;go_ret;exact ⟨FewP.no _,hb2⟩
       ·have hdN : decide (200 < f0.size) = false := decide_eq_false hbN
        by_cases hbT : 200 < f4.size
        ·go_wp2_with fail;go_ret;exact ⟨FewP.no _,hb2⟩
        ·have hdT : decide (200 < f4.size) = false := decide_eq_false hbT;have HQ2 : Hid (∀ f ∈ mf.take (j + 1),flFew f) := all_snoc HQ.out HIF.out ⟨by show f0.size ≤ 200; omega,by show f4.size ≤ 200; omega⟩;go_wp2_with fail;clear p0 p1 p2 p3 p4 x1 c1 BX hbel
         go_roundw
         case rel => exact ⟨j + 1,by go_num,by omega,HQ2,hb2,BX2⟩
         case measure => simp [intOf]; omega
      ·have HP2 : Hid (nm.size ≤ n + m0.size ∧ ∀ m ∈ ms.take (i + 1),msFew (n + m0.size) m) := by
        refine ⟨by have := HP.out.1; omega,all_snoc (fun y hy => (HP.out.2 y hy).up (by omega)) HIX.out ⟨by show m0.size ≤ _; omega,by show mf.length ≤ 20; rw [HNF.out]; omega,by show mr.length ≤ 40; rw [HNR.out]; omega,?_⟩⟩;have := HQ.out;rw [List.take_of_length_le (by rw [HNF.out]; omega)] at this;exact this
       go_wp2_with fail
       go_roundw
       case rel => exact ⟨n + m0.size,i + 1,by go_num,by go_num,by omega,hov,HP2,hbel,BX⟩
       case measure => simp [intOf]; omega
  ·have hdt : decide (i < ML) = false := decide_eq_false hlt;rw [hdt]
   obtain rfl : i = ML := by omega
   have HE0 : Hid (∀ m ∈ es.take 0,enFew m) := fun m hm => by simp at hm
   clear x1;go_wp2_with fail
   go_loopw [7] (fun iv wr => ∃ e : Nat,iv = .int .i64 (e : Int) ∧ e ≤ EL ∧ Hid (∀ m ∈ es.take e,enFew m) ∧ Below w.heap.size w wr ∧ Blk wr w.heap.size #[.string nm,.slice am M cm,.slice ae E ce,.slice at' T ct] 26) (fun iv _ => EL - (intOf iv).toNat)
   case atStart => exact ⟨0,rfl,by omega,HE0,hbel,BX⟩
   case round =>
    obtain ⟨e,rfl,he,HQE,hbel,BX⟩ := hrel;clear HE0;have x2 : wr.cell? ⟨w.heap.size,2,none⟩ = some (.slice ae E ce) := BX.cell 2
    go_upto_region 15 with fail
    go_cut [90] from 82 to 133 (fun bv wx => bv = .bool (decide (e < EL)) ∧ wx = wr)
    case first =>
     by_cases h1 : e < EL
     ·have h2 : e < E := by omega
      have h3 : decide ((e : Int) < 20) = true := decide_eq_true (by omega);have HD : Hid (decide (e < EL) = true) := decide_eq_true h1;go_wp2_with fail
      go_meet
      exact ⟨by rw [HD.out],rfl⟩
     ·have HD : Hid (decide (e < EL) = false) := decide_eq_false h1
      by_cases h2 : e < E
      ·have h3 : decide ((e : Int) < 20) = false := decide_eq_false (by have := HEL.out; omega);go_wp2_with fail
       go_meet
       exact ⟨by rw [HD.out],rfl⟩
      ·go_wp2_with fail
       go_meet
       exact ⟨by rw [HD.out],rfl⟩
    case rest =>
    obtain ⟨hcb,hcw⟩ := hcut;subst hcb;subst hcw
    by_cases hlt : e < EL
    ·have hdt : decide (e < EL) = true := decide_eq_true hlt;rw [hdt];obtain ⟨m,hm⟩ : ∃ x,es[e]? = some x := ⟨_,List.getElem?_eq_getElem (by rw [HNE.out]; omega)⟩;obtain ⟨g,off,vf,rfl,c0',c1',hrf⟩ := HE.out.get hm;have c0 := (hbel.cell (World.block_lt_of_cell? _ _ c0')).trans c0';have c1 := (hbel.cell (World.block_lt_of_cell? _ _ c1')).trans c1';have C1 : Hid (w.cell? ⟨g,off + e * 2 + 1,none⟩ = some vf) := c1';clear c0' c1';have HFf : Hid (RowG w vf 2 (nmRows m.values)) := hrf;obtain ⟨a3,c3,rfl,qf1,qf2⟩ := hrf.form2
     have e1 : (nmRows m.values).length = m.values.length := by simp [nmRows]
     rw [e1] at qf1 C1 c1
     have HFf : Hid (RowG w (.slice a3 m.values.length c3) 2 (nmRows m.values)) := by have := HFf.out; rw [e1] at this; exact this
     have HIX : Hid (es[e]? = some m) := hm;obtain ⟨m0,mf⟩ := m;simp only at c0 c1 C1 HFf qf1;obtain ⟨nF,hnF⟩ : ∃ N,mf.length = N := ⟨_,rfl⟩;rw [hnF] at c1 C1 HFf qf1;have HNF : Hid (mf.length = nF) := hnF;clear hrf hm hnF e1
     by_cases hbF : 200 < m0.size
     ·go_wp2_with fail;go_ret;exact ⟨FewP.no _,hbel⟩
     ·have hdF : decide (200 < m0.size) = false := decide_eq_false hbF
      by_cases hbR : 24 < nF
      ·go_wp2_with fail;go_ret;exact ⟨FewP.no _,hbel⟩
      ·have hdR : decide (24 < nF) = false := decide_eq_false hbR
       have HQ0 : Hid (∀ f ∈ mf.take 0,nmFew f) := fun f hf => by simp at hf
       go_wp2_with fail;clear c0 c1 x2
       go_loopw [8] (fun jv wr => ∃ j : Nat,jv = .int .i64 (j : Int) ∧ j ≤ nF ∧ Hid (∀ f ∈ mf.take j,nmFew f) ∧ Below w.heap.size w wr ∧ Blk wr w.heap.size #[.string nm,.slice am M cm,.slice (some ⟨g,off,none⟩) E ce,.slice at' T ct] 26) (fun jv _ => nF - (intOf jv).toNat)
       case atStart => exact ⟨0,rfl,by omega,HQ0,hbel,BX⟩
       case round =>
        obtain ⟨j,rfl,hj,HQ,hbel,BX⟩ := hrel;clear HQ0;have x2 : wr.cell? ⟨w.heap.size,2,none⟩ = some (.slice (some ⟨g,off,none⟩) E ce) := BX.cell 2;have c1 := (hbel.cell (World.block_lt_of_cell? _ _ C1.out)).trans C1.out
        have hiM : e < E := by omega
        by_cases hjl : j < nF
        ·obtain ⟨f,hf⟩ : ∃ x,mf[j]? = some x := ⟨_,List.getElem?_eq_getElem (by rw [HNF.out]; exact hjl)⟩
         have hrr : (nmRows mf)[j]? = some f.cells := by simp [nmRows,hf]
         obtain ⟨g2,off2,rfl,cc⟩ := (HFf.out.below hbel).get hrr;have HIF : Hid (mf[j]? = some f) := hf;obtain ⟨f0,f1⟩ := f;have p0 := cc 0 _ rfl;simp only [Nat.add_zero] at p0;clear cc hrr hf
         by_cases hbN : 200 < f0.size
         ·go_wp2_with fail;go_ret;exact ⟨FewP.no _,hbel⟩
         ·have hdN : decide (200 < f0.size) = false := decide_eq_false hbN;have HQ2 : Hid (∀ f ∈ mf.take (j + 1),nmFew f) := all_snoc HQ.out HIF.out (by show f0.size ≤ 200; omega);go_wp2_with fail
          go_roundw
          case rel => exact ⟨j + 1,by go_num,by omega,HQ2,hbel,BX⟩
          case measure => simp [intOf]; omega
        ·have HP2 : Hid (∀ m ∈ es.take (e + 1),enFew m) := by
          refine all_snoc HQE.out HIX.out ⟨by show m0.size ≤ 200; omega,by show mf.length ≤ 24; rw [HNF.out]; omega,?_⟩;have := HQ.out;rw [List.take_of_length_le (by rw [HNF.out]; omega)] at this;exact this
         go_wp2_with fail
         go_roundw
         case rel => first | exact ⟨e + 1,by go_num,by omega,HP2,hbel,BX⟩ | ((repeat apply Exists.intro); refine ⟨?_,rfl⟩; exact ⟨e + 1,by go_num,by omega,HP2,hbel,BX⟩)
         case measure => simp [intOf]; omega
    ·have hdt : decide (e < EL) = false := decide_eq_false hlt;rw [hdt]
     obtain rfl : e = EL := by omega
     have HT0 : Hid (∀ m ∈ ts.take 0,mtFew m) := fun m hm => by simp at hm
     clear x2;go_wp2_with fail
     go_loopw [9] (fun iv wr => ∃ t : Nat,iv = .int .i64 (t : Int) ∧ t ≤ TL ∧ Hid (∀ m ∈ ts.take t,mtFew m) ∧ Below w.heap.size w wr ∧ Blk wr w.heap.size #[.string nm,.slice am M cm,.slice ae E ce,.slice at' T ct] 26) (fun iv _ => TL - (intOf iv).toNat)
     case atStart => exact ⟨0,rfl,by omega,HT0,hbel,BX⟩
     case round =>
      obtain ⟨t,rfl,ht,HQT,hbel,BX⟩ := hrel;clear HT0;have x3 : wr.cell? ⟨w.heap.size,3,none⟩ = some (.slice at' T ct) := BX.cell 3
      go_upto_region 25 with fail
      go_cut [142] from 134 to 172 (fun bv wx => bv = .bool (decide (t < TL)) ∧ wx = wr)
      case first =>
       by_cases h1 : t < TL
       ·have h2 : t < T := by omega
        have h3 : decide ((t : Int) < 20) = true := decide_eq_true (by omega);have HD : Hid (decide (t < TL) = true) := decide_eq_true h1;go_wp2_with fail
        go_meet
        exact ⟨by rw [HD.out],rfl⟩
       ·have HD : Hid (decide (t < TL) = false) := decide_eq_false h1
        by_cases h2 : t < T
        ·have h3 : decide ((t : Int) < 20) = false := decide_eq_false (by have := HTL.out; omega);go_wp2_with fail
         go_meet
         exact ⟨by rw [HD.out],rfl⟩
        ·go_wp2_with fail
         go_meet
         exact ⟨by rw [HD.out],rfl⟩
      case rest =>
      obtain ⟨hcb,hcw⟩ := hcut;subst hcb;subst hcw
      by_cases hlt : t < TL
      ·have hdt : decide (t < TL) = true := decide_eq_true hlt;rw [hdt];obtain ⟨f,hf⟩ : ∃ x,ts[t]? = some x := ⟨_,List.getElem?_eq_getElem (by rw [HNT.out]; omega)⟩
       have hrr : (mtRows ts)[t]? = some f.cells := by simp [mtRows,hf]
       obtain ⟨g2,off2,rfl,cc⟩ := (HT.out.below hbel).get hrr;have HIF : Hid (ts[t]? = some f) := hf;obtain ⟨f0,f1,f2⟩ := f;have p0 := cc 0 _ rfl;have p1 := cc 1 _ rfl;have p2 := cc 2 _ rfl;simp only [Nat.add_zero] at p0 p1 p2;clear cc hrr hf
       have hiM : t < T := by omega
       by_cases hb0 : 200 < f0.size
       ·go_wp2_with fail;go_ret;exact ⟨FewP.no _,hbel⟩
       ·have hd0 : decide (200 < f0.size) = false := decide_eq_false hb0
        by_cases hb1 : 200 < f1.size
        ·go_wp2_with fail;go_ret;exact ⟨FewP.no _,hbel⟩
        ·have hd1 : decide (200 < f1.size) = false := decide_eq_false hb1
         by_cases hb2 : 200 < f2.size
         ·go_wp2_with fail;go_ret;exact ⟨FewP.no _,hbel⟩
         ·have hd2 : decide (200 < f2.size) = false := decide_eq_false hb2;have HQ2 : Hid (∀ m ∈ ts.take (t + 1),mtFew m) := all_snoc HQT.out HIF.out ⟨by show f0.size ≤ 200; omega,by show f1.size ≤ 200; omega,by show f2.size ≤ 200; omega⟩;go_wp2_with fail
          go_roundw
          case rel => first | exact ⟨t + 1,by go_num,by omega,HQ2,hbel,BX⟩ | ((repeat apply Exists.intro); refine ⟨?_,rfl⟩; exact ⟨t + 1,by go_num,by omega,HQ2,hbel,BX⟩)
          case measure => simp [intOf]; omega
      ·have hdt : decide (t < TL) = false := decide_eq_false hlt;rw [hdt]
       obtain rfl : t = TL := by omega
       have x1 := (BX.cell 1).trans rfl;have x2 := (BX.cell 2).trans rfl
       by_cases g0 : n < 3000
       ·by_cases g1 : M ≤ 14
        ·by_cases g2 : E ≤ 10
         ·by_cases g3 : T ≤ 10
          ·have HFIN : Hid (FewS ⟨nm,ms,es,ts⟩) := by
            have a1 := HML.out;have a2 := HEL.out;have a3 := HTL.out;have b1 := HP.out;have b2 := HQE.out;have b3 := HQT.out;rw [List.take_of_length_le (by rw [HNM.out]; omega)] at b1;rw [List.take_of_length_le (by rw [HNE.out]; omega)] at b2;rw [List.take_of_length_le (by rw [HNT.out]; omega)] at b3;refine ⟨?_,?_,?_,?_,fun m hm => (b1.2 m hm).up (by omega),b2,b3⟩
            ·show nm.size ≤ 3000; omega
            ·show ms.length ≤ 14; rw [HNM.out]; exact g1
            ·show es.length ≤ 10; rw [HNE.out]; exact g2
            ·show ts.length ≤ 10; rw [HNT.out]; exact g3
           have d3 : decide ((T : Int) ≤ 10) = true := decide_eq_true (by omega);go_wp2_with fail;go_ret;exact ⟨FewP.yes HFIN.out,hbel⟩
          ·have d3 : decide ((T : Int) ≤ 10) = false := decide_eq_false (by omega);go_wp2_with fail;go_ret;exact ⟨FewP.no _,hbel⟩
         ·have d2 : decide (E ≤ 10) = false := decide_eq_false g2;go_wp2_with fail;go_ret;exact ⟨FewP.no _,hbel⟩
        ·have d1 : decide (M ≤ 14) = false := decide_eq_false g1;go_wp2_with fail;go_ret;exact ⟨FewP.no _,hbel⟩
       ·have d0 : decide (n < 3000) = false := decide_eq_false g0;go_wp2_with fail;go_ret;exact ⟨FewP.no _,hbel⟩
end Go.Proofs.Ytdkolhfpfimeoaa
