/- Part 17 of what the proof stands on. -/
import Derived.Test.YtmgbhicogmclgaaPkFAP
namespace Go.Proofs.Ytmgbhicogmclgaa
set_option maxHeartbeats 8000000
set_option linter.unusedVariables false
set_option linter.unusedSimpArgs false
set_option maxRecDepth 20000
open Go.ChangeShapes Go.WideShapes Go.ChangeAt Go.RowKit
theorem infoTreC : (Try.prog.info? 30).map (fun i => (i.zero,i.size,i.bytes)) = some (some (.agg #[.int .i64 0,.int .i64 0,.string ⟨#[]⟩,.slice none 0 0,.slice none 0 0]),5,80) := by kernel_rfl
theorem CyS.shape {b : Bool} {W0 w : World} {cb mb : Nat} {lv : Value} {R L : List Rec} (h : CyS b W0 w cb mb lv R L) {r : List Value} {x : Tr} (ho : OutOf b R r x) : ∃ a1 n1 c1 a2 n2 c2,r = [.int .i64 x.kind,.int .i64 x.n,.string x.s,.slice a1 n1 c1,.slice a2 n2 c2] := by
 rcases ho with ⟨-, -,rfl, -⟩ | ⟨q,hq,hu,rfl⟩
 ·exact ⟨none,0,0,none,0,0,rfl⟩
 ·obtain ⟨rows,ho1, -⟩ := (h.recs q hq).room;obtain ⟨ta,tc,hto⟩ := own_form ho1;obtain ⟨ra,rc,hrs⟩ := own_form (h.recs q hq).rs;exact ⟨ta,_,tc,ra,_,rc,by simp only [Rec.out,hto,hrs]; rw [hu,topT_kind,topT_n,topT_s]⟩
theorem chunk5 : ∀ (n : Nat) (cs : List Value),cs.length = n * 5 → ∃ rows : List (List Value),rows.flatten = cs ∧ rows.length = n ∧ ∀ r ∈ rows,r.length = 5
 | 0,cs,h => ⟨[],by simp at h; simp [h],rfl,by simp⟩
 | n + 1,cs,h => by
  obtain ⟨rows,h1,h2,h3⟩ := chunk5 n (cs.drop 5) (by rw [List.length_drop]; omega);refine ⟨cs.take 5 :: rows,by rw [List.flatten_cons,h1,List.take_append_drop],by simp [h2],fun r hr => ?_⟩
  rcases List.mem_cons.1 hr with rfl | hr
  ·rw [List.length_take]; omega
  ·exact h3 r hr
theorem own5_cells {w : World} {B ty g n cap : Nat} {rows : List (List Value)} (h : w.ownsRow B ty 5 (.slice (some ⟨g,0,none⟩) n cap) n rows.flatten) (hl : ∀ r ∈ rows,r.length = 5) {j : Nat} (hj : j < rows.length) :
  ∃ v0 v1 v2 v3 v4,w.cell? ⟨g,j * 5,none⟩ = some v0 ∧ w.cell? ⟨g,j * 5 + 1,none⟩ = some v1 ∧ w.cell? ⟨g,j * 5 + 2,none⟩ = some v2 ∧ w.cell? ⟨g,j * 5 + 3,none⟩ = some v3 ∧ w.cell? ⟨g,j * 5 + 4,none⟩ = some v4 ∧ (∀ k,w.frozen? ⟨g,k,none⟩ = false) := by
 obtain ⟨r',hr'⟩ : ∃ r,rows[j]? = some r := ⟨_,List.getElem?_eq_getElem hj⟩;have h5' := hl r' (List.mem_of_getElem? hr')
 have hcell : ∀ k u,r'[k]? = some u → w.cell? ⟨g,j * 5 + k,none⟩ = some u := fun k u hu => by
  have := h.cells (g := g) rfl (j * 5 + k) u (flat_get rows hl j _ hr' k u hu)
  rwa [Addr.add_lit,Nat.zero_add] at this
 match r',h5',hcell with
 | [x0,x1,x2,x3,x4],_,hcell => exact ⟨x0,x1,x2,x3,x4,hcell 0 _ rfl,hcell 1 _ rfl,hcell 2 _ rfl,hcell 3 _ rfl,hcell 4 _ rfl,fun k => h.frozenAt k⟩
def TrsP (b : Bool) (W0 : World) (cb mb n : Nat) (ts : List Tr) (lv : Value) (R L : List Rec) (w : World) (e : Ending) (w' : World) : Prop :=
 ∃ vt lv' R' M,e = .returned vt ∧ TrsM b W0 w' R' vt ts ∧ CyS b W0 w' cb mb lv' R' (L ++ M) ∧ (∀ q ∈ R,q ∈ R') ∧ (∀ q ∈ R',q ∈ R ∨ q ∈ M ∨ q.u.es = []) ∧ wgt M ≤ (ts.map (cntN n)).sum ∧ M.length ≤ ts.length ∧ CelT w w' ∧ FrU lv lv' w w'
def RowsTo (b : Bool) (R : List Rec) (ts : List Tr) (rows : List (List Value)) (i : Nat) : Prop := ∀ (j : Nat) (x : Tr),j < i → ts[j]? = some x → ∃ r,rows[j]? = some r ∧ OutOf b R r x
def Grew (n : Nat) (R R' M : List Rec) (ts : List Tr) (i : Nat) : Prop := (∀ q ∈ R,q ∈ R') ∧ (∀ q ∈ R',q ∈ R ∨ q ∈ M ∨ q.u.es = []) ∧ wgt M ≤ ((ts.take i).map (cntN n)).sum ∧ M.length ≤ i
theorem Grew.step {n : Nat} {R R' R'' M M' : List Rec} {ts : List Tr} {i : Nat} {x : Tr} (h : Grew n R R' M ts i) (hx : ts[i]? = some x) (h1 : ∀ q ∈ R',q ∈ R'') (h2 : ∀ q ∈ R'',q ∈ R' ∨ q ∈ M' ∨ q.u.es = []) (h3 : wgt M' ≤ cntN n x) (h4 : M'.length ≤ 1) : Grew n R R'' (M ++ M') ts (i + 1) := by
 obtain ⟨g1,g2,g3,g4⟩ := h;refine ⟨fun q hq => h1 q (g1 q hq),fun q hq => ?_,?_,by rw [List.length_append]; omega⟩
 ·rcases h2 q hq with hq | hq | hq
  ·rcases g2 q hq with hq | hq | hq
   ·exact .inl hq
   ·exact .inr (.inl (List.mem_append.2 (.inl hq)))
   ·exact .inr (.inr hq)
  ·exact .inr (.inl (List.mem_append.2 (.inr hq)))
  ·exact .inr (.inr hq)
 ·obtain ⟨hl,rfl⟩ := List.getElem?_eq_some_iff.1 hx;rw [wgt_app,List.take_succ_eq_append_getElem hl,List.map_append,List.sum_append];simp only [List.map_cons,List.map_nil,List.sum_cons,List.sum_nil]
  omega
theorem ctrees_any (b : Bool) (W0 : World) (cb mb n : Nat) (ts : List Tr) (vl : Value) (w : World) (lv : Value) (R L : List Rec) (hts : TrsR n W0 vl ts) (hsm : ∀ x ∈ ts,SmN n x) (hl : ts.length ≤ 70) (hL : L.length + ts.length ≤ 5000) (hc : CyS b W0 w cb mb lv R L) :
  Calls Try.prog 55 #[.pointer (some ⟨cb,0,none⟩),vl] w (TrsP b W0 cb mb n ts lv R L w) := by
 obtain ⟨ta,tc,rfl,t1,t2, -⟩ := RowP.open hts;obtain ⟨N,hN⟩ : ∃ z,ts.length = z := ⟨_,rfl⟩;have HN : Hid (ts.length = N) := hN;rw [hN] at hts t1 hl ⊢;have HTS : Hid (TrsR n W0 (.slice ta N tc) ts) := hts;have HSM : Hid (∀ x ∈ ts,SmN n x) := hsm;have HL : Hid (L.length + N ≤ 5000) := (by rw [← hN]; exact hL : L.length + N ≤ 5000);unfold maxLen at t2
 by_cases h0 : N = 0
 ·have d : ((N : Int) == 0) = true := by simp; exact h0
  have HNI : Hid (ts = []) := List.eq_nil_of_length_eq_zero (by rw [hN]; exact h0)
  have HF : Hid (TrsP b W0 cb mb n ts lv R L w (.returned (.slice none 0 0)) w) := (by
   rw [HNI.out]
   exact ⟨_,lv,R,[],rfl,⟨[],World.ownsRow_nil _ _ _ _,rfl,(fun r hr => by cases hr),fun i x hx => by simp at hx⟩,by rw [List.append_nil]; exact hc,fun q hq => hq,fun q hq => .inl hq,by simp [wgt],by simp,CelT.refl _,fun _ _ h1 h2 => ⟨h1,h2⟩⟩ : TrsP b W0 cb mb n ts lv R L w (.returned (.slice none 0 0)) w)
  clear hts hN hsm hL hc h0 HTS HSM HN HNI HL
  go_enter Try.func55,Try.ntmps55
  go_wp2_with fail;go_ret;exact HF.out
 ·have d : ((N : Int) == 0) = false := by simp; exact h0
  have hNp : 0 < N := by omega
  obtain ⟨i0,hi0,hz0,hz1,hz2⟩ := info_parts infoTreC;obtain ⟨MC,hMC⟩ : ∃ z,madeCells (Value.agg #[.int .i64 0,.int .i64 0,.string ⟨#[]⟩,.slice none 0 0,.slice none 0 0]).cells (N * 5) = z := ⟨_,rfl⟩
  have hMs : MC.size = N * 5 := by rw [← hMC,size_madeCells]
  have hmk : ∀ W : World,(Instr.makeSlice 55 (.int .i64 (N : Int)) (.int .i64 (N : Int))).run Try.prog W = .ok (.slice (some ⟨W.heap.size,0,none⟩) N N) (W.alloc (.cells MC 30)) := fun W => by
   have := run_makeSlice (P := Try.prog) W 55 30 i0 _ Try.underlying55 hi0 hz0 .i64 .i64 N N (by omega) (by omega) (by rw [hz1]; simp; omega) (by rw [hz2]; omega) (by omega);rw [hz1] at this;simp only [Int.toNat_natCast] at this;rw [hMC] at this;exact this
  have al : Below w.heap.size w (w.alloc (.cells MC 30)) := (Below.refl _ _).alloc (Nat.le_refl _) _;have hBg : Blk (w.alloc (.cells MC 30)) w.heap.size MC 30 := Blk.new w _ _;obtain ⟨rows0,hr1,hr2,hr3⟩ := chunk5 N MC.toList (by rw [Array.length_toList]; exact hMs)
  have HO0 : Hid ((w.alloc (.cells MC 30)).ownsRow W0.heap.size 30 5 (.slice (some ⟨w.heap.size,0,none⟩) N N) N rows0.flatten ∧ rows0.length = N ∧ ∀ r ∈ rows0,r.length = 5) := ⟨by
   rw [hr1]
   exact ⟨by rw [Array.length_toList]; exact hMs,.inr ⟨_,N,MC,rfl,hc.below.size,hBg,Nat.le_refl _,by unfold maxLen; omega,hMs,List.take_of_length_le (by rw [Array.length_toList,hMs]; omega)⟩⟩,hr2,hr3⟩
  have HC0 : Hid (CyS b W0 (w.alloc (.cells MC 30)) cb mb lv R L) := hc.mk_below al;have HW0 : Hid (W0.heap.size ≤ w.heap.size) := hc.below.size;have HCT0 : Hid (CelT w (w.alloc (.cells MC 30)) ∧ FrU lv lv w (w.alloc (.cells MC 30))) := ⟨CelT.ofBelow al,FrU.ofBelow _ al⟩
  have hgl : w.heap.size < (w.alloc (.cells MC 30)).heap.size := by simp
  clear hts hN hsm hL hc h0 hi0 hz0 hz1 hz2 hMC hr1 hr2 hr3 hBg al
  go_enter Try.func55,Try.ntmps55
  go_wp2_with fail;clear hmk d;generalize (w.alloc (.cells MC 30)) = WA at *;obtain ⟨g,hg⟩ : ∃ z,w.heap.size = z := ⟨_,rfl⟩;have HG : Hid (w.heap.size = g) := hg;rw [hg] at HO0 HW0 hgl;simp only [hg];clear hg
  go_loopw [16] (fun iv wr => ∃ (i : Nat) (lv' : Value) (R' M : List Rec) (rows : List (List Value)),iv = .int .i64 (i : Int) ∧ i ≤ N ∧ Hid (wr.ownsRow W0.heap.size 30 5 (.slice (some ⟨g,0,none⟩) N N) N rows.flatten ∧ rows.length = N ∧ ∀ r ∈ rows,r.length = 5) ∧ Hid (RowsTo b R' ts rows i) ∧ Hid (CyS b W0 wr cb mb lv' R' (L ++ M)) ∧ Hid (Grew n R R' M ts i) ∧ Hid (CelT w wr ∧ FrU lv lv' w wr)) (fun iv _ => N - (intOf iv).toNat)
  case atStart => exact ⟨0,lv,R,[],rows0,rfl,by omega,HO0,(fun j x hj => absurd hj (by omega) : RowsTo b R ts rows0 0),(by rw [List.append_nil]; exact HC0.out : CyS b W0 WA cb mb lv R (L ++ [])),(⟨fun q hq => hq,fun q hq => .inl hq,by simp [wgt],by simp⟩ : Grew n R R [] ts 0),HCT0⟩
  case round =>
   obtain ⟨i,lv',R',M,rows,rfl,hi,HO,HRT,HC,HGR,HCT⟩ := hrel
   by_cases hlt : i < N
   ·obtain ⟨x,hx⟩ : ∃ r,ts[i]? = some r := ⟨_,List.getElem?_eq_getElem (by rw [HN.out]; exact hlt)⟩;obtain ⟨gx,off,a1,n1,c1,a2,n2,c2,rfl,y0,y1,y2,y3,y4,hxw⟩ := trsR_get (HTS.out.celT (Cel.ofBelow HC.out.below)) hx;obtain ⟨gx',off',a1',n1',c1',a2',n2',c2',e0,u0,u1,u2,u3,u4,hxw0⟩ := trsR_get HTS.out hx;simp only [Option.some.injEq,Addr.mk.injEq,and_true] at e0;obtain ⟨rfl,rfl⟩ := e0;have hcl := fun {p : Addr} {v : Value} (h : W0.cell? p = some v) => Cel.cell (Cel.ofBelow HC.out.below) h
    have hv3 : (Value.slice a1 n1 c1) = .slice a1' n1' c1' := by have := hcl u3; rw [y3] at this; simpa using this
    have hv4 : (Value.slice a2 n2 c2) = .slice a2' n2' c2' := by have := hcl u4; rw [y4] at this; simpa using this
    rw [← hv3,← hv4] at hxw0;have HX : Hid (ts[i]? = some x) := hx;have HXW : Hid (TrW n W0 (.agg #[.int .i64 x.kind,.int .i64 x.n,.string x.s,.slice a1 n1 c1,.slice a2 n2 c2]) x) := hxw0;obtain ⟨XK,hXK⟩ : ∃ z,x.kind = z := ⟨_,rfl⟩;obtain ⟨XN,hXN⟩ : ∃ z,x.n = z := ⟨_,rfl⟩;obtain ⟨XS,hXS⟩ : ∃ z,x.s = z := ⟨_,rfl⟩;have HXK : Hid (x.kind = XK ∧ x.n = XN ∧ x.s = XS) := ⟨hXK,hXN,hXS⟩;rw [hXK,hXN,hXS] at HXW;rw [hXK] at y0;rw [hXN] at y1;rw [hXS] at y2;have al : Below wr.heap.size wr (wr.alloc (Obj.cells #[.int .i64 XK,.int .i64 XN,.string XS,.slice a1 n1 c1,.slice a2 n2 c2] 30)) := (Below.refl _ _).alloc (Nat.le_refl _) _;have HCA : Hid (Calls Try.prog 28 #[.pointer (some ⟨cb,0,none⟩),.agg #[.int .i64 XK,.int .i64 XN,.string XS,.slice a1 n1 c1,.slice a2 n2 c2]] (wr.alloc (Obj.cells #[.int .i64 XK,.int .i64 XN,.string XS,.slice a1 n1 c1,.slice a2 n2 c2] 30)) (TreP b W0 cb mb n x lv' R' (L ++ M) (wr.alloc (Obj.cells #[.int .i64 XK,.int .i64 XN,.string XS,.slice a1 n1 c1,.slice a2 n2 c2] 30)))) := ctree_any b W0 cb mb n x _ _ _ _ _ _ _ _ _ _ lv' R' (L ++ M) HXW.out (HSM.out x (List.mem_of_getElem? hx)) (by rw [List.length_append]; have h1 := HL.out; have h2 := HGR.out.2.2.2; omega) (HC.out.mk_below al);have HAL : Hid (Below wr.heap.size wr (wr.alloc (Obj.cells #[.int .i64 XK,.int .i64 XN,.string XS,.slice a1 n1 c1,.slice a2 n2 c2] 30))) := al;clear hx hxw hxw0 u0 u1 u2 u3 u4 hcl hv3 hv4 hXK hXN hXS al HXW;go_wp2_with fail;refine Calls.mono HCA.out ?_;rintro e w2 ⟨r,lv2,R2,M2,rfl,ho2,hc2,h21,h22,h23,h24,hct2,hfu2⟩;obtain ⟨z1,l1,e1,z2,l2,e2,hr⟩ := hc2.shape ho2;rw [HXK.out.1,HXK.out.2.1,HXK.out.2.2] at hr;subst hr;have hct3 : CelT wr w2 := (CelT.ofBelow HAL.out).trans hct2;have hO2 : w2.ownsRow W0.heap.size 30 5 (.slice (some ⟨g,0,none⟩) N N) N rows.flatten := own_celT HO.out.1 (.inr (.inl rfl)) hct3;obtain ⟨v0,v1,v2,v3,v4,s0,s1,s2,s3,s4,hfz⟩ := own5_cells hO2 HO.out.2.2 (j := i) (by rw [HO.out.2.1]; exact hlt);have f0 := hfz (i * 5);have f1 := hfz (i * 5 + 1);have f2 := hfz (i * 5 + 2);have f3 := hfz (i * 5 + 3);have f4 := hfz (i * 5 + 4);obtain ⟨cg,hBg, -⟩ := own_typ hO2 (k := g) rfl;have kp := set5_kp w2 g (i * 5) (.int .i64 XK) (.int .i64 XN) (.string XS) (.slice z1 l1 e1) (.slice z2 l2 e2)
    have HO3 : Hid ((set5 w2 g (i * 5) (.int .i64 XK) (.int .i64 XN) (.string XS) (.slice z1 l1 e1) (.slice z2 l2 e2)).ownsRow W0.heap.size 30 5 (.slice (some ⟨g,0,none⟩) N N) N (rows.set i [.int .i64 XK,.int .i64 XN,.string XS,.slice z1 l1 e1,.slice z2 l2 e2]).flatten ∧ (rows.set i [.int .i64 XK,.int .i64 XN,.string XS,.slice z1 l1 e1,.slice z2 l2 e2]).length = N ∧ ∀ r ∈ rows.set i [.int .i64 XK,.int .i64 XN,.string XS,.slice z1 l1 e1,.slice z2 l2 e2],r.length = 5) := ⟨own_set5 hO2 HO.out.2.2 (by rw [HO.out.2.1]; exact hlt) _ _ _ _ _,by rw [List.length_set]; exact HO.out.2.1,fun r hr => by
     rcases List.mem_or_eq_of_mem_set hr with hr | rfl
     ·exact HO.out.2.2 r hr
     ·rfl⟩
    have HRT3 : Hid (RowsTo b R2 ts (rows.set i [.int .i64 XK,.int .i64 XN,.string XS,.slice z1 l1 e1,.slice z2 l2 e2]) (i + 1)) := (fun j y hj hy => by
     by_cases hji : j = i
     ·subst hji
      have hxy : x = y := by have := HX.out; rw [this] at hy; simpa using hy
      subst hxy;exact ⟨_,by rw [List.getElem?_set,if_pos rfl,if_pos (by rw [HO.out.2.1]; exact hlt)],ho2⟩
     ·obtain ⟨r,g1,g2⟩ := HRT.out j y (by omega) hy
      exact ⟨r,by rw [List.getElem?_set,if_neg (Ne.symm hji)]; exact g1,g2.mono h21⟩ : RowsTo b R2 ts (rows.set i [.int .i64 XK,.int .i64 XN,.string XS,.slice z1 l1 e1,.slice z2 l2 e2]) (i + 1))
    have HC3 : Hid (CyS b W0 (set5 w2 g (i * 5) (.int .i64 XK) (.int .i64 XN) (.string XS) (.slice z1 l1 e1) (.slice z2 l2 e2)) cb mb lv2 R2 (L ++ (M ++ M2))) := (by
     have := hc2.keepT kp hBg HW0.out
     rwa [List.append_assoc] at this : CyS b W0 (set5 w2 g (i * 5) (.int .i64 XK) (.int .i64 XN) (.string XS) (.slice z1 l1 e1) (.slice z2 l2 e2)) cb mb lv2 R2 (L ++ (M ++ M2)))
    have HGR3 : Hid (Grew n R R2 (M ++ M2) ts (i + 1)) := HGR.out.step HX.out h21 h22 h23 h24;have hct4 : CelT w (set5 w2 g (i * 5) (.int .i64 XK) (.int .i64 XN) (.string XS) (.slice z1 l1 e1) (.slice z2 l2 e2)) := (fun k cs ty hty hB => (hct3 k cs ty hty (HCT.out.1 k cs ty hty hB)).kp kp (fun e => by have := hB.lt; rw [HG.out] at this; omega) : CelT w (set5 w2 g (i * 5) (.int .i64 XK) (.int .i64 XN) (.string XS) (.slice z1 l1 e1) (.slice z2 l2 e2)));have HCT3 : Hid (CelT w (set5 w2 g (i * 5) (.int .i64 XK) (.int .i64 XN) (.string XS) (.slice z1 l1 e1) (.slice z2 l2 e2)) ∧ FrU lv lv2 w (set5 w2 g (i * 5) (.int .i64 XK) (.int .i64 XN) (.string XS) (.slice z1 l1 e1) (.slice z2 l2 e2))) := ⟨hct4,HCT.out.2.trans ((FrU.ofBelow _ HAL.out).trans (hfu2.trans (FrU.ofKp _ kp hBg (by decide))))⟩;unfold set5 at HO3 HC3 HCT3;clear hct4 hfu2 hct3 hct2 hO2 hfz hBg kp ho2 hc2 h21 h22 h23 h24 HO HRT HC HGR HCT HCA HAL y0 y1 y2 y3 y4;go_wp2_with fail;clear s0 s1 s2 s3 s4 f0 f1 f2 f3 f4
    go_roundw
    case rel => exact ⟨i + 1,lv2,R2,M ++ M2,_,by go_num,by omega,HO3,HRT3,HC3,HGR3,HCT3⟩
    case measure => simp [intOf]; omega
   ·have hiN : i = N := by omega
    have HF : Hid (TrsP b W0 cb mb n ts lv R L w (.returned (.slice (some ⟨g,0,none⟩) N N)) wr) := (by
     obtain ⟨g1,g2,g3,g4⟩ := HGR.out;refine ⟨_,lv',R',M,rfl,⟨rows,by rw [HN.out]; exact HO.out.1,by rw [HN.out]; exact HO.out.2.1,HO.out.2.2,fun j x hx => HRT.out j x (by rw [hiN,← HN.out]; exact (List.getElem?_eq_some_iff.1 hx).1) hx⟩,HC.out,g1,g2,?_,by rw [HN.out]; omega,HCT.out.1,HCT.out.2⟩;rw [hiN,← HN.out,List.take_length] at g3
     exact g3 : TrsP b W0 cb mb n ts lv R L w (.returned (.slice (some ⟨g,0,none⟩) N N)) wr)
    have dlt : decide ((i : Int) < (N : Int)) = false := by simp; omega
    clear HO HRT HC HGR HCT hiN;go_wp2_with fail;go_ret;exact HF.out
theorem results_noneC {fn : Func} (h : fn.results = #[]) (tmps : Array Value) (P : Program) (w : World) : (results fn tmps).run P w = .ok (.tuple #[]) w := by
 unfold results
 simp [h]
theorem least_of {P : Nat → Prop} (h : ∃ k,P k) : ∃ k,P k ∧ ∀ j,P j → k ≤ j := by
 obtain ⟨k,hk⟩ := h
 induction k using Nat.strongRecOn with
 | _ k ih =>
  by_cases hm : ∃ j,j < k ∧ P j
  ·obtain ⟨j,h1,h2⟩ := hm;exact ih j h1 h2
  ·refine ⟨k,hk,fun j hj => ?_⟩
   by_cases hjk : k ≤ j
   ·exact hjk
   ·exact absurd ⟨j,by omega,hj⟩ hm
theorem cnt_pos {n : Nat} {w : World} {r : List Value} {t : Tr} (h : TrR n w r t) : 1 ≤ cntN n t := by
 cases n with
 | zero => exact h.elim
 | succ n => simp only [cntN]; omega
theorem CyS.len {b : Bool} {W0 w : World} {cb mb : Nat} {lv : Value} {R L : List Rec} (h : CyS b W0 w cb mb lv R L) : L.length ≤ wgt L := by
 have h1 : ∀ l : List Rec,(∀ r ∈ l,1 ≤ cntN r.n r.u) → l.length ≤ wgt l := fun l => by
  induction l with
  | nil => intro _; simp
  | cons r l ih =>
   intro hl;have := ih fun r hr => hl r (List.mem_cons_of_mem _ hr)
   have h2 := hl r (List.mem_cons_self ..);simp only [wgt,List.map_cons,List.sum_cons,List.length_cons] at this ⊢
   omega
 exact h1 L fun r hr => cnt_pos (h.recs r (h.sub r hr).1).src
theorem sum_subs (f : Tr → Nat) : ∀ es : List (Int × List Tr),(es.map fun e => (e.2.map f).sum).sum = ((subs es).map f).sum
 | [] => rfl
 | e :: l => by
  have := sum_subs f l;simp only [subs,List.map_cons,List.sum_cons,List.flatMap_cons,List.map_append,List.sum_append] at this ⊢
  omega
def FillS (b : Bool) (W0 w0 : World) (cb mb : Nat) (R0 : List Rec) (w : World) (k : Nat) : Prop :=
 ∃ lv R L,CyS b W0 w cb mb lv R L ∧ (∀ q ∈ R0,q ∈ R) ∧ (∀ r ∈ R,r ∈ L ∨ Fil b W0 w R r r.u.es.length) ∧ CelR w0 w ∧ wgt L = k ∧ k ≤ 2000
structure InnS (b : Bool) (W0 w0 : World) (cb mb b2 m : Nat) (R0 L : List Rec) (c : Rec) (lv : Value) (R M : List Rec) (i : Nat) (w : World) : Prop where
 cps : CyS b W0 w cb mb lv R (L ++ M)
 blk : Blk w b2 #[c.ve,c.nw] 136
 lvn : lv.ownBlock ≠ some b2
 sub : ∀ q ∈ R0,q ∈ R
 cin : c ∈ R
 fil : Fil b W0 w R c i
 oth : ∀ r ∈ R,r = c ∨ r ∈ L ++ M ∨ Fil b W0 w R r r.u.es.length
 wg : wgt M ≤ ((c.u.es.take i).map fun e => (e.2.map (cntN m)).sum).sum
 cel : CelR w0 w
theorem own2_cells {w : World} {B ty g n cap : Nat} {rows : List (List Value)} (h : w.ownsRow B ty 2 (.slice (some ⟨g,0,none⟩) n cap) n rows.flatten) (hl : ∀ r ∈ rows,r.length = 2) {j : Nat} (hj : j < rows.length) :
  ∃ v0 v1,w.cell? ⟨g,j * 2,none⟩ = some v0 ∧ w.cell? ⟨g,j * 2 + 1,none⟩ = some v1 ∧ (∀ k,w.frozen? ⟨g,k,none⟩ = false) := by
 obtain ⟨r',hr'⟩ : ∃ r,rows[j]? = some r := ⟨_,List.getElem?_eq_getElem hj⟩;have h5' := hl r' (List.mem_of_getElem? hr')
 have hcell : ∀ k u,r'[k]? = some u → w.cell? ⟨g,j * 2 + k,none⟩ = some u := fun k u hu => by
  have := h.cells (g := g) rfl (j * 2 + k) u (flat_get rows hl j _ hr' k u hu)
  rwa [Addr.add_lit,Nat.zero_add] at this
 match r',h5',hcell with
 | [x0,x1],_,hcell => exact ⟨x0,x1,hcell 0 _ rfl,hcell 1 _ rfl,fun k => h.frozenAt k⟩
theorem own_set2 {w : World} {B ty g n cap : Nat} {rows : List (List Value)} (h : w.ownsRow B ty 2 (.slice (some ⟨g,0,none⟩) n cap) n rows.flatten) (hl : ∀ r ∈ rows,r.length = 2) {j : Nat} (hj : j < rows.length) (a b : Value) :
  ((w.setCell ⟨g,j * 2,none⟩ a).setCell ⟨g,j * 2 + 1,none⟩ b).ownsRow B ty 2 (.slice (some ⟨g,0,none⟩) n cap) n (rows.set j [a,b]).flatten := by
 obtain ⟨r,hr⟩ : ∃ r,rows[j]? = some r := ⟨_,List.getElem?_eq_getElem hj⟩;have h5 := hl r (List.mem_of_getElem? hr)
 have hset : ∀ (rs : List (List Value)) (q : List Value),(∀ r ∈ rs,r.length = 2) → q.length = 2 → ∀ r ∈ rs.set j q,r.length = 2 := fun rs q h1 h2 r hr => by
  rcases List.mem_or_eq_of_mem_set hr with hr | rfl
  ·exact h1 r hr
  ·exact h2
 have step : ∀ (W : World) (rs : List (List Value)) (q : List Value) (k : Nat) (u : Value),W.ownsRow B ty 2 (.slice (some ⟨g,0,none⟩) n cap) n (rs.set j q).flatten → (∀ r ∈ rs,r.length = 2) → q.length = 2 → j < rs.length → k < 2 → (W.setCell ⟨g,j * 2 + k,none⟩ u).ownsRow B ty 2 (.slice (some ⟨g,0,none⟩) n cap) n (rs.set j (q.set k u)).flatten := fun W rs q k u h1 h2 h3 h4 h5 => by
  have h6 := (h1.stored (j * 2 + k) u).1;rw [flat_set (rs.set j q) (hset rs q h2 h3) j q (by rw [List.getElem?_set,if_pos rfl,if_pos h4]) k u h5,List.set_set] at h6;exact h6
 have e0 : rows.set j r = rows := by
  obtain ⟨h1,h2⟩ := List.getElem?_eq_some_iff.1 hr;rw [← h2,List.set_getElem_self]
 match r,h5,hr,e0 with
 | [x0,x1],_,hr,e0 =>
  have s0 := step w rows [x0,x1] 0 a (by rw [e0]; exact h) hl rfl hj (by decide);have s1 := step _ rows [a,x1] 1 b s0 hl rfl hj (by decide);exact s1
theorem InnS.step {b : Bool} {W0 w0 w w2 w3 : World} {cb mb b2 m i g N C : Nat} {R0 L R R2 M M2 : List Rec} {c : Rec} {lv lv2 vt : Value} {e : Int × List Tr} (h : InnS b W0 w0 cb mb b2 m R0 L c lv R M i w) (he : c.u.es[i]? = some e) (hto : c.nw = .slice (some ⟨g,0,none⟩) N C)
  (k1 : TrsM b W0 w2 R2 vt e.2) (k2 : CyS b W0 w2 cb mb lv2 R2 (L ++ M ++ M2)) (k3 : ∀ q ∈ R,q ∈ R2) (k4 : ∀ q ∈ R2,q ∈ R ∨ q ∈ M2 ∨ q.u.es = []) (k5 : wgt M2 ≤ (e.2.map (cntN m)).sum) (k6 : CelT w w2) (k7 : FrU lv lv2 w w2)
  (hw3 : w3 = (w2.setCell ⟨g,i * 2,none⟩ (.int .i64 e.1)).setCell ⟨g,i * 2 + 1,none⟩ vt) : InnS b W0 w0 cb mb b2 m R0 L c lv2 R2 (M ++ M2) (i + 1) w3 := by
 obtain ⟨rows,f1,f2,f3,f4⟩ := h.fil.celT k6;have hil : i < c.u.es.length := (List.getElem?_eq_some_iff.1 he).1
 have kp : Kp (fun q => q = g) w2 w3 := by
  rw [hw3];exact ((Kp.refl (fun q => q = g) w2).setCell (p := ⟨g,i * 2,none⟩) (fun _ => rfl) _).setCell (p := ⟨g,i * 2 + 1,none⟩) (fun _ => rfl) _
 have hg : c.nw.ownBlock = some g := by rw [hto]; rfl
 obtain ⟨cg,hBg, -⟩ := own_typ f1 hg
 have hN : N = c.u.es.length := by
  rcases f1.2 with ⟨_,e0⟩ | ⟨g',cap,cur,e1,_⟩
  ·omega
  ·rw [hto] at e1
   simp at e1
   exact e1.2.1
 have hfil : Fil b W0 w3 R2 c (i + 1) := by
  refine ⟨rows.set i [.int .i64 e.1,vt],?_,by rw [List.length_set]; exact f2,fun q hq => ?_,fun k x hk hx => ?_⟩
  ·rw [hw3,hto,← hN];rw [hto,← hN] at f1;exact own_set2 f1 f3 (by rw [f2]; exact hil) _ _
  ·rcases List.mem_or_eq_of_mem_set hq with hq | rfl
   ·exact f3 q hq
   ·rfl
  ·by_cases hki : k = i
   ·subst hki
    obtain rfl : e = x := by rw [he] at hx; simpa using hx
    exact ⟨vt,by rw [List.getElem?_set,if_pos rfl,if_pos (by rw [f2]; exact hil)],k1.kp kp hBg (by decide)⟩
   ·obtain ⟨vt',g1,g2⟩ := f4 k x (by omega) hx;exact ⟨vt',by rw [List.getElem?_set,if_neg (Ne.symm hki)]; exact g1,(g2.mono k3).kp kp hBg (by decide)⟩
 have hcps : CyS b W0 w3 cb mb lv2 R2 (L ++ (M ++ M2)) := by
  have := k2.keepE kp hBg (k3 c h.cin) hg hfil
  rwa [List.append_assoc] at this
 have hb2 := k7 b2 _ h.blk h.lvn;refine ⟨hcps,hb2.1.kp kp (fun e => hb2.1.ne hBg (by decide) e),hb2.2,fun q hq => k3 q (h.sub q hq),k3 c h.cin,hfil,fun r hr => ?_,?_,h.cel.trans (k6.celR.trans (CelR.ofKp kp hBg (by decide)))⟩
 ·by_cases hrc : r = c
  ·exact .inl hrc
  ·have hne : r.nw.ownBlock ≠ some g := fun hh => hrc (k2.apart r hr c (k3 c h.cin) g hh hg)
   refine .inr ?_
   rcases k4 r hr with hq | hq | hq
   ·rcases h.oth r hq with h1 | h1 | h1
    ·exact absurd h1 hrc
    ·rw [← List.append_assoc];exact .inl (List.mem_append.2 (.inl h1))
    ·exact .inr (((h1.celT k6).mono k3).kp kp hBg hne)
   ·rw [← List.append_assoc];exact .inl (List.mem_append.2 (.inr hq))
   ·obtain ⟨rw0,q1,q2,q3,q4⟩ := (k2.recs r hr).room.kp kp hBg hne;exact .inr ⟨rw0,q1,q2,q3,fun k x hk hx => by rw [hq] at hx; simp at hx⟩
 ·rw [wgt_app,List.take_succ_eq_append_getElem hil,List.map_append,List.sum_append];have h1 := h.wg
  have h2 : c.u.es[i] = e := by obtain ⟨_,h3⟩ := List.getElem?_eq_some_iff.1 he; exact h3
  simp only [List.map_cons,List.map_nil,List.sum_cons,List.sum_nil,h2]
  omega
theorem InnS.done {b : Bool} {W0 w0 w : World} {cb mb b2 m k : Nat} {R0 L R M : List Rec} {c : Rec} {lv : Value} (h : InnS b W0 w0 cb mb b2 m R0 L c lv R M c.u.es.length w) (hn : c.n = m + 1) (hk : wgt (L ++ [c]) = k) (hk2 : k ≤ 2000) : ∃ j,FillS b W0 w0 cb mb R0 w j ∧ j < k := by
 have h1 := h.wg;rw [List.take_length,sum_subs] at h1
 have h2 : wgt [c] = 1 + ((subs c.u.es).map (cntN m)).sum := by
  simp only [wgt,List.map_cons,List.map_nil,List.sum_cons,List.sum_nil,hn,cntN]
  omega
 rw [wgt_app,h2] at hk;refine ⟨wgt (L ++ M),⟨lv,R,L ++ M,h.cps,h.sub,fun r hr => ?_,h.cel,rfl,?_⟩,?_⟩
 ·rcases h.oth r hr with rfl | h3 | h3
  ·exact .inr h.fil
  ·exact .inl h3
  ·exact .inr h3
 ·rw [wgt_app]; omega
 ·rw [wgt_app]; omega
theorem cfill_any (b : Bool) (W0 : World) (cb mb : Nat) (w : World) (lv : Value) (R L : List Rec) (hc : CyS b W0 w cb mb lv R L) (hF : ∀ r ∈ R,r ∈ L ∨ Fil b W0 w R r r.u.es.length) (hw : wgt L ≤ 2000) :
  Calls Try.prog 29 #[.pointer (some ⟨cb,0,none⟩)] w fun e w' => e = .returned (.tuple #[]) ∧ ∃ lv' R',CyS b W0 w' cb mb lv' R' [] ∧ (∀ q ∈ R,q ∈ R') ∧ (∀ r ∈ R',Fil b W0 w' R' r r.u.es.length) ∧ CelR w w' := by
 have H0 : Hid (∃ k,FillS b W0 w cb mb R w k) := ⟨wgt L,lv,R,L,hc,fun q hq => hq,hF,CelR.refl _,rfl,hw⟩;clear hc hF hw;obtain ⟨mu,hmu⟩ : ∃ mu : World → Nat,∀ W,(∃ k,FillS b W0 w cb mb R W k) → FillS b W0 w cb mb R W (mu W) ∧ ∀ j,FillS b W0 w cb mb R W j → mu W ≤ j := ⟨fun W => Classical.epsilon fun k => FillS b W0 w cb mb R W k ∧ ∀ j,FillS b W0 w cb mb R W j → k ≤ j,fun W h => Classical.epsilon_spec (least_of h)⟩;have HMU : Hid (∀ W,(∃ k,FillS b W0 w cb mb R W k) → FillS b W0 w cb mb R W (mu W) ∧ ∀ j,FillS b W0 w cb mb R W j → mu W ≤ j) := hmu;clear hmu
 go_enter Try.func29,Try.ntmps29
 go_wp2_with fail
 go_loopw [5] (fun _ wr => Hid (∃ k,FillS b W0 w cb mb R wr k)) (fun _ wr => mu wr)
 case atStart => exact H0
 case round =>
  clear H0;obtain ⟨k0,hk0⟩ : ∃ z,mu wr = z := ⟨_,rfl⟩;have hsp := HMU.out _ hrel.out;rw [hk0] at hsp;have HK0 : Hid (mu wr = k0) := hk0;clear hk0 hrel;obtain ⟨⟨lv1,R1,L1,hc,hsub,hfil,hcel,hwg,hk2⟩, -⟩ := hsp
  rcases List.eq_nil_or_concat L1 with hnil | ⟨L2,c,hcat⟩
  ·subst hnil;obtain ⟨la,lc,hlv⟩ := own_form hc.left;have hlv' : lv1 = .slice la 0 lc := hlv;subst hlv';have q2 := (hc.blk.cell 2).trans rfl;have HP : Hid (∃ lv' R',CyS b W0 wr cb mb lv' R' [] ∧ (∀ q ∈ R,q ∈ R') ∧ (∀ r ∈ R',Fil b W0 wr R' r r.u.es.length) ∧ CelR w wr) := ⟨_,R1,hc,hsub,fun r hr => (hfil r hr).resolve_left (by simp),hcel⟩;clear hc hsub hfil hcel hwg hk2 hlv;go_wp2_with fail;refine bodyPost_end (results_noneC rfl _ _ _) rfl ⟨rfl,HP.out⟩
  ·rw [List.concat_eq_append] at hcat;subst hcat;obtain ⟨hcR,hce⟩ := hc.sub c (List.mem_append.2 (.inr (by simp)));have hrc := hc.recs c hcR
   obtain ⟨m,hm⟩ : ∃ m,c.n = m + 1 := by
    cases h : c.n with
    | zero => have := hrc.src; rw [h] at this; exact this.elim
    | succ m => exact ⟨m,rfl⟩
   have hsrc := hrc.src;rw [hm] at hsrc;obtain ⟨ve',vr',hcl, -, -, -, -, -,hes, -, -⟩ := hsrc;simp only [Rec.cells,List.cons.injEq,and_true] at hcl;obtain ⟨-, -, -,rfl,rfl⟩ := hcl;have hsm := hrc.sm;rw [hm] at hsm;obtain ⟨n1,hn1⟩ : ∃ z,c.u.es.length = z := ⟨_,rfl⟩
   have hnp : 0 < n1 := by
    rw [← hn1];exact List.length_pos_iff.2 hce
   have hn500 : n1 ≤ 500 := by rw [← hn1]; exact hsm.2.2.1
   obtain ⟨ea,ec,hve,u1,u2,u3, -⟩ := RowP.open hes;rw [hn1] at hve u1
   obtain ⟨ge,oe,rfl⟩ : ∃ ge oe,ea = some ⟨ge,oe,none⟩ := by
    rcases u3 with h | h
    ·exact absurd h hce
    ·exact h
   obtain ⟨rows,ho1, -⟩ := hrc.room
   obtain ⟨g,tc,hto,ht1,ht2⟩ : ∃ g tc,c.nw = .slice (some ⟨g,0,none⟩) n1 tc ∧ n1 ≤ tc ∧ tc ≤ maxLen := by
    rcases ho1.2 with ⟨_,e0⟩ | ⟨g,cap,cur,e1,_,_,e4,e5,_⟩
    ·rw [hn1] at e0; omega
    ·rw [hn1] at e1 e4;exact ⟨g,cap,e1,e4,e5⟩
   obtain ⟨gl,lc,hlv,hl1,hl2,hl3⟩ : ∃ gl lc,lv1 = .slice (some ⟨gl,0,none⟩) (L2.length + 1) lc ∧ L2.length + 1 ≤ lc ∧ lc ≤ maxLen ∧ gl < wr.heap.size := by
    rcases hc.left.2 with ⟨_,e0⟩ | ⟨gl,cap,cur,e1,_,e3,e4,e5,_⟩
    ·simp at e0
    ·simp only [List.length_append,List.length_singleton] at e1 e4;exact ⟨gl,cap,e1,e4,e5,(Array.getElem?_eq_some_iff.1 e3).1⟩
   have hlast : wr.cell? ⟨gl,L2.length * 2,none⟩ = some c.ve ∧ wr.cell? ⟨gl,L2.length * 2 + 1,none⟩ = some c.nw := by
    have h1 := hc.left;rw [flat_more] at h1;have hg1 := fun (j : Nat) (v : Value) (hv : [c.ve,c.nw][j]? = some v) => h1.cells (g := gl) (by rw [hlv]; rfl) (L2.length * 2 + j) v (by rw [List.getElem?_append_right (by rw [flatM_len]; omega),flatM_len,Nat.add_sub_cancel_left]; exact hv)
    have e1 := hg1 0 _ rfl;have e2 := hg1 1 _ rfl;rw [Addr.add_lit,Nat.zero_add] at e1 e2;exact ⟨e1,e2⟩
   obtain ⟨Lk,hLk⟩ : ∃ z,L2.length = z := ⟨_,rfl⟩;obtain ⟨Ln,hLn⟩ : ∃ z,Lk + 1 = z := ⟨_,rfl⟩;have HLK : Hid (L2.length = Lk) := hLk;have HLN : Hid (Lk + 1 = Ln) := hLn;rw [hLk] at hlv hl1 hlast;rw [hLn] at hlv hl1;subst hlv;rw [hve,hto] at hlast;obtain ⟨l0,l1⟩ := hlast;have HC : Hid (CyS b W0 wr cb mb (.slice (some ⟨gl,0,none⟩) Ln lc) R1 (L2 ++ [c])) := hc;have HVE : Hid (c.ve = .slice (some ⟨ge,oe,none⟩) n1 ec ∧ c.nw = .slice (some ⟨g,0,none⟩) n1 tc ∧ c.u.es.length = n1 ∧ c.n = m + 1 ∧ c ∈ R1) := ⟨hve,hto,hn1,hm,hcR⟩;have HES : Hid (EnsR m W0 (.slice (some ⟨ge,oe,none⟩) n1 ec) c.u.es) := (by rw [← hve]; exact hes : EnsR m W0 (.slice (some ⟨ge,oe,none⟩) n1 ec) c.u.es);have HSM : Hid (SmN (m + 1) c.u) := hsm;have HF : Hid ((∀ q ∈ R,q ∈ R1) ∧ (∀ r ∈ R1,r ∈ L2 ++ [c] ∨ Fil b W0 wr R1 r r.u.es.length) ∧ CelR w wr ∧ wgt (L2 ++ [c]) = k0 ∧ k0 ≤ 2000) := ⟨hsub,hfil,hcel,hwg,hk2⟩
   have hsb : (Ln : Int) - 1 = (Lk : Int) := by omega
   have hLl : Lk < Ln := by omega
   have q2 := (hc.blk.cell 2).trans rfl;have hcs : cb < wr.heap.size := hc.blk.lt
   have dgt : decide (0 < (Ln : Int)) = true := by simp; omega
   unfold maxLen at u2 ht2 hl2
   have hlc : Lk ≤ lc := by omega
   have HU : Hid (n1 ≤ ec ∧ ec ≤ 9223372036854775807 ∧ n1 ≤ tc ∧ tc ≤ 9223372036854775807) := ⟨u1,u2,ht1,ht2⟩;have HT1 : Hid (wr.cell? ⟨cb,2,none⟩ = some (.slice (some ⟨gl,0,none⟩) Ln lc) ∧ wr.cell? ⟨gl,Lk * 2,none⟩ = some (.slice (some ⟨ge,oe,none⟩) n1 ec) ∧ wr.cell? ⟨gl,Lk * 2 + 1,none⟩ = some (.slice (some ⟨g,0,none⟩) n1 tc)) := ⟨q2,l0,l1⟩;have HB1 : Hid (Blk (wr.drew.alloc (Obj.cells #[.slice (some ⟨ge,oe,none⟩) n1 ec,.slice (some ⟨g,0,none⟩) n1 tc] 136)) wr.heap.size #[.slice (some ⟨ge,oe,none⟩) n1 ec,.slice (some ⟨g,0,none⟩) n1 tc] 136) := Blk.new wr.drew _ _;have al1 : Below wr.heap.size wr (wr.drew.alloc (Obj.cells #[.slice (some ⟨ge,oe,none⟩) n1 ec,.slice (some ⟨g,0,none⟩) n1 tc] 136)) := (Below.refl _ _).drew.alloc (Nat.le_refl _) _;clear hc hes hsm hrc hn1 hm hve hto hsub hfil hcel hwg hk2 ho1 hce hcR u1 u2 u3 ht1 ht2 hLk hLn l0 l1
   go_upto_region 1 with fail
   clear q2 dgt;refine M_region (T := fun W => W.cell? ⟨cb,2,none⟩ = some (.slice (some ⟨gl,0,none⟩) Ln lc) ∧ W.cell? ⟨gl,Lk * 2,none⟩ = some (.slice (some ⟨ge,oe,none⟩) n1 ec) ∧ W.cell? ⟨gl,Lk * 2 + 1,none⟩ = some (.slice (some ⟨g,0,none⟩) n1 tc)) (m := 13) (by kernel_rfl) ?_;have hS : wr.drew.cell? ⟨cb,2,none⟩ = some (.slice (some ⟨gl,0,none⟩) Ln lc) ∧ wr.drew.cell? ⟨gl,Lk * 2,none⟩ = some (.slice (some ⟨ge,oe,none⟩) n1 ec) ∧ wr.drew.cell? ⟨gl,Lk * 2 + 1,none⟩ = some (.slice (some ⟨g,0,none⟩) n1 tc) := HT1.out;refine M_take 0 11 (.pointer (some ⟨cb,0,none⟩)) _ rfl rfl (by kernel_rfl) (by kernel_rfl) (by kernel_rfl) (by kernel_rfl) (by kernel_rfl) (fun _ _ _ h => h) (by rfl) (fun w' hw' => ?_) hS (listed' := bts 14 1) (by kernel_rfl) rfl ?_
   ·go_simp
   simp only [zsA,zsZ,zsS];refine M_take 1 12 (.pointer (some ⟨cb,0,none⟩)) _ rfl rfl (by kernel_rfl) (by kernel_rfl) (by kernel_rfl) (by kernel_rfl) (by kernel_rfl) (fun _ _ _ h => h) (by rfl) (fun w' hw' => ?_) hS (listed' := bts 14 3) (by kernel_rfl) rfl ?_
   ·go_simp
   simp only [zsA,zsZ,zsS];refine M_take 2 13 (.pointer (some ⟨cb,2,none⟩)) _ rfl rfl (by kernel_rfl) (by kernel_rfl) (by kernel_rfl) (by kernel_rfl) (by kernel_rfl) (fun _ _ _ h => h) (by rfl) (fun w' hw' => ?_) hS (listed' := bts 14 7) (by kernel_rfl) rfl ?_
   ·go_simp
   simp only [zsA,zsZ,zsS];refine M_take 3 14 (.slice (some ⟨gl,0,none⟩) Ln lc) _ rfl rfl (by kernel_rfl) (by kernel_rfl) (by kernel_rfl) (by kernel_rfl) (by kernel_rfl) (fun _ _ _ h => h) (by rfl) (fun w' hw' => ?_) hS (listed' := bts 14 15) (by kernel_rfl) rfl ?_
   ·obtain ⟨f0,f1,f2⟩ := hw'; go_simp
   simp only [zsA,zsZ,zsS];refine M_take 4 15 (.pointer (some ⟨cb,0,none⟩)) _ rfl rfl (by kernel_rfl) (by kernel_rfl) (by kernel_rfl) (by kernel_rfl) (by kernel_rfl) (fun _ _ _ h => h) (by rfl) (fun w' hw' => ?_) hS (listed' := bts 14 31) (by kernel_rfl) rfl ?_
   ·go_simp
   simp only [zsA,zsZ,zsS];refine M_take 5 16 (.pointer (some ⟨cb,0,none⟩)) _ rfl rfl (by kernel_rfl) (by kernel_rfl) (by kernel_rfl) (by kernel_rfl) (by kernel_rfl) (fun _ _ _ h => h) (by rfl) (fun w' hw' => ?_) hS (listed' := bts 14 63) (by kernel_rfl) rfl ?_
   ·go_simp
   simp only [zsA,zsZ,zsS];refine M_take 6 17 (.pointer (some ⟨cb,2,none⟩)) _ rfl rfl (by kernel_rfl) (by kernel_rfl) (by kernel_rfl) (by kernel_rfl) (by kernel_rfl) (fun _ _ _ h => h) (by rfl) (fun w' hw' => ?_) hS (listed' := bts 14 127) (by kernel_rfl) rfl ?_
   ·go_simp
   simp only [zsA,zsZ,zsS];refine M_take 7 18 (.slice (some ⟨gl,0,none⟩) Ln lc) _ rfl rfl (by kernel_rfl) (by kernel_rfl) (by kernel_rfl) (by kernel_rfl) (by kernel_rfl) (fun _ _ _ h => h) (by rfl) (fun w' hw' => ?_) hS (listed' := bts 14 255) (by kernel_rfl) rfl ?_
   ·obtain ⟨f0,f1,f2⟩ := hw'; go_simp
   simp only [zsA,zsZ,zsS];refine M_take 8 19 (.int .i64 (Ln : Int)) _ rfl rfl (by kernel_rfl) (by kernel_rfl) (by kernel_rfl) (by kernel_rfl) (by kernel_rfl) (fun _ _ _ h => h) (by rfl) (fun w' hw' => ?_) hS (listed' := bts 14 511) (by kernel_rfl) rfl ?_
   ·go_simp
   simp only [zsA,zsZ,zsS];refine M_take 9 20 (.int .i64 (Lk : Int)) _ rfl rfl (by kernel_rfl) (by kernel_rfl) (by kernel_rfl) (by kernel_rfl) (by kernel_rfl) (fun _ _ _ h => h) (by rfl) (fun w' hw' => ?_) hS (listed' := bts 14 1023) (by kernel_rfl) rfl ?_
   ·have hwp : IntKind.i64.wrap (Lk : Int) = (Lk : Int) := (by rw [IntKind.wrap_i64]; omega); go_simp
   simp only [zsA,zsZ,zsS];refine M_take 10 21 (.pointer (some ⟨gl,Lk * 2,none⟩)) _ rfl rfl (by kernel_rfl) (by kernel_rfl) (by kernel_rfl) (by kernel_rfl) (by kernel_rfl) (fun _ _ _ h => h) (by rfl) (fun w' hw' => ?_) hS (listed' := bts 14 2047) (by kernel_rfl) rfl ?_
   ·go_simp
   simp only [zsA,zsZ,zsS];refine M_take 11 22 (.agg #[.slice (some ⟨ge,oe,none⟩) n1 ec,.slice (some ⟨g,0,none⟩) n1 tc]) _ rfl rfl (by kernel_rfl) (by kernel_rfl) (by kernel_rfl) (by kernel_rfl) (by kernel_rfl) (fun _ _ _ h => h) (by rfl) (fun w' hw' => ?_) hS (listed' := bts 14 4095) (by kernel_rfl) rfl ?_
   ·obtain ⟨f0,f1,f2⟩ := hw'; go_simp
   simp only [zsA,zsZ,zsS];have hdz : wr.drew.heap.size = wr.heap.size := rfl;have alz : Below wr.heap.size wr (wr.drew.alloc (Obj.cells #[.slice none 0 0,.slice none 0 0] 136)) := (Below.refl _ _).drew.alloc (Nat.le_refl _) _;have hTz : (wr.drew.alloc (Obj.cells #[.slice none 0 0,.slice none 0 0] 136)).cell? ⟨cb,2,none⟩ = some (.slice (some ⟨gl,0,none⟩) Ln lc) ∧ (wr.drew.alloc (Obj.cells #[.slice none 0 0,.slice none 0 0] 136)).cell? ⟨gl,Lk * 2,none⟩ = some (.slice (some ⟨ge,oe,none⟩) n1 ec) ∧ (wr.drew.alloc (Obj.cells #[.slice none 0 0,.slice none 0 0] 136)).cell? ⟨gl,Lk * 2 + 1,none⟩ = some (.slice (some ⟨g,0,none⟩) n1 tc) := ⟨(alz.cell (p := ⟨cb,2,none⟩) hcs).trans HT1.out.1,(alz.cell (p := ⟨gl,Lk * 2,none⟩) hl3).trans HT1.out.2.1,(alz.cell (p := ⟨gl,Lk * 2 + 1,none⟩) hl3).trans HT1.out.2.2⟩;refine M_run 12 2 (.pointer (some ⟨wr.heap.size,0,none⟩)) (wr.drew.alloc (Obj.cells #[.slice none 0 0,.slice none 0 0] 136)) rfl rfl (by kernel_rfl) (by rfl) (listed' := bts 14 8191) (by kernel_rfl) (by go_simp) hTz ?_;simp only [zsA,zsZ,zsS];refine M_store 13 (wr.drew.alloc (Obj.cells #[.slice (some ⟨ge,oe,none⟩) n1 ec,.slice (some ⟨g,0,none⟩) n1 tc] 136)) rfl rfl (by kernel_rfl) (by rfl) (listed' := bts 14 16383) (by kernel_rfl) (by go_simp) (by kernel_rfl) ?_;refine M_done (by kernel_rfl) ?_ _;have HC1 : Hid (CyS b W0 (wr.drew.alloc (Obj.cells #[.slice (some ⟨ge,oe,none⟩) n1 ec,.slice (some ⟨g,0,none⟩) n1 tc] 136)) cb mb (.slice (some ⟨gl,0,none⟩) Ln lc) R1 (L2 ++ [c])) := HC.out.mk_below al1;have HF1 : Hid ((∀ q ∈ R,q ∈ R1) ∧ (∀ r ∈ R1,r ∈ L2 ++ [c] ∨ Fil b W0 (wr.drew.alloc (Obj.cells #[.slice (some ⟨ge,oe,none⟩) n1 ec,.slice (some ⟨g,0,none⟩) n1 tc] 136)) R1 r r.u.es.length) ∧ CelR w (wr.drew.alloc (Obj.cells #[.slice (some ⟨ge,oe,none⟩) n1 ec,.slice (some ⟨g,0,none⟩) n1 tc] 136)) ∧ wgt (L2 ++ [c]) = k0 ∧ k0 ≤ 2000) := ⟨HF.out.1,fun r hr => (HF.out.2.1 r hr).imp id fun h => h.celT (CelT.ofBelow al1),HF.out.2.2.1.trans (CelT.ofBelow al1).celR,HF.out.2.2.2⟩;have hl31 : gl < (wr.drew.alloc (Obj.cells #[.slice (some ⟨ge,oe,none⟩) n1 ec,.slice (some ⟨g,0,none⟩) n1 tc] 136)).heap.size := Nat.lt_of_lt_of_le hl3 al1.size;clear HC HF HT1 hS hdz alz hTz al1 hcs
   go_upto_region 2 with fail
   generalize (wr.drew.alloc (Obj.cells #[.slice (some ⟨ge,oe,none⟩) n1 ec,.slice (some ⟨g,0,none⟩) n1 tc] 136)) = W1 at *;obtain ⟨b2,hb2⟩ : ∃ z,wr.heap.size = z := ⟨_,rfl⟩;rw [hb2] at HB1 hl3;simp only [hb2];clear hb2;have hcs : cb < W1.heap.size := HC1.out.blk.lt;have hcb2 : b2 ≠ cb := HB1.out.ne HC1.out.blk (by decide);have BC1 := HC1.out.blk;refine M_region (T := fun W => W.cell? ⟨cb,2,none⟩ = some (.slice (some ⟨gl,0,none⟩) Ln lc)) (m := 12) (by kernel_rfl) ?_;have hS : W1.drew.cell? ⟨cb,2,none⟩ = some (.slice (some ⟨gl,0,none⟩) Ln lc) := (BC1.cell 2).trans rfl;refine M_take 0 23 (.pointer (some ⟨cb,0,none⟩)) _ rfl rfl (by kernel_rfl) (by kernel_rfl) (by kernel_rfl) (by kernel_rfl) (by kernel_rfl) (fun _ _ _ h => h) (by rfl) (fun w' hw' => ?_) hS (listed' := bts 15 1) (by kernel_rfl) rfl ?_
   ·go_simp
   simp only [zsA,zsZ,zsS];refine M_take 1 24 (.pointer (some ⟨cb,0,none⟩)) _ rfl rfl (by kernel_rfl) (by kernel_rfl) (by kernel_rfl) (by kernel_rfl) (by kernel_rfl) (fun _ _ _ h => h) (by rfl) (fun w' hw' => ?_) hS (listed' := bts 15 3) (by kernel_rfl) rfl ?_
   ·go_simp
   simp only [zsA,zsZ,zsS];refine M_take 2 25 (.pointer (some ⟨cb,0,none⟩)) _ rfl rfl (by kernel_rfl) (by kernel_rfl) (by kernel_rfl) (by kernel_rfl) (by kernel_rfl) (fun _ _ _ h => h) (by rfl) (fun w' hw' => ?_) hS (listed' := bts 15 7) (by kernel_rfl) rfl ?_
   ·go_simp
   simp only [zsA,zsZ,zsS];refine M_take 3 26 (.pointer (some ⟨cb,2,none⟩)) _ rfl rfl (by kernel_rfl) (by kernel_rfl) (by kernel_rfl) (by kernel_rfl) (by kernel_rfl) (fun _ _ _ h => h) (by rfl) (fun w' hw' => ?_) hS (listed' := bts 15 15) (by kernel_rfl) rfl ?_
   ·go_simp
   simp only [zsA,zsZ,zsS];refine M_take 4 27 (.slice (some ⟨gl,0,none⟩) Ln lc) _ rfl rfl (by kernel_rfl) (by kernel_rfl) (by kernel_rfl) (by kernel_rfl) (by kernel_rfl) (fun _ _ _ h => h) (by rfl) (fun w' hw' => ?_) hS (listed' := bts 15 31) (by kernel_rfl) rfl ?_
   ·go_simp
   simp only [zsA,zsZ,zsS];refine M_take 5 28 (.pointer (some ⟨cb,0,none⟩)) _ rfl rfl (by kernel_rfl) (by kernel_rfl) (by kernel_rfl) (by kernel_rfl) (by kernel_rfl) (fun _ _ _ h => h) (by rfl) (fun w' hw' => ?_) hS (listed' := bts 15 63) (by kernel_rfl) rfl ?_
   ·go_simp
   simp only [zsA,zsZ,zsS];refine M_take 6 29 (.pointer (some ⟨cb,0,none⟩)) _ rfl rfl (by kernel_rfl) (by kernel_rfl) (by kernel_rfl) (by kernel_rfl) (by kernel_rfl) (fun _ _ _ h => h) (by rfl) (fun w' hw' => ?_) hS (listed' := bts 15 127) (by kernel_rfl) rfl ?_
   ·go_simp
   simp only [zsA,zsZ,zsS];refine M_take 7 30 (.pointer (some ⟨cb,2,none⟩)) _ rfl rfl (by kernel_rfl) (by kernel_rfl) (by kernel_rfl) (by kernel_rfl) (by kernel_rfl) (fun _ _ _ h => h) (by rfl) (fun w' hw' => ?_) hS (listed' := bts 15 255) (by kernel_rfl) rfl ?_
   ·go_simp
   simp only [zsA,zsZ,zsS];refine M_take 8 31 (.slice (some ⟨gl,0,none⟩) Ln lc) _ rfl rfl (by kernel_rfl) (by kernel_rfl) (by kernel_rfl) (by kernel_rfl) (by kernel_rfl) (fun _ _ _ h => h) (by rfl) (fun w' hw' => ?_) hS (listed' := bts 15 511) (by kernel_rfl) rfl ?_
   ·go_simp
   simp only [zsA,zsZ,zsS];refine M_take 9 32 (.int .i64 (Ln : Int)) _ rfl rfl (by kernel_rfl) (by kernel_rfl) (by kernel_rfl) (by kernel_rfl) (by kernel_rfl) (fun _ _ _ h => h) (by rfl) (fun w' hw' => ?_) hS (listed' := bts 15 1023) (by kernel_rfl) rfl ?_
   ·go_simp
   simp only [zsA,zsZ,zsS];refine M_take 10 33 (.int .i64 (Lk : Int)) _ rfl rfl (by kernel_rfl) (by kernel_rfl) (by kernel_rfl) (by kernel_rfl) (by kernel_rfl) (fun _ _ _ h => h) (by rfl) (fun w' hw' => ?_) hS (listed' := bts 15 2047) (by kernel_rfl) rfl ?_
   ·have hwp : IntKind.i64.wrap (Lk : Int) = (Lk : Int) := (by rw [IntKind.wrap_i64]; omega); go_simp
   simp only [zsA,zsZ,zsS];refine M_take 11 34 (.slice (some ⟨gl,0,none⟩) Lk lc) _ rfl rfl (by kernel_rfl) (by kernel_rfl) (by kernel_rfl) (by kernel_rfl) (by kernel_rfl) (fun _ _ _ h => h) (by rfl) (fun w' hw' => ?_) hS (listed' := bts 15 4095) (by kernel_rfl) rfl ?_
   ·go_simp
   simp only [zsA,zsZ,zsS];refine M_run 12 35 (.pointer (some ⟨cb,0,none⟩)) (W1.drew) rfl rfl (by kernel_rfl) (by rfl) (listed' := bts 15 8191) (by kernel_rfl) (by go_simp) hS ?_;simp only [zsA,zsZ,zsS];refine M_run 13 36 (.pointer (some ⟨cb,2,none⟩)) (W1.drew) rfl rfl (by kernel_rfl) (by rfl) (listed' := bts 15 16383) (by kernel_rfl) (by go_simp) hS ?_;simp only [zsA,zsZ,zsS];have u2 : W1.cell? ⟨cb,2,none⟩ = some (.slice (some ⟨gl,0,none⟩) Ln lc) := (BC1.cell 2).trans rfl;have u2z : W1.frozen? ⟨cb,2,none⟩ = false := BC1.froz 2;refine M_store 14 (W1.drew.setCell ⟨cb,2,none⟩ (.slice (some ⟨gl,0,none⟩) Lk lc)) rfl rfl (by kernel_rfl) (by rfl) (listed' := bts 15 32767) (by kernel_rfl) (by go_simp) (by kernel_rfl) ?_;refine M_done (by kernel_rfl) ?_ _;have kp2 : Kp (fun q => q = cb) W1 (W1.drew.setCell ⟨cb,2,none⟩ (.slice (some ⟨gl,0,none⟩) Lk lc)) := Kp.setCell (S := fun q => q = cb) (p := ⟨cb,2,none⟩) ((Kp.refl _ W1).drewN 1) (fun _ => rfl) _;have hB2 : Blk (W1.drew.setCell ⟨cb,2,none⟩ (.slice (some ⟨gl,0,none⟩) Lk lc)) cb #[.bool b,.map (some mb),.slice (some ⟨gl,0,none⟩) Lk lc] 87 := Blk.set (w := W1.drew) BC1 2 _ rfl
   have HPO : Hid (CyS b W0 (W1.drew.setCell ⟨cb,2,none⟩ (.slice (some ⟨gl,0,none⟩) Lk lc)) cb mb (.slice (some ⟨gl,0,none⟩) Lk lc) R1 L2 ∧ CelT W1 (W1.drew.setCell ⟨cb,2,none⟩ (.slice (some ⟨gl,0,none⟩) Lk lc))) := (by
    have h1 := HC1.out
    have e1 : Ln = L2.length + 1 := by rw [HLK.out]; exact HLN.out.symm
    rw [e1] at h1;have h2 := h1.pop kp2 (by rw [HLK.out]; exact hB2);rw [HLK.out] at h2
    exact h2 : CyS b W0 (W1.drew.setCell ⟨cb,2,none⟩ (.slice (some ⟨gl,0,none⟩) Lk lc)) cb mb (.slice (some ⟨gl,0,none⟩) Lk lc) R1 L2 ∧ CelT W1 (W1.drew.setCell ⟨cb,2,none⟩ (.slice (some ⟨gl,0,none⟩) Lk lc)))
   have HBB : Hid (Blk (W1.drew.setCell ⟨cb,2,none⟩ (.slice (some ⟨gl,0,none⟩) Lk lc)) b2 #[.slice (some ⟨ge,oe,none⟩) n1 ec,.slice (some ⟨g,0,none⟩) n1 tc] 136) := HB1.out.kp kp2 hcb2
   have HIN : Hid (InnS b W0 w cb mb b2 m R L2 c (.slice (some ⟨gl,0,none⟩) Lk lc) R1 [] 0 (W1.drew.setCell ⟨cb,2,none⟩ (.slice (some ⟨gl,0,none⟩) Lk lc))) := (by
    obtain ⟨f1,f2,f3,f4,f5⟩ := HF1.out;obtain ⟨e1,e2,e3,e4,e5⟩ := HVE.out;refine ⟨by rw [List.append_nil]; exact HPO.out.1,by rw [e1,e2]; exact HBB.out,?_,f1,e5,((HPO.out.1.recs c e5).room).mono (by simp),fun r hr => ?_,by simp [wgt],f3.trans HPO.out.2.celR⟩
    ·intro h
     have h6 : gl = b2 := by simpa [Value.ownBlock] using h
     omega
    ·rw [List.append_nil]
     rcases f2 r hr with h | h
     ·rcases List.mem_append.1 h with h | h
      ·exact .inr (.inl h)
      ·exact .inl (by simpa using h)
     ·exact .inr (.inr (h.celT HPO.out.2)) : InnS b W0 w cb mb b2 m R L2 c (.slice (some ⟨gl,0,none⟩) Lk lc) R1 [] 0 (W1.drew.setCell ⟨cb,2,none⟩ (.slice (some ⟨gl,0,none⟩) Lk lc)))
   have HWK : Hid (wgt (L2 ++ [c]) = k0 ∧ k0 ≤ 2000) := HF1.out.2.2.2;have x0 : (W1.drew.setCell ⟨cb,2,none⟩ (.slice (some ⟨gl,0,none⟩) Lk lc)).cell? ⟨b2,0,none⟩ = some (.slice (some ⟨ge,oe,none⟩) n1 ec) := (HBB.out.cell 0).trans rfl;clear u2 u2z kp2 hB2 HPO hS BC1 HF1 HC1 hcs hcb2 HB1 HBB hl31 hl3;generalize (W1.drew.setCell ⟨cb,2,none⟩ (.slice (some ⟨gl,0,none⟩) Lk lc)) = W2 at *;go_wp2_with fail;clear x0
   go_loopw [40] (fun iv wq => ∃ (i : Nat) (lvi : Value) (Ri M : List Rec),iv = .int .i64 (i : Int) ∧ i ≤ n1 ∧ Hid (InnS b W0 w cb mb b2 m R L2 c lvi Ri M i wq)) (fun iv _ => n1 - (intOf iv).toNat)
   case atStart => exact ⟨0,_,R1,[],rfl,by omega,HIN⟩
   case round =>
    clear HIN;obtain ⟨i,lvi,Ri,M,rfl,hi,HI⟩ := hrel;obtain ⟨hu1,hu2,hu3,hu4⟩ := HU.out
    by_cases hlt : i < n1
    ·obtain ⟨e,he⟩ : ∃ r,c.u.es[i]? = some r := ⟨_,List.getElem?_eq_getElem (by rw [HVE.out.2.2.1]; exact hlt)⟩;obtain ⟨ge',oe',a1,c1,e0,y0,y1,h64,hts,hc1,hc2⟩ := ensR_get HES.out he;simp only [Option.some.injEq,Addr.mk.injEq,and_true] at e0;obtain ⟨rfl,rfl⟩ := e0;have hcelW := Cel.ofBelow HI.out.cps.below
     replace y0 := hcelW.cell y0
     replace y1 := hcelW.cell y1
     obtain ⟨XT,hXT⟩ : ∃ z,e.1 = z := ⟨_,rfl⟩;obtain ⟨Xl,hXl⟩ : ∃ z,e.2.length = z := ⟨_,rfl⟩;rw [hXT] at y0;rw [hXl] at y1 hts hc1;have HX : Hid (e.1 = XT ∧ e.2.length = Xl ∧ c.u.es[i]? = some e) := ⟨hXT,hXl,he⟩;have HTS : Hid (TrsR m W0 (.slice a1 Xl c1) e.2) := hts;have al3 : Below wr.heap.size wr (wr.alloc (Obj.cells #[.int .i64 XT,.slice a1 Xl c1] 57)) := (Below.refl _ _).alloc (Nat.le_refl _) _;have HAL : Hid (Below wr.heap.size wr (wr.alloc (Obj.cells #[.int .i64 XT,.slice a1 Xl c1] 57))) := al3;have B4 : Blk (wr.alloc (Obj.cells #[.int .i64 XT,.slice a1 Xl c1] 57)) wr.heap.size #[.int .i64 XT,.slice a1 Xl c1] 57 := Blk.new wr _ _
     have HI3 : Hid (InnS b W0 w cb mb b2 m R L2 c lvi Ri M i (wr.alloc (Obj.cells #[.int .i64 XT,.slice a1 Xl c1] 57))) := (by
      obtain ⟨i1,i2,i3,i4,i5,i6,i7,i8,i9⟩ := HI.out
      exact ⟨i1.mk_below al3,i2.below al3,i3,i4,i5,i6.celT (CelT.ofBelow al3),fun r hr => (i7 r hr).imp id fun h => h.imp id fun h => h.celT (CelT.ofBelow al3),i8,i9.trans (CelT.ofBelow al3).celR⟩ : InnS b W0 w cb mb b2 m R L2 c lvi Ri M i (wr.alloc (Obj.cells #[.int .i64 XT,.slice a1 Xl c1] 57)))
     clear he hts h64 hXT hXl al3 hcelW HI
     go_upto_region 6 with fail
     clear y0 y1;generalize (wr.alloc (Obj.cells #[.int .i64 XT,.slice a1 Xl c1] 57)) = W3 at *;obtain ⟨b4,hb4⟩ : ∃ z,wr.heap.size = z := ⟨_,rfl⟩;rw [hb4] at B4;simp only [hb4];clear hb4 HAL
     have BU3 : Blk W3 b2 #[.slice (some ⟨ge,oe,none⟩) n1 ec,.slice (some ⟨g,0,none⟩) n1 tc] 136 := by
      have := HI3.out.blk;rw [HVE.out.1,HVE.out.2.1] at this;exact this
     have dr : Below W3.heap.size W3 W3.drew := (Below.refl _ _).drew
     have HI4 : Hid (InnS b W0 w cb mb b2 m R L2 c lvi Ri M i W3.drew) := (by
      obtain ⟨i1,i2,i3,i4,i5,i6,i7,i8,i9⟩ := HI3.out
      exact ⟨i1.mk_below dr,i2.below dr,i3,i4,i5,i6.celT (CelT.ofBelow dr),fun r hr => (i7 r hr).imp id fun h => h.imp id fun h => h.celT (CelT.ofBelow dr),i8,i9.trans (CelT.ofBelow dr).celR⟩ : InnS b W0 w cb mb b2 m R L2 c lvi Ri M i W3.drew)
     have HCA : Hid (Calls Try.prog 55 #[.pointer (some ⟨cb,0,none⟩),.slice a1 Xl c1] W3.drew (TrsP b W0 cb mb m e.2 lvi Ri (L2 ++ M) W3.drew)) := ctrees_any b W0 cb mb m e.2 _ _ lvi Ri (L2 ++ M) HTS.out (HSM.out.2.2.2.2 e (List.mem_of_getElem? HX.out.2.2)).2 (HSM.out.2.2.2.2 e (List.mem_of_getElem? HX.out.2.2)).1 (by
      have h1 := HI4.out.cps.len;have h2 := HI4.out.wg
      have h3 : (c.u.es.take i).length ≤ c.u.es.length := by rw [List.length_take]; omega
      have h4 : ((c.u.es.take i).map fun e => (e.2.map (cntN m)).sum).sum ≤ ((c.u.es).map fun e => (e.2.map (cntN m)).sum).sum := by
       conv => rhs; rw [← List.take_append_drop i c.u.es]
       rw [List.map_append,List.sum_append]
       omega
      have h8 := sum_subs (cntN m) c.u.es;have h5 := HWK.out;rw [wgt_app] at h5
      have h6 : wgt [c] = 1 + ((subs c.u.es).map (cntN m)).sum := by
       simp only [wgt,List.map_cons,List.map_nil,List.sum_cons,List.sum_nil,HVE.out.2.2.2.1,cntN]
       omega
      have h7 := (HSM.out.2.2.2.2 e (List.mem_of_getElem? HX.out.2.2)).1;rw [wgt_app] at h1
      omega) HI4.out.cps
     refine M_region (T := fun W => W.cell? ⟨b2,1,none⟩ = some (.slice (some ⟨g,0,none⟩) n1 tc) ∧ W.cell? ⟨b4,0,none⟩ = some (.int .i64 XT) ∧ W.cell? ⟨b4,1,none⟩ = some (.slice a1 Xl c1)) (m := 10) (by kernel_rfl) ?_;have hS : W3.drew.cell? ⟨b2,1,none⟩ = some (.slice (some ⟨g,0,none⟩) n1 tc) ∧ W3.drew.cell? ⟨b4,0,none⟩ = some (.int .i64 XT) ∧ W3.drew.cell? ⟨b4,1,none⟩ = some (.slice a1 Xl c1) := ⟨(BU3.cell 1).trans rfl,(B4.cell 0).trans rfl,(B4.cell 1).trans rfl⟩;refine M_take 0 45 (.pointer (some ⟨b2,1,none⟩)) _ rfl rfl (by kernel_rfl) (by kernel_rfl) (by kernel_rfl) (by kernel_rfl) (by kernel_rfl) (fun _ _ _ h => h) (by rfl) (fun w' hw' => ?_) hS (listed' := bts 12 1) (by kernel_rfl) rfl ?_
     ·go_simp
     simp only [zsA,zsZ,zsS];refine M_take 1 46 (.slice (some ⟨g,0,none⟩) n1 tc) _ rfl rfl (by kernel_rfl) (by kernel_rfl) (by kernel_rfl) (by kernel_rfl) (by kernel_rfl) (fun _ _ _ h => h) (by rfl) (fun w' hw' => ?_) hS (listed' := bts 12 3) (by kernel_rfl) rfl ?_
     ·obtain ⟨f0,f1,f2⟩ := hw'; go_simp
     simp only [zsA,zsZ,zsS];refine M_take 2 47 (.int .i64 (i : Int)) _ rfl rfl (by kernel_rfl) (by kernel_rfl) (by kernel_rfl) (by kernel_rfl) (by kernel_rfl) (fun _ _ _ h => h) (by rfl) (fun w' hw' => ?_) hS (listed' := bts 12 7) (by kernel_rfl) rfl ?_
     ·go_simp
     simp only [zsA,zsZ,zsS];refine M_take 3 48 (.pointer (some ⟨b4,0,none⟩)) _ rfl rfl (by kernel_rfl) (by kernel_rfl) (by kernel_rfl) (by kernel_rfl) (by kernel_rfl) (fun _ _ _ h => h) (by rfl) (fun w' hw' => ?_) hS (listed' := bts 12 15) (by kernel_rfl) rfl ?_
     ·go_simp
     simp only [zsA,zsZ,zsS];refine M_take 4 49 (.int .i64 XT) _ rfl rfl (by kernel_rfl) (by kernel_rfl) (by kernel_rfl) (by kernel_rfl) (by kernel_rfl) (fun _ _ _ h => h) (by rfl) (fun w' hw' => ?_) hS (listed' := bts 12 31) (by kernel_rfl) rfl ?_
     ·obtain ⟨f0,f1,f2⟩ := hw'; go_simp
     simp only [zsA,zsZ,zsS];refine M_take 5 50 (.pointer (some ⟨cb,0,none⟩)) _ rfl rfl (by kernel_rfl) (by kernel_rfl) (by kernel_rfl) (by kernel_rfl) (by kernel_rfl) (fun _ _ _ h => h) (by rfl) (fun w' hw' => ?_) hS (listed' := bts 12 63) (by kernel_rfl) rfl ?_
     ·go_simp
     simp only [zsA,zsZ,zsS];refine M_take 6 51 (.pointer (some ⟨b4,1,none⟩)) _ rfl rfl (by kernel_rfl) (by kernel_rfl) (by kernel_rfl) (by kernel_rfl) (by kernel_rfl) (fun _ _ _ h => h) (by rfl) (fun w' hw' => ?_) hS (listed' := bts 12 127) (by kernel_rfl) rfl ?_
     ·go_simp
     simp only [zsA,zsZ,zsS];refine M_take 7 52 (.slice a1 Xl c1) _ rfl rfl (by kernel_rfl) (by kernel_rfl) (by kernel_rfl) (by kernel_rfl) (by kernel_rfl) (fun _ _ _ h => h) (by rfl) (fun w' hw' => ?_) hS (listed' := bts 12 255) (by kernel_rfl) rfl ?_
     ·obtain ⟨f0,f1,f2⟩ := hw'; go_simp
     simp only [zsA,zsZ,zsS];refine M_call 8 53 55 #[.pointer (some ⟨cb,0,none⟩),.slice a1 Xl c1] rfl rfl (by kernel_rfl) (by rfl) (listed' := bts 12 511) (by kernel_rfl) (fun W => by go_simp) ?_;refine Calls.mono HCA.out ?_;rintro ee W5 ⟨vt,lv2,R2,M2,rfl,k1,k2,k3,k4,k5,k6,k7,k8⟩;have hU5 := (k8 b2 _ (BU3.below dr) HI4.out.lvn).1;have hB45 := k7 b4 _ _ (.inl rfl) (B4.below dr);have hS : W5.cell? ⟨b2,1,none⟩ = some (.slice (some ⟨g,0,none⟩) n1 tc) ∧ W5.cell? ⟨b4,0,none⟩ = some (.int .i64 XT) ∧ W5.cell? ⟨b4,1,none⟩ = some (.slice a1 Xl c1) := ⟨(hU5.cell 1).trans rfl,(hB45.cell 0).trans rfl,(hB45.cell 1).trans rfl⟩
     obtain ⟨va,vc,hvt⟩ : ∃ va vc,vt = .slice va Xl vc := by
      obtain ⟨rw0,q1, -⟩ := k1;obtain ⟨va,vc,h⟩ := own_form q1;rw [HX.out.2.1] at h;exact ⟨va,vc,h⟩
     subst hvt;refine ⟨_,rfl,hS,?_⟩;simp only [zsA,zsZ,zsS];refine M_run 9 54 (.agg #[.int .i64 XT,.slice va Xl vc]) (W5) rfl rfl (by kernel_rfl) (by rfl) (listed' := bts 12 1023) (by kernel_rfl) (by go_simp) hS ?_;simp only [zsA,zsZ,zsS];refine M_run 10 55 (.pointer (some ⟨g,i * 2,none⟩)) (W5) rfl rfl (by kernel_rfl) (by rfl) (listed' := bts 12 2047) (by kernel_rfl) (by go_simp) hS ?_;simp only [zsA,zsZ,zsS]
     have hcell : ∃ v0 v1,W5.cell? ⟨g,i * 2,none⟩ = some v0 ∧ W5.cell? ⟨g,i * 2 + 1,none⟩ = some v1 ∧ (∀ k,W5.frozen? ⟨g,k,none⟩ = false) := by
      obtain ⟨rw0,q1,q2,q3, -⟩ := HI4.out.fil.celT k7;rw [HVE.out.2.1,HVE.out.2.2.1] at q1;exact own2_cells q1 q3 (by rw [q2,HVE.out.2.2.1]; exact hlt)
     obtain ⟨v0,v1,s0,s1,hfz⟩ := hcell;have z0 := hfz (i * 2);have z1 := hfz (i * 2 + 1);have HI6 : Hid (InnS b W0 w cb mb b2 m R L2 c lv2 R2 (M ++ M2) (i + 1) ((W5.setCell ⟨g,i * 2,none⟩ (.int .i64 XT)).setCell ⟨g,i * 2 + 1,none⟩ (.slice va Xl vc))) := HI4.out.step HX.out.2.2 HVE.out.2.1 k1 k2 k3 k4 k5 k7 k8 (by rw [HX.out.1]);clear hfz hU5 hB45 k1 k2 k3 k4 k5 k6 k7 k8 BU3 B4 HI3 HI4 HCA HTS;refine M_store 11 ((W5.setCell ⟨g,i * 2,none⟩ (.int .i64 XT)).setCell ⟨g,i * 2 + 1,none⟩ (.slice va Xl vc)) rfl rfl (by kernel_rfl) (by rfl) (listed' := bts 12 4095) (by kernel_rfl) (by go_simp) (by kernel_rfl) ?_;refine M_done (by kernel_rfl) ?_ _;clear hS s0 s1 z0 z1 dr;go_wp2_with fail
     go_roundw
     case rel => exact ⟨i + 1,lv2,R2,M ++ M2,by go_num,by omega,HI6⟩
     case measure => simp [intOf]; omega
    ·have dlt : decide ((i : Int) < (n1 : Int)) = false := by simp; omega
     have HD : Hid (∃ j,FillS b W0 w cb mb R wr j ∧ j < k0) := (by
      have h1 := HI.out
      have h2 : i = c.u.es.length := by rw [HVE.out.2.2.1]; omega
      rw [h2] at h1
      exact h1.done HVE.out.2.2.2.1 HWK.out.1 HWK.out.2 : ∃ j,FillS b W0 w cb mb R wr j ∧ j < k0)
     clear HI;go_wp2_with fail
     go_roundw
     case rel =>
      obtain ⟨j,hj, -⟩ := HD.out;exact (⟨j,hj⟩ : ∃ k,FillS b W0 w cb mb R wr k)
     case measure =>
      obtain ⟨j,hj,hjk⟩ := HD.out;have h1 := (HMU.out _ ⟨j,hj⟩).2 j hj;have h2 := HK0.out
      omega
theorem CyS.start (b : Bool) {W0 w : World} {cb mb : Nat} (hB : Blk w cb #[.bool b,.map (some mb),.slice none 0 0] 87) (hm : PlMap w mb []) (h0 : W0.heap.size ≤ cb) (h1 : W0.heap.size ≤ mb) (hb : Below W0.heap.size W0 w) : CyS b W0 w cb mb (.slice none 0 0) [] [] :=
 ⟨hB,h0,h1,hb,⟨[],hm,by simp⟩,World.ownsRow_nil _ _ _ _,by simp,by simp,by simp⟩
theorem recs_fil {b : Bool} {W0 w : World} {cb mb : Nat} {lv : Value} {R : List Rec} (h : CyS b W0 w cb mb lv R []) (hf : ∀ r ∈ R,Fil b W0 w R r r.u.es.length) : ∀ r ∈ R,RecOk b W0 w r ∧ Fil b W0 w R r r.u.es.length := fun r hr => ⟨h.recs r hr,hf r hr⟩
theorem bare_any {n : Nat} {t : Tr} {v : Value} {w : World} (ht : TrW n w v t) (hsm : SmN n t) (hcn : cntN n t ≤ 1000) :
  Calls Try.prog 15 #[v] w fun e w' => ∃ r,e = .returned r ∧ TrW n w' r (cutT true n t) ∧ Below w.heap.size w w' := by
 have hdp : DpN n t := by
  obtain ⟨r, -,h⟩ := ht;exact h.dp
 have ht' := ht;obtain ⟨m,a1,c1,a2,c2,hmn,rfl, -⟩ := ht.open;obtain ⟨K,hK⟩ : ∃ z,t.kind = z := ⟨_,rfl⟩;obtain ⟨N,hN⟩ : ∃ z,t.n = z := ⟨_,rfl⟩;obtain ⟨S,hS⟩ : ∃ z,t.s = z := ⟨_,rfl⟩;obtain ⟨n1,hn1⟩ : ∃ z,t.es.length = z := ⟨_,rfl⟩;obtain ⟨n2,hn2⟩ : ∃ z,t.rest.length = z := ⟨_,rfl⟩;rw [hK,hN,hS,hn1,hn2] at ht' ⊢;have HKS : Hid (t.kind = K ∧ t.n = N ∧ t.s = S) := ⟨hK,hN,hS⟩;obtain ⟨Z,hZ⟩ : ∃ Z,Z = (((w.alloc (Obj.cells #[.int .i64 K,.int .i64 N,.string S,.slice a1 n1 c1,.slice a2 n2 c2] 30)).alloc (Obj.cells #[.int .i64 0,.int .i64 0,.string ⟨#[]⟩,.slice none 0 0,.slice none 0 0] 30)).alloc (.map #[] 0)).alloc (Obj.cells #[.bool true,.map (some (w.heap.size + 1 + 1)),.slice none 0 0] 87) := ⟨_,rfl⟩
 have hb : Below w.heap.size w Z := by
  rw [hZ];exact ((((Below.refl _ _).alloc (Nat.le_refl _) _).alloc (by simp) _).alloc (by simp; omega) _).alloc (by simp; omega) _
 have BR : Blk Z (w.heap.size + 1) #[.int .i64 0,.int .i64 0,.string ⟨#[]⟩,.slice none 0 0,.slice none 0 0] 30 := by
  rw [hZ];have := Blk.new (w.alloc (Obj.cells #[.int .i64 K,.int .i64 N,.string S,.slice a1 n1 c1,.slice a2 n2 c2] 30)) #[.int .i64 0,.int .i64 0,.string ⟨#[]⟩,.slice none 0 0,.slice none 0 0] 30;rw [show (w.alloc (Obj.cells #[.int .i64 K,.int .i64 N,.string S,.slice a1 n1 c1,.slice a2 n2 c2] 30)).heap.size = w.heap.size + 1 from by simp] at this;exact (this.below ((Below.refl _ _).alloc (Nat.le_refl _) _)).below ((Below.refl _ _).alloc (Nat.le_refl _) _)
 have BC : Blk Z (w.heap.size + 1 + 1 + 1) #[.bool true,.map (some (w.heap.size + 1 + 1)),.slice none 0 0] 87 := by
  rw [hZ];have := Blk.new (((w.alloc (Obj.cells #[.int .i64 K,.int .i64 N,.string S,.slice a1 n1 c1,.slice a2 n2 c2] 30)).alloc (Obj.cells #[.int .i64 0,.int .i64 0,.string ⟨#[]⟩,.slice none 0 0,.slice none 0 0] 30)).alloc (.map #[] 0)) #[.bool true,.map (some (w.heap.size + 1 + 1)),.slice none 0 0] 87
  rwa [show (((w.alloc (Obj.cells #[.int .i64 K,.int .i64 N,.string S,.slice a1 n1 c1,.slice a2 n2 c2] 30)).alloc (Obj.cells #[.int .i64 0,.int .i64 0,.string ⟨#[]⟩,.slice none 0 0,.slice none 0 0] 30)).alloc (.map #[] 0)).heap.size = w.heap.size + 1 + 1 + 1 from by simp] at this
 have PM : PlMap Z (w.heap.size + 1 + 1) [] := by
  rw [hZ];have := PlMap.made ((w.alloc (Obj.cells #[.int .i64 K,.int .i64 N,.string S,.slice a1 n1 c1,.slice a2 n2 c2] 30)).alloc (Obj.cells #[.int .i64 0,.int .i64 0,.string ⟨#[]⟩,.slice none 0 0,.slice none 0 0] 30));rw [show ((w.alloc (Obj.cells #[.int .i64 K,.int .i64 N,.string S,.slice a1 n1 c1,.slice a2 n2 c2] 30)).alloc (Obj.cells #[.int .i64 0,.int .i64 0,.string ⟨#[]⟩,.slice none 0 0,.slice none 0 0] 30)).heap.size = w.heap.size + 1 + 1 from by simp] at this;exact this.below ((Below.refl _ _).alloc (Nat.le_refl _) _)
 obtain ⟨W0,hW0⟩ : ∃ z,z = ((w.alloc (Obj.cells #[.int .i64 K,.int .i64 N,.string S,.slice a1 n1 c1,.slice a2 n2 c2] 30)).alloc (Obj.cells #[.int .i64 0,.int .i64 0,.string ⟨#[]⟩,.slice none 0 0,.slice none 0 0] 30)) := ⟨_,rfl⟩
 have hb0 : Below w.heap.size w W0 := by
  rw [hW0];exact ((Below.refl _ _).alloc (Nat.le_refl _) _).alloc (by simp) _
 have hs0 : W0.heap.size = w.heap.size + 1 + 1 := by rw [hW0]; simp
 have hbZ : Below W0.heap.size W0 Z := by
  rw [hZ,hW0];exact ((Below.refl _ _).alloc (Nat.le_refl _) _).alloc (by simp) _
 have HC0 : Hid (CyS true W0 Z (w.heap.size + 1 + 1 + 1) (w.heap.size + 1 + 1) (.slice none 0 0) [] []) := CyS.start true BC PM (by omega) (by omega) hbZ;have HCA : Hid (Calls Try.prog 28 #[.pointer (some ⟨w.heap.size + 1 + 1 + 1,0,none⟩),.agg #[.int .i64 K,.int .i64 N,.string S,.slice a1 n1 c1,.slice a2 n2 c2]] Z (TreP true W0 (w.heap.size + 1 + 1 + 1) (w.heap.size + 1 + 1) n t (.slice none 0 0) [] [] Z))   := ctree_any true W0 _ _ n t K N S a1 a2 n1 c1 n2 c2 Z _ [] [] (ht'.cel (Cel.ofBelow hb0)) hsm (by simp) HC0.out;have HDP : Hid (DpN n t) := hdp;have HS0 : Hid (W0.heap.size = w.heap.size + 1 + 1 ∧ Below w.heap.size w W0) := ⟨hs0,hb0⟩;have HCN : Hid (cntN n t ≤ 1000) := hcn;have HBR : Hid (Blk Z (w.heap.size + 1) #[.int .i64 0,.int .i64 0,.string ⟨#[]⟩,.slice none 0 0,.slice none 0 0] 30) := BR;clear ht ht' hsm hcn hdp hmn hK hN hS hn1 hn2 BC PM BR HC0 hb hW0 hb0 hs0 hbZ;have hmm := @run_makeMap Try.prog
 go_enter Try.func15,Try.ntmps15
 go_wp2_with fail;clear hmm;rw [← hZ];clear hZ;refine Calls.mono HCA.out ?_;rintro e w1 ⟨r,lv1,R1,M1,rfl,ho1,hc1, -,h12,h13, -,hct1, -⟩;obtain ⟨z1,l1,e1,z2,l2,e2,hr⟩ := hc1.shape ho1;rw [HKS.out.1,HKS.out.2.1,HKS.out.2.2] at hr;subst hr;have al1 : Below w1.heap.size w1 (w1.alloc (Obj.cells #[.int .i64 K,.int .i64 N,.string S,.slice z1 l1 e1,.slice z2 l2 e2] 30)) := (Below.refl _ _).alloc (Nat.le_refl _) _;have B4 : Blk (w1.alloc (Obj.cells #[.int .i64 K,.int .i64 N,.string S,.slice z1 l1 e1,.slice z2 l2 e2] 30)) w1.heap.size #[.int .i64 K,.int .i64 N,.string S,.slice z1 l1 e1,.slice z2 l2 e2] 30 := Blk.new w1 _ _;have BR1 := (hct1.celR _ _ HBR.out).below al1;have hc2 := hc1.mk_below al1;rw [List.nil_append] at hc2
 have HFI : Hid (Calls Try.prog 29 #[.pointer (some ⟨w.heap.size + 1 + 1 + 1,0,none⟩)] (w1.alloc (Obj.cells #[.int .i64 K,.int .i64 N,.string S,.slice z1 l1 e1,.slice z2 l2 e2] 30)) fun e w' => e = .returned (.tuple #[]) ∧ ∃ lv' R',CyS true W0 w' (w.heap.size + 1 + 1 + 1) (w.heap.size + 1 + 1) lv' R' [] ∧ (∀ q ∈ R1,q ∈ R') ∧ (∀ r ∈ R',Fil true W0 w' R' r r.u.es.length) ∧ CelR (w1.alloc (Obj.cells #[.int .i64 K,.int .i64 N,.string S,.slice z1 l1 e1,.slice z2 l2 e2] 30)) w') := cfill_any true W0 _ _ _ lv1 R1 M1 hc2 (fun q hq => by
  rcases h12 q hq with h | h | h
  ·cases h
  ·exact .inl h
  ·obtain ⟨rw0,q1,q2,q3,q4⟩ := (hc2.recs q hq).room
   exact .inr ⟨rw0,q1,q2,q3,fun k x hk hx => by rw [h] at hx; simp at hx⟩) (by have := HCN.out; omega)
 have HOO : Hid (OutOf true R1 [.int .i64 K,.int .i64 N,.string S,.slice z1 l1 e1,.slice z2 l2 e2] t) := ho1;clear hc1 hc2 ho1 h12 h13 hct1 HCA HBR al1;go_wp2_with fail;refine Calls.mono HFI.out ?_;rintro e w2 ⟨rfl,lv2,R2,hc2,h21,h22,hcr⟩;have B42 := hcr _ _ B4;have BR2 := hcr _ _ BR1;have HRR : Hid ((∀ r ∈ R2,RecOk true W0 w2 r ∧ Fil true W0 w2 R2 r r.u.es.length) ∧ OutOf true R2 [.int .i64 K,.int .i64 N,.string S,.slice z1 l1 e1,.slice z2 l2 e2] t) := ⟨recs_fil hc2 h22,HOO.out.mono h21⟩;have hbw2 : Below w.heap.size w w2 := HS0.out.2.trans (hc2.below.mono HS0.out.2.size);clear hc2 h21 h22 hcr B4 BR1 HFI HOO;obtain ⟨b4,hb4⟩ : ∃ z,w1.heap.size = z := ⟨_,rfl⟩;rw [hb4] at B42;simp only [hb4];clear hb4;obtain ⟨s,hs⟩ : ∃ z,w.heap.size + 1 = z := ⟨_,rfl⟩;have HSZ : Hid (w.heap.size + 1 = s) := hs;rw [hs] at BR2;simp only [hs];clear hs;have c0 := (B42.cell 0).trans rfl;have c1' := (B42.cell 1).trans rfl;have c2' := (B42.cell 2).trans rfl;have c3 := (B42.cell 3).trans rfl;have c4 := (B42.cell 4).trans rfl;have r0 := (BR2.cell 0).trans rfl;have r1 := (BR2.cell 1).trans rfl;have r2 := (BR2.cell 2).trans rfl;have r3 := (BR2.cell 3).trans rfl;have r4 := (BR2.cell 4).trans rfl;have z0 := BR2.froz 0;have y1 := BR2.froz 1;have y2 := BR2.froz 2;have z3 := BR2.froz 3;have z4 := BR2.froz 4;have hlt := BR2.lt
 have HFN : Hid (∃ r,Ending.returned (.agg #[.int .i64 K,.int .i64 N,.string S,.slice z1 l1 e1,.slice z2 l2 e2]) = .returned r ∧ TrW n (((((w2.setCell ⟨s,0,none⟩ (.int .i64 K)).setCell ⟨s,1,none⟩ (.int .i64 N)).setCell ⟨s,2,none⟩ (.string S)).setCell ⟨s,3,none⟩ (.slice z1 l1 e1)).setCell ⟨s,4,none⟩ (.slice z2 l2 e2)) r (cutT true n t) ∧ Below w.heap.size w (((((w2.setCell ⟨s,0,none⟩ (.int .i64 K)).setCell ⟨s,1,none⟩ (.int .i64 N)).setCell ⟨s,2,none⟩ (.string S)).setCell ⟨s,3,none⟩ (.slice z1 l1 e1)).setCell ⟨s,4,none⟩ (.slice z2 l2 e2))) := (by
  have kp := Kp.set5 w2 s (.int .i64 K) (.int .i64 N) (.string S) (.slice z1 l1 e1) (.slice z2 l2 e2)
  have hg : s < W0.heap.size := by have h1 := HSZ.out; have h2 := HS0.out.1; omega
  refine ⟨_,rfl,⟨_,rfl,out_read (W0 := W0) (fun r hr => ⟨(HRR.out.1 r hr).1.low kp hg,(HRR.out.1 r hr).2.low kp hg⟩) HRR.out.2 HDP.out⟩,below_set5 hbw2 (by have := HSZ.out; omega) _ _ _ _ _⟩)
 clear HRR hbw2 B42 BR2;go_wp2_with fail;refine bodyPost_ret (results_cell rfl _ _ _ ⟨s,0,none⟩ (.agg #[.int .i64 K,.int .i64 N,.string S,.slice z1 l1 e1,.slice z2 l2 e2]) (by go_simp) (by go_simp)) rfl HFN.out
end Go.Proofs.Ytmgbhicogmclgaa
