/- Part 25 of what the proof stands on. -/
import Derived.Test.YtiajaocckkghgabGreatPkSAX
namespace Go.Proofs.YtiajaocckkghgabGreat
set_option maxHeartbeats 8000000
set_option linter.unusedVariables false
set_option linter.unusedSimpArgs false
set_option maxRecDepth 20000
open Go.ChangeShapes Go.WideShapes Go.ChangeAt Go.RowKit
theorem typeB_kind {mn en : List ByteArray} {k : Int} {t : ByteArray} (h : typeB mn en k t = true) : 1 ≤ k ∧ k ≤ 7 := by
 unfold typeB at h
 by_cases h1 : 1 ≤ k ∧ k ≤ 7
 ·exact h1
 ·exfalso
  revert h
  simp
  intros
  omega
theorem ok_kinds {s : ScS} (h : OkS s) : ∀ m ∈ s.msgs,∀ f ∈ m.fields,1 ≤ f.kind ∧ f.kind ≤ 7 := fun m hm f hf => typeB_kind ((h.msgs m hm).2.2.2.2.1 f hf).1.2.2.2
theorem mtr_lenD (ms : List MtS) : ∀ r ∈ mtRows ms,r.length = 3 := fun r hr => by
 simp only [mtRows,List.mem_map] at hr;obtain ⟨_,_,rfl⟩ := hr
 rfl
theorem schemaD_any {w : World} {v : Value} {s : ScS} (hr : ScIn w v s) (hf : FewL s) : Calls Tryz.prog 14 #[v] w fun e w' => ∃ r,e = .returned r ∧ ScIn w' r s ∧ Below w.heap.size w w' :=
 (schema_any hr hf).mono fun e w' ⟨vm,ve,vt,pm,pe,h1,h2,h3,h4,h5⟩ => ⟨_,h1,⟨vm,ve,vt,rfl,h2.to_in,h3.to_in,(RowG.own (mtr_lenD _) (by decide) h4).1⟩,h5⟩
def hiF (k : Int) (l : List Fd) : List Fd := l.filter fun r => decide (k < r.tag)
def loF (k : Int) (l : List Fd) : List Fd := l.filter fun r => decide (r.tag ≤ k)
theorem hi_snoc (k : Int) {l : List Fd} {i : Nat} {r : Fd} (h : l[i]? = some r) : hiF k (l.take (i + 1)) = hiF k (l.take i) ++ if k < r.tag then [r] else [] := by
 obtain ⟨h1,rfl⟩ := List.getElem?_eq_some_iff.1 h;rw [List.take_succ_eq_append_getElem h1,hiF,List.filter_append];unfold hiF
 congr 1
 by_cases hk : k < l[i].tag <;> simp [hk]
theorem lo_snoc (k : Int) {l : List Fd} {i : Nat} {r : Fd} (h : l[i]? = some r) : loF k (l.take (i + 1)) = loF k (l.take i) ++ if r.tag ≤ k then [r] else [] := by
 obtain ⟨h1,rfl⟩ := List.getElem?_eq_some_iff.1 h;rw [List.take_succ_eq_append_getElem h1,loF,List.filter_append];unfold loF
 congr 1
 by_cases hk : l[i].tag ≤ k <;> simp [hk]
theorem shuf_of (k : Int) (l : List Fd) (t : Int) : ofT (hiF k l ++ loF k l) t = ofT l t := by
 rw [ofT_app];unfold ofT hiF loF;rw [List.filter_filter,List.filter_filter]
 by_cases h : k < t
 ·have e1 : l.filter (fun a => decide (a.tag = t) && decide (k < a.tag)) = l.filter fun r => decide (r.tag = t) := List.filter_congr fun x _ => by
   by_cases hx : x.tag = t
   ·simp [hx,h]
   ·simp [hx]
  have e2 : l.filter (fun a => decide (a.tag = t) && decide (a.tag ≤ k)) = [] := List.filter_eq_nil_iff.2 fun x _ => by
   simp only [Bool.and_eq_true,decide_eq_true_eq]
   omega
  rw [e1,e2,List.append_nil]
 ·have e1 : l.filter (fun a => decide (a.tag = t) && decide (k < a.tag)) = [] := List.filter_eq_nil_iff.2 fun x _ => by
   simp only [Bool.and_eq_true,decide_eq_true_eq]
   omega
  have e2 : l.filter (fun a => decide (a.tag = t) && decide (a.tag ≤ k)) = l.filter fun r => decide (r.tag = t) := List.filter_congr fun x _ => by
   by_cases hx : x.tag = t
   ·have : t ≤ k := by omega
    simp [hx,this]
   ·simp [hx]
  rw [e1,e2,List.nil_append]
theorem shuf_mem (k : Int) (l : List Fd) {r : Fd} (h : r ∈ hiF k l ++ loF k l) : r ∈ l := by
 rcases List.mem_append.1 h with h | h
 ·exact (List.mem_filter.1 h).1
 ·exact (List.mem_filter.1 h).1
theorem hi_len (k : Int) (l : List Fd) : (hiF k l).length ≤ l.length := List.length_filter_le _ _
theorem lo_len (k : Int) (l : List Fd) : (loF k l).length ≤ l.length := List.length_filter_le _ _
theorem fit_rows {s : ScS} {nm : ByteArray} {t : Tr} (h : FitT 6 s nm t) (hc : cntN 6 t ≤ 180) (h0 : (rawsA 6 t).2 = 0) : (rawsA 6 t).1.length ≤ 180 := by
 obtain ⟨_,_,hr,_⟩ := raws_inv h0;have e1 : t.rest = [] := congrArg Tr.rest h.form
 have h1 : (subs t.es).length ≤ ((subs t.es).map (cntN 5)).sum := len_le_sum fun x hx => by
  obtain ⟨e,he,hx⟩ := mem_subs.1 hx;exact ((h.sm.2.2.2.2 e he).2 x hx).one
 have h2 : cntN 6 t = 1 + ((subs t.es).map (cntN 5)).sum := rfl;rw [hr,sortF_lenD,flds_len,e1,List.length_nil]
 omega
theorem shuf_dec {s : ScS} {nm : ByteArray} {t : Tr} (hs : OkS s) (hm : (msgOf s nm).isSome = true) (h : FitT 6 s nm t) (h64 : N64 6 t) (h0 : (rawsA 6 t).2 = 0) (hn : ∀ r ∈ (rawsA 6 t).1,Is64 r.n) (k : Int) (hp : (putL (hiF k (rawsA 6 t).1 ++ loF k (rawsA 6 t).1)).2 = 0) :
  decA s nm (flatN (hiF k (rawsA 6 t).1 ++ loF k (rawsA 6 t).1)) = (t,0) := by
 obtain ⟨_,_,hr,he⟩ := raws_inv h0;obtain ⟨ho,hl,_⟩ := putL_inv hp;have hck : checkA s = 0 := (checkA_ok s).2 hs;unfold decA;rw [hck,if_neg (by simp)];refine dec_turn (k := 9) (n := 5) ((h.dfit hs hm).mono (by decide)) h64 h.sm.dpD he (fun tag => ?_) ho (fun r hr' => hn r (shuf_mem k _ hr')) hl;rw [shuf_of,hr,ofT_sort]
 rfl
theorem decodeShuffled_walk (v : Value) (s : ScS) (which : Int) (la : Option Addr) (L lc : Nat) (zs : List Int) (bk : Int) (w : World) (hr : ScIn w v s) (hw : ScW s) (g1 : (Lit.int .i64 which).wf = true) (hI : IsRow .i64 w la L lc zs) (hcap : lc * Tryz.prog.bytesOf 3 ≤ 140737488351232) (g3 : (Lit.int .i64 bk).wf = true) :
  Calls Tryz.prog 3 #[v,.int .i64 which,.slice la L lc,.int .i64 bk] w fun e w' => e = .returned (.bool true) ∧ Below w.heap.size w w' := by
 obtain ⟨i1,i2⟩ := bounds_i64 g1;obtain ⟨t1,t2⟩ := bounds_i64 g3;obtain ⟨hRl,hLl⟩ := hI.rowG;have HRL : Hid (RowG w (.slice la L lc) 1 (inRows (zs.take L)) ∧ (zs.take L).length = L) := ⟨hRl,hLl⟩;have hs' := hr;obtain ⟨vm,ve,vt,rfl,hms,hen,hmt⟩ := hr;obtain ⟨ma,mc,rfl,hmc1,hmc2, -⟩ := hms.open;obtain ⟨ea,ec,rfl, -⟩ := hen.open;obtain ⟨ta,tn,tc,rfl⟩ := row_sliceD hmt;obtain ⟨mn,hmn⟩ : ∃ z,s.msgs.length = z := ⟨_,rfl⟩;obtain ⟨en,hen'⟩ : ∃ z,s.enums.length = z := ⟨_,rfl⟩;obtain ⟨sn,hsn⟩ : ∃ z,s.name = z := ⟨_,rfl⟩;rw [hmn,hen',hsn] at hs' ⊢;rw [hmn] at hmc1 hms;unfold maxLen at hmc2;have HMN : Hid (s.msgs.length = mn) := hmn;have HSC : Hid (ScIn w (.agg #[.string sn,.slice ma mn mc,.slice ea en ec,.slice ta tn tc]) s) := hs';have HMS : Hid (MsIn w (.slice ma mn mc) s.msgs) := hms;have HSW : Hid (ScW s) := hw;have al : Below w.heap.size w (w.alloc (Obj.cells #[.string sn,.slice ma mn mc,.slice ea en ec,.slice ta tn tc] 26)) := (Below.refl _ _).alloc (Nat.le_refl _) _;have BS : Blk (w.alloc (Obj.cells #[.string sn,.slice ma mn mc,.slice ea en ec,.slice ta tn tc] 26)) w.heap.size #[.string sn,.slice ma mn mc,.slice ea en ec,.slice ta tn tc] 26 := Blk.new w _ _;have HFW : Hid (Calls Tryz.prog 6 #[.agg #[.string sn,.slice ma mn mc,.slice ea en ec,.slice ta tn tc]] (w.alloc (Obj.cells #[.string sn,.slice ma mn mc,.slice ea en ec,.slice ta tn tc] 26)) fun e w' => FewP s e ∧ Below (w.alloc (Obj.cells #[.string sn,.slice ma mn mc,.slice ea en ec,.slice ta tn tc] 26)).heap.size (w.alloc (Obj.cells #[.string sn,.slice ma mn mc,.slice ea en ec,.slice ta tn tc] 26)) w') := few_any (hs'.below al) hw;clear hRl hLl hI hcap hs' hms hen hmt hmn hen' hsn hw g1
 go_enter Tryz.func3,Tryz.ntmps3
 go_wp2_with fail;refine HFW.out.mono ?_;rintro e w2 ⟨hfw,hb2⟩;have hbw2 : Below w.heap.size w w2 := al.trans (hb2.mono al.size);have BS2 := BS.below hb2;clear hb2 al BS HFW
 rcases hfw with rfl | ⟨rfl,hfs⟩
 ·clear BS2;go_wp2_with fail;refine (dcawake_any _).mono ?_;rintro e wz ⟨rfl,hbz⟩;have hbwz : Below w.heap.size w wz := hbw2.trans (hbz.mono hbw2.size);clear hbz;go_wp2_with fail;go_ret;exact ⟨rfl,hbwz⟩
 have HFS : Hid (FewS s) := hfs;have HRK : Hid (Calls Tryz.prog 7 #[.agg #[.string sn,.slice ma mn mc,.slice ea en ec,.slice ta tn tc]] w2 fun e w' => e = .returned (.int .i64 (checkA s)) ∧ Below w2.heap.size w2 w') := rcheck_any (HSC.out.below hbw2) hfs;have s0 := (BS2.cell 0).trans rfl;have s1 := (BS2.cell 1).trans rfl;have s2 := (BS2.cell 2).trans rfl;have s3 := (BS2.cell 3).trans rfl;clear hfs;go_wp2_with fail;refine HRK.out.mono ?_;rintro e w3 ⟨rfl,hb3⟩;have hbw3 : Below w.heap.size w w3 := hbw2.trans (hb3.mono hbw2.size);have BS3 := BS2.below hb3;clear hb3 hbw2 BS2 HRK s0 s1 s2 s3;obtain ⟨A,hA⟩ : ∃ z,checkA s = z := ⟨_,rfl⟩;have HA : Hid (checkA s = A) := hA;rw [hA];clear hA
 by_cases hA0 : A = 0
 rotate_left
 ·have d : (A != 0) = true := by simpa using hA0
  clear hA0 BS3;go_wp2_with fail;refine (dcawake_any _).mono ?_;rintro e wz ⟨rfl,hbz⟩;have hbwz : Below w.heap.size w wz := hbw3.trans (hbz.mono hbw3.size);clear hbz;go_wp2_with fail;go_ret;exact ⟨rfl,hbwz⟩
 subst hA0;have HOK : Hid (OkS s) := (checkA_ok s).1 HA.out
 by_cases hL2 : 200 < L
 ·have d : decide (200 < (L : Int)) = true := by simp; omega
  clear BS3;go_wp2_with fail;refine (dcawake_any _).mono ?_;rintro e wz ⟨rfl,hbz⟩;have hbwz : Below w.heap.size w wz := hbw3.trans (hbz.mono hbw3.size);clear hbz;go_wp2_with fail;go_ret;exact ⟨rfl,hbwz⟩
 have d : decide (200 < (L : Int)) = false := by simp; omega
 have hmn1 : 0 < mn := by have := HOK.out.some; rw [HMN.out] at this; exact this
 have hmn2 : mn ≤ 14 := by have := HFS.out.msgs; rw [HMN.out] at this; exact this
 obtain ⟨hp1,hp2⟩ := placeI_in which (mn : Int) (by omega);obtain ⟨k,hk⟩ : ∃ z : Nat,placeI which (mn : Int) = (z : Int) := ⟨(placeI which (mn : Int)).toNat,by omega⟩
 have hkm : k < mn := by omega
 have HPL : Hid (∀ W,Calls Tryz.prog 9 #[.int .i64 which,.int .i64 (mn : Int)] W fun e w1 => e = .returned (.int .i64 (k : Int)) ∧ w1 = W) := fun W => by
  have h1 := place_is which (mn : Int) i1 i2 (by omega) (by omega) W;rw [hk] at h1;exact h1
 obtain ⟨m,hm⟩ : ∃ x,s.msgs[k]? = some x := ⟨_,List.getElem?_eq_getElem (by rw [HMN.out]; exact hkm)⟩;have HM : Hid (s.msgs[k]? = some m) := hm;obtain ⟨g,off,vf,vr,rfl,c0,c1,c2,hrf,hrr⟩ := HMS.out.get hm;obtain ⟨mnm,hmnm⟩ : ∃ z,m.name = z := ⟨_,rfl⟩;have HNM : Hid (m.name = mnm) := hmnm
 have HMG : Hid ((msgOf s mnm).isSome = true) := (by
  rw [msgOf,List.find?_isSome]
  exact ⟨m,List.mem_of_getElem? hm,by simpa using hmnm⟩ : (msgOf s mnm).isSome = true)
 rw [hmnm] at c0
 have HCE : Hid (∀ W,Below w3.heap.size w3 W → W.cell? ⟨w.heap.size,1,none⟩ = some (.slice (some ⟨g,off,none⟩) mn mc) ∧ W.cell? ⟨g,off + k * 3,none⟩ = some (.string mnm)) := fun W hW => by
  have hb : Below w.heap.size w W := hbw3.trans (hW.mono hbw3.size);exact ⟨((BS3.below hW).cell 1).trans rfl,(hb.cell (World.block_lt_of_cell? _ _ c0)).trans c0⟩
 clear hm hrf hrr hmnm hk c0 c1 c2 hp1 hp2;go_wp2_with fail;obtain ⟨b0,hb0⟩ : ∃ z,w.heap.size = z := ⟨_,rfl⟩;have HBZ : Hid (w.heap.size = b0) := hb0;rw [hb0] at HCE BS3
 try simp only [hb0]
 clear hb0 d;have hS : Below w3.heap.size w3 w3.drew := (Below.refl _ _).drew;refine wp_region_held_drew (S := fun w' => Below w3.heap.size w3 w') (by kernel_rfl) hS (fun hS => ?_);refine rg_take 0 35 (.pointer (some ⟨b0,1,none⟩)) _ rfl rfl (by kernel_rfl) (by kernel_rfl) (by kernel_rfl) (fun _ _ _ h => h) (by rfl) (fun w' hw' => ?_) hS (listed' := bts 11 1) (by kernel_rfl) rfl ?_
 ·go_simp
 simp only [zsA,zsZ,zsS];refine rg_take 1 36 (.slice (some ⟨g,off,none⟩) mn mc) _ rfl rfl (by kernel_rfl) (by kernel_rfl) (by kernel_rfl) (fun _ _ _ h => h) (by rfl) (fun w' hw' => ?_) hS (listed' := bts 11 3) (by kernel_rfl) rfl ?_
 ·have f0 := (HCE.out _ hw').1; go_simp
 simp only [zsA,zsZ,zsS];refine rg_take 2 37 (.int .i64 which) _ rfl rfl (by kernel_rfl) (by kernel_rfl) (by kernel_rfl) (fun _ _ _ h => h) (by rfl) (fun w' hw' => ?_) hS (listed' := bts 11 7) (by kernel_rfl) rfl ?_
 ·go_simp
 simp only [zsA,zsZ,zsS];refine rg_take 3 38 (.pointer (some ⟨b0,1,none⟩)) _ rfl rfl (by kernel_rfl) (by kernel_rfl) (by kernel_rfl) (fun _ _ _ h => h) (by rfl) (fun w' hw' => ?_) hS (listed' := bts 11 15) (by kernel_rfl) rfl ?_
 ·go_simp
 simp only [zsA,zsZ,zsS];refine rg_take 4 39 (.slice (some ⟨g,off,none⟩) mn mc) _ rfl rfl (by kernel_rfl) (by kernel_rfl) (by kernel_rfl) (fun _ _ _ h => h) (by rfl) (fun w' hw' => ?_) hS (listed' := bts 11 31) (by kernel_rfl) rfl ?_
 ·have f0 := (HCE.out _ hw').1; go_simp
 simp only [zsA,zsZ,zsS];refine rg_take 5 40 (.int .i64 (mn : Int)) _ rfl rfl (by kernel_rfl) (by kernel_rfl) (by kernel_rfl) (fun _ _ _ h => h) (by rfl) (fun w' hw' => ?_) hS (listed' := bts 11 63) (by kernel_rfl) rfl ?_
 ·go_simp
 simp only [zsA,zsZ,zsS];refine rg_call 6 41 9 #[.int .i64 which,.int .i64 (mn : Int)] rfl rfl (by kernel_rfl) (by rfl) (listed' := bts 11 127) (by kernel_rfl) (fun W => by go_simp) ?_;refine (HPL.out _).mono ?_;rintro e W1 ⟨rfl,rfl⟩;refine ⟨_,rfl,hS,?_⟩;simp only [zsA,zsZ,zsS];refine rg_take 7 42 (.pointer (some ⟨g,off + k * 3,none⟩)) _ rfl rfl (by kernel_rfl) (by kernel_rfl) (by kernel_rfl) (fun _ _ _ h => h) (by rfl) (fun w' hw' => ?_) hS (listed' := bts 11 255) (by kernel_rfl) rfl ?_
 ·go_simp
 simp only [zsA,zsZ,zsS];refine rg_take 8 43 (.pointer (some ⟨g,off + k * 3,none⟩)) _ rfl rfl (by kernel_rfl) (by kernel_rfl) (by kernel_rfl) (fun _ _ _ h => h) (by rfl) (fun w' hw' => ?_) hS (listed' := bts 11 511) (by kernel_rfl) rfl ?_
 ·go_simp
 simp only [zsA,zsZ,zsS];refine rg_take 9 44 (.string mnm) _ rfl rfl (by kernel_rfl) (by kernel_rfl) (by kernel_rfl) (fun _ _ _ h => h) (by rfl) (fun w' hw' => ?_) hS (listed' := bts 11 1023) (by kernel_rfl) rfl ?_
 ·have f0 := (HCE.out _ hw').2; go_simp
 simp only [zsA,zsZ,zsS];refine rg_take 10 9 (.string mnm) _ rfl rfl (by kernel_rfl) (by kernel_rfl) (by kernel_rfl) (fun _ _ _ h => h) (by rfl) (fun w' hw' => ?_) hS (listed' := bts 11 2047) (by kernel_rfl) rfl ?_
 ·go_simp
 simp only [zsA,zsZ,zsS];refine wpAnyH_done (by kernel_rfl) ?_ _;generalize w3.drew = W1 at *;have hbw5 : Below w.heap.size w W1 := hbw3.trans (hS.mono hbw3.size);have BS5 : Blk W1 b0 #[.string sn,.slice (some ⟨g,off,none⟩) mn mc,.slice ea en ec,.slice ta tn tc] 26 := BS3.below hS;clear hbw3 BS3 HCE HPL hS;have HFT : Hid (Calls Tryz.prog 10 #[.agg #[.string sn,.slice (some ⟨g,off,none⟩) mn mc,.slice ea en ec,.slice ta tn tc],.string mnm,.slice la L lc] W1 (FitA s mnm W1)) := fitAll_any s sn (some ⟨g,off,none⟩) ea ta mn mc en ec tn tc (fun m hm => (HFS.out.few.flds m hm).1) (ok_kinds HOK.out) (zs.take L) la lc L W1 (HSC.out.below hbw5) (HRL.out.1.below hbw5) HRL.out.2 (by omega) mnm;have s0 := (BS5.cell 0).trans rfl;have s1 := (BS5.cell 1).trans rfl;have s2 := (BS5.cell 2).trans rfl;have s3 := (BS5.cell 3).trans rfl;go_wp2_with fail;refine Calls.mono HFT.out ?_;rintro e w6 ⟨r,t,bs,rfl,hO,hA6,hT,hc6,hb6⟩;have hbw6 : Below w.heap.size w w6 := hbw5.trans (hb6.mono hbw5.size);have BS6 := BS5.below hb6;have HTI6 : Hid (TrIn 6 w6 (.agg r.toArray) t) := hO.trIn;have H64 : Hid (N64 6 t) := hO.trC.n64;obtain ⟨x1,x2,x3,x4,x5,x6,hr6⟩ := TrO.open hO;subst hr6;have HFT6 : Hid (FitT 6 s mnm t ∧ cntN 6 t ≤ 180) := ⟨hT,hc6⟩;have HBK : Hid (((encA 6 t).2 = 0 ∨ (encA 6 t).2 = 4) ∧ ((encA 6 t).2 = 0 → decA s mnm (encA 6 t).1 = (t,0) ∧ canA s mnm (encA 6 t).1 = true)) := fit_back HOK.out HMG.out hT H64.out;clear hO hA6 hT hc6 hb6 hbw5 BS5 HFT s0 s1 s2 s3;obtain ⟨K,hK⟩ : ∃ z,t.kind = z := ⟨_,rfl⟩;obtain ⟨N,hN⟩ : ∃ z,t.n = z := ⟨_,rfl⟩;obtain ⟨S,hSx⟩ : ∃ z,t.s = z := ⟨_,rfl⟩;rw [hK,hN,hSx] at HTI6 ⊢;clear hK hN hSx;have al7 : Below w6.heap.size w6 (w6.alloc (Obj.cells #[.int .i64 K,.int .i64 N,.string S,.slice x1 x2 x3,.slice x4 x5 x6] 39)) := (Below.refl _ _).alloc (Nat.le_refl _) _;have hbw7 : Below w.heap.size w (w6.alloc (Obj.cells #[.int .i64 K,.int .i64 N,.string S,.slice x1 x2 x3,.slice x4 x5 x6] 39)) := hbw6.trans (al7.mono hbw6.size);have HTI7 : Hid (TrIn 6 (w6.alloc (Obj.cells #[.int .i64 K,.int .i64 N,.string S,.slice x1 x2 x3,.slice x4 x5 x6] 39)) (.agg #[.int .i64 K,.int .i64 N,.string S,.slice x1 x2 x3,.slice x4 x5 x6]) t) := HTI6.out.below al7;have BX7 : Blk (w6.alloc (Obj.cells #[.int .i64 K,.int .i64 N,.string S,.slice x1 x2 x3,.slice x4 x5 x6] 39)) w6.heap.size #[.int .i64 K,.int .i64 N,.string S,.slice x1 x2 x3,.slice x4 x5 x6] 39 := Blk.new w6 _ _;have BS7 := BS6.below al7;have HRW : Hid (Calls Tryz.prog 11 #[.agg #[.int .i64 K,.int .i64 N,.string S,.slice x1 x2 x3,.slice x4 x5 x6]] (w6.alloc (Obj.cells #[.int .i64 K,.int .i64 N,.string S,.slice x1 x2 x3,.slice x4 x5 x6] 39)) (RwsP (rawsA 6 t) (w6.alloc (Obj.cells #[.int .i64 K,.int .i64 N,.string S,.slice x1 x2 x3,.slice x4 x5 x6] 39)))) := rRaws_any 6 t _ (w6.alloc (Obj.cells #[.int .i64 K,.int .i64 N,.string S,.slice x1 x2 x3,.slice x4 x5 x6] 39)) HTI7.out HFT6.out.1.sm (by decide);have HNO : Hid ((rawsA 6 t).2 ≠ 0 → (rawsA 6 t).1 = []) := rawsA_no;have ltX := BX7.lt;clear al7 HTI6;go_wp2_with fail;refine Calls.mono HRW.out ?_;rintro e w8 ⟨rv,rfl,hra,hok,hb8⟩;have hbw8 : Below w.heap.size w w8 := hbw7.trans (hb8.mono hbw7.size);have BX8 := BX7.below hb8;have BS8 := BS7.below hb8;have HT8 : Hid (TrIn 6 w8 (.agg #[.int .i64 K,.int .i64 N,.string S,.slice x1 x2 x3,.slice x4 x5 x6]) t) := HTI7.out.below hb8;have HSD : Hid ((rawsA 6 t).2 = 0 → ∀ k : Int,(putL (hiF k (rawsA 6 t).1 ++ loF k (rawsA 6 t).1)).2 = 0 → decA s mnm (flatN (hiF k (rawsA 6 t).1 ++ loF k (rawsA 6 t).1)) = (t,0)) := fun h0 k hp => shuf_dec HOK.out HMG.out HFT6.out.1 H64.out h0 hok.2 k hp
 have HRL8 : Hid ((rawsA 6 t).2 = 0 → (rawsA 6 t).1.length ≤ 180) := fun h0 => fit_rows HFT6.out.1 HFT6.out.2 h0
 clear HRW hb8 BX7 BS7 HTI7 hbw7 hbw6 BS6 ltX;obtain ⟨b6,hb6⟩ : ∃ z,w6.heap.size = z := ⟨_,rfl⟩;rw [hb6] at BX8
 try simp only [hb6]
 clear hb6;obtain ⟨Q,hQ⟩ : ∃ Q,rawsA 6 t = Q := ⟨_,rfl⟩;rw [hQ] at hra hok HSD HNO HRL8 ⊢;clear hQ;obtain ⟨rs,er⟩ := Q;simp only at hra hok HSD HNO HRL8 ⊢;obtain ⟨ra,rc,hl0,hrb,hrc1,hrc2,hrh⟩ := hra;subst hl0
 by_cases he : er = 0
 rotate_left
 ·have hd : ((er : Int) != 0) = true := by simp; omega
  have hrs := HNO.out he;subst hrs;clear he HNO hrb hrc1 hrc2 hrh BX8 BS8 HSD hok;simp only [List.length_nil];go_wp2_with fail;refine (dcawake_any _).mono ?_;rintro e wz ⟨rfl,hbz⟩;have hbwz : Below w.heap.size w wz := hbw8.trans (hbz.mono hbw8.size);clear hbz;go_wp2_with fail;go_ret;exact ⟨rfl,hbwz⟩
 subst he;simp only [show ((0 : Nat) : Int) = 0 from rfl];obtain ⟨M,hM⟩ : ∃ z,rs.length = z := ⟨_,rfl⟩;have HMM : Hid (rs.length = M) := hM
 have hmm : M ≤ 180 := by rw [← hM]; exact HRL8.out rfl
 have HN64 : Hid (∀ r ∈ rs,Is64 r.n) := hok.2;rw [hM] at hrc1 ⊢;have HRH : Hid (HoldsR w8 ra rs ∧ (rs = [] ∨ ∃ g off,ra = some ⟨g,off,none⟩)) := ⟨hrh,own_adrR hrb⟩;have HFL : Hid (rs.length ≤ 180) := HRL8.out rfl;unfold maxLen at hrc2;clear hM hrb hrh hok HNO
 by_cases hM0 : M = 0
 ·subst hM0;clear BX8 BS8 HSD;go_wp2_with fail;refine (dcawake_any _).mono ?_;rintro e wz ⟨rfl,hbz⟩;have hbwz : Below w.heap.size w wz := hbw8.trans (hbz.mono hbw8.size);clear hbz;go_wp2_with fail;go_ret;exact ⟨rfl,hbwz⟩
 have hd0 : ((M : Int) == 0) = false := by simp; omega
 obtain ⟨hq1,hq2⟩ := placeI_in bk 500 (by omega);obtain ⟨kk,hkk⟩ : ∃ z : Nat,placeI bk 500 = (z : Int) := ⟨(placeI bk 500).toNat,by omega⟩
 have hk500 : kk < 500 := by omega
 have HPK : Hid (∀ W,Calls Tryz.prog 9 #[.int .i64 bk,.int .i64 500] W fun e w1 => e = .returned (.int .i64 (kk : Int)) ∧ w1 = W) := fun W => by
  have h1 := place_is bk 500 t1 t2 (by omega) (by omega) W;rw [hkk] at h1;exact h1
 clear hq1 hq2 hkk;go_wp2_with fail;refine (HPK.out _).mono ?_;rintro e w9 ⟨rfl,rfl⟩;have HO0 : Hid (w9.ownsRow w9.heap.size 44 4 (.slice none 0 0) (hiF (kk : Int) (rs.take 0)).length (rawCells (hiF (kk : Int) (rs.take 0)))) := World.ownsRow_nil _ _ _ _;have HB9 : Hid (Below w.heap.size w w9) := hbw8;have HBX : Hid (Blk w9 b6 #[.int .i64 K,.int .i64 N,.string S,.slice x1 x2 x3,.slice x4 x5 x6] 39) := BX8;have HBS : Hid (Blk w9 b0 #[.string sn,.slice (some ⟨g,off,none⟩) mn mc,.slice ea en ec,.slice ta tn tc] 26) := BS8;clear HPK BX8 BS8 hd0;go_wp2_with fail
 go_loopw [14,15] (fun ov iv wr => ∃ (i : Nat) (out : Value),iv = .int .i64 (i : Int) ∧ ov = out ∧ i ≤ M ∧ Hid (wr.ownsRow w9.heap.size 44 4 out (hiF (kk : Int) (rs.take i)).length (rawCells (hiF (kk : Int) (rs.take i)))) ∧ Below w9.heap.size w9 wr) (fun _ iv _ => M - (intOf iv).toNat)
 case atStart => exact ⟨0,_,rfl,rfl,by omega,HO0,Below.refl _ _⟩
 case round =>
  obtain ⟨i,out,rfl,rfl,hi,HO,hbr⟩ := hrel;obtain ⟨oa,oc,hov⟩ := own_form HO.out;subst hov
  have HLN : Hid ((hiF (kk : Int) (rs.take i)).length ≤ i + M) := (by
   have h1 := hi_len (kk : Int) (rs.take i);have h2 : (rs.take i).length ≤ i := List.length_take_le _ _
   omega : _ ≤ _)
  obtain ⟨ON,hON⟩ : ∃ z,(hiF (kk : Int) (rs.take i)).length = z := ⟨_,rfl⟩;rw [hON] at HLN;have HON : Hid ((hiF (kk : Int) (rs.take i)).length = ON) := hON;have HOQ : Hid (wr.ownsRow w9.heap.size 44 4 (.slice oa ON oc) ON (rawCells (hiF (kk : Int) (rs.take i)))) := (by have h := HO.out; rw [hON] at h; exact h : World.ownsRow _ _ _ _ _ _ _);rw [hON];clear hON
  by_cases hlt : i < M
  ·obtain ⟨r,hx⟩ : ∃ r,rs[i]? = some r := ⟨_,List.getElem?_eq_getElem (by rw [HMM.out]; exact hlt)⟩
   obtain ⟨g',off',rfl⟩ : ∃ g off,ra = some ⟨g,off,none⟩ := by
    rcases HRH.out.2 with h0 | h0
    ·rw [h0] at hx; simp at hx
    ·exact h0
   have HSN : Hid ((hiF (kk : Int) (rs.take (i + 1))) = (hiF (kk : Int) (rs.take i)) ++ if (kk : Int) < r.tag then [r] else []) := (by rw [hi_snoc (kk : Int) hx] : _ = _);obtain ⟨rt,rk,rn,rb⟩ := r;obtain ⟨c0,c1,c2,c3⟩ := (HRH.out.1.below hbr).at hx;simp only at c0 c1 c2 c3 HSN;have ltg : g' < wr.heap.size := World.block_lt_of_cell? _ _ c0
   by_cases hk : (kk : Int) < rt
   ·have d : decide ((kk : Int) < rt) = true := by simpa using hk
    have al2 : Below wr.heap.size wr (wr.alloc (Obj.cells #[.int .i64 rt,.int .i64 rk,.int .i64 rn,.string rb] 44)) := (Below.refl _ _).alloc (Nat.le_refl _) _;have BZ : Blk (wr.alloc (Obj.cells #[.int .i64 rt,.int .i64 rk,.int .i64 rn,.string rb] 44)) wr.heap.size (Fd.cells ⟨rt,rk,rn,rb⟩).toArray 44 := Blk.new wr #[.int .i64 rt,.int .i64 rk,.int .i64 rn,.string rb] 44;obtain ⟨pa,pc,W',r1,r2,r3⟩ := pushRaw (own_below HO.out al2) (Nat.le_trans hbr.size al2.size) ⟨rt,rk,rn,rb⟩ (by rw [HON.out]; have := HLN.out; have := HFL.out; omega) BZ;rw [HON.out] at r1 r2;rw [if_pos hk] at HSN;have HAP : Hid ((Builtin.append_ #[37,37] 37 #[.slice oa ON oc,.slice (some ⟨wr.heap.size,0,none⟩) 1 1]).run Tryz.prog (wr.alloc (Obj.cells #[.int .i64 rt,.int .i64 rk,.int .i64 rn,.string rb] 44)) = .ok (.slice pa (ON + 1) pc) W') := r1;have HO1 : Hid (W'.ownsRow w9.heap.size 44 4 (.slice pa (ON + 1) pc) (hiF (kk : Int) (rs.take (i + 1))).length (rawCells (hiF (kk : Int) (rs.take (i + 1))))) := (by rw [HSN.out]; exact r2 : World.ownsRow _ _ _ _ _ _ _);have hbr1 : Below w9.heap.size w9 W' := (hbr.trans (al2.mono hbr.size)).trans r3;clear r1 r2 r3 BZ al2 hx HO hk HSN HON HLN HOQ
    go_wp2_with (first | (at_builtin; refine wpList_app rfl _ _ rfl rfl rfl HAP.out ?_) | fail)
    go_roundw
    case rel => exact ⟨i + 1,_,by go_num,rfl,by omega,HO1,hbr1⟩
    case measure => simp [intOf]; omega
   ·have d : decide ((kk : Int) < rt) = false := by simpa using hk
    rw [if_neg hk,List.append_nil] at HSN;have HO1 : Hid (wr.ownsRow w9.heap.size 44 4 (.slice oa ON oc) (hiF (kk : Int) (rs.take (i + 1))).length (rawCells (hiF (kk : Int) (rs.take (i + 1))))) := (by rw [HSN.out,HON.out]; exact HOQ.out : World.ownsRow _ _ _ _ _ _ _);clear hx HO hk HSN HON HLN HOQ;go_wp2_with fail
    go_roundw
    case rel => exact ⟨i + 1,_,by go_num,rfl,by omega,HO1,hbr⟩
    case measure => simp [intOf]; omega
  ·obtain rfl : i = M := by omega
   have e1 : rs.take i = rs := List.take_of_length_le (by rw [HMM.out]; exact Nat.le_refl _);have hO := HOQ.out;have hON := HON.out;rw [e1] at hO hON
   have HO2 : Hid (wr.ownsRow w9.heap.size 44 4 (.slice oa ON oc) (hiF (kk : Int) rs ++ loF (kk : Int) (rs.take 0)).length (rawCells (hiF (kk : Int) rs ++ loF (kk : Int) (rs.take 0)))) := (by
    have : loF (kk : Int) (rs.take 0) = [] := rfl
    rw [this,List.append_nil,hON]; exact hO : World.ownsRow _ _ _ _ _ _ _)
   clear hO hON e1 HO HOQ HON HLN;go_wp2_with fail
   go_loopw [14,16] (fun ov iv wr => ∃ (j : Nat) (out : Value),iv = .int .i64 (j : Int) ∧ ov = out ∧ j ≤ i ∧ Hid (wr.ownsRow w9.heap.size 44 4 out (hiF (kk : Int) rs ++ loF (kk : Int) (rs.take j)).length (rawCells (hiF (kk : Int) rs ++ loF (kk : Int) (rs.take j)))) ∧ Below w9.heap.size w9 wr) (fun _ iv _ => i - (intOf iv).toNat)
   case atStart => exact ⟨0,_,rfl,rfl,by omega,HO2,hbr⟩
   case round =>
    obtain ⟨j,out,rfl,rfl,hi,HO,hbr⟩ := hrel;obtain ⟨oa,oc,hov⟩ := own_form HO.out;subst hov
    have HLN : Hid ((hiF (kk : Int) rs ++ loF (kk : Int) (rs.take j)).length ≤ j + i) := (by
     have h1 := lo_len (kk : Int) (rs.take j);have h2 : (rs.take j).length ≤ j := List.length_take_le _ _
     have h3 := hi_len (kk : Int) rs; have h4 := HMM.out; rw [List.length_append]; omega : _ ≤ _)
    obtain ⟨ON,hON⟩ : ∃ z,(hiF (kk : Int) rs ++ loF (kk : Int) (rs.take j)).length = z := ⟨_,rfl⟩;rw [hON] at HLN;have HON : Hid ((hiF (kk : Int) rs ++ loF (kk : Int) (rs.take j)).length = ON) := hON;have HOQ : Hid (wr.ownsRow w9.heap.size 44 4 (.slice oa ON oc) ON (rawCells (hiF (kk : Int) rs ++ loF (kk : Int) (rs.take j)))) := (by have h := HO.out; rw [hON] at h; exact h : World.ownsRow _ _ _ _ _ _ _);rw [hON];clear hON
    by_cases hlt : j < i
    ·obtain ⟨r,hx⟩ : ∃ r,rs[j]? = some r := ⟨_,List.getElem?_eq_getElem (by rw [HMM.out]; exact hlt)⟩
     obtain ⟨g',off',rfl⟩ : ∃ g off,ra = some ⟨g,off,none⟩ := by
      rcases HRH.out.2 with h0 | h0
      ·rw [h0] at hx; simp at hx
      ·exact h0
     have HSN : Hid ((hiF (kk : Int) rs ++ loF (kk : Int) (rs.take (j + 1))) = (hiF (kk : Int) rs ++ loF (kk : Int) (rs.take j)) ++ if r.tag ≤ (kk : Int) then [r] else []) := (by rw [lo_snoc (kk : Int) hx,List.append_assoc] : _ = _);obtain ⟨rt,rk,rn,rb⟩ := r;obtain ⟨c0,c1,c2,c3⟩ := (HRH.out.1.below hbr).at hx;simp only at c0 c1 c2 c3 HSN;have ltg : g' < wr.heap.size := World.block_lt_of_cell? _ _ c0
     by_cases hk : rt ≤ (kk : Int)
     ·have d : decide (rt ≤ (kk : Int)) = true := by simpa using hk
      have al2 : Below wr.heap.size wr (wr.alloc (Obj.cells #[.int .i64 rt,.int .i64 rk,.int .i64 rn,.string rb] 44)) := (Below.refl _ _).alloc (Nat.le_refl _) _;have BZ : Blk (wr.alloc (Obj.cells #[.int .i64 rt,.int .i64 rk,.int .i64 rn,.string rb] 44)) wr.heap.size (Fd.cells ⟨rt,rk,rn,rb⟩).toArray 44 := Blk.new wr #[.int .i64 rt,.int .i64 rk,.int .i64 rn,.string rb] 44;obtain ⟨pa,pc,W',r1,r2,r3⟩ := pushRaw (own_below HO.out al2) (Nat.le_trans hbr.size al2.size) ⟨rt,rk,rn,rb⟩ (by rw [HON.out]; have := HLN.out; have := HFL.out; omega) BZ;rw [HON.out] at r1 r2;rw [if_pos hk] at HSN;have HAP : Hid ((Builtin.append_ #[37,37] 37 #[.slice oa ON oc,.slice (some ⟨wr.heap.size,0,none⟩) 1 1]).run Tryz.prog (wr.alloc (Obj.cells #[.int .i64 rt,.int .i64 rk,.int .i64 rn,.string rb] 44)) = .ok (.slice pa (ON + 1) pc) W') := r1;have HO1 : Hid (W'.ownsRow w9.heap.size 44 4 (.slice pa (ON + 1) pc) (hiF (kk : Int) rs ++ loF (kk : Int) (rs.take (j + 1))).length (rawCells (hiF (kk : Int) rs ++ loF (kk : Int) (rs.take (j + 1))))) := (by rw [HSN.out]; exact r2 : World.ownsRow _ _ _ _ _ _ _);have hbr1 : Below w9.heap.size w9 W' := (hbr.trans (al2.mono hbr.size)).trans r3;clear r1 r2 r3 BZ al2 hx HO hk HSN HON HLN HOQ
      go_wp2_with (first | (at_builtin; refine wpList_app rfl _ _ rfl rfl rfl HAP.out ?_) | fail)
      go_roundw
      case rel => exact ⟨j + 1,_,by go_num,rfl,by omega,HO1,hbr1⟩
      case measure => simp [intOf]; omega
     ·have d : decide (rt ≤ (kk : Int)) = false := by simpa using hk
      rw [if_neg hk,List.append_nil] at HSN;have HO1 : Hid (wr.ownsRow w9.heap.size 44 4 (.slice oa ON oc) (hiF (kk : Int) rs ++ loF (kk : Int) (rs.take (j + 1))).length (rawCells (hiF (kk : Int) rs ++ loF (kk : Int) (rs.take (j + 1))))) := (by rw [HSN.out,HON.out]; exact HOQ.out : World.ownsRow _ _ _ _ _ _ _);clear hx HO hk HSN HON HLN HOQ;go_wp2_with fail
      go_roundw
      case rel => exact ⟨j + 1,_,by go_num,rfl,by omega,HO1,hbr⟩
      case measure => simp [intOf]; omega
    ·obtain rfl : j = i := by omega
     have e1 : rs.take j = rs := List.take_of_length_le (by rw [HMM.out]; exact Nat.le_refl _);have hO := HOQ.out;have hON := HON.out;rw [e1] at hO hON;obtain ⟨m,hm⟩ : ∃ z,hiF (kk : Int) rs ++ loF (kk : Int) rs = z := ⟨_,rfl⟩
     have HSM : Hid (∀ r ∈ m,Is64 r.n) := fun r hr => by rw [← hm] at hr; exact HN64.out r (shuf_mem _ _ hr)
     have HSD1 : Hid ((putL m).2 = 0 → decA s mnm (flatN m) = (t,0)) := fun hp => by
      have h1 := HSD.out (by first | rfl | trivial) (kk : Int);rw [hm] at h1;exact h1 hp
     rw [hm] at hO hON
     have hQN : ON ≤ 360 := by have := HLN.out; omega
     obtain ⟨qa,qc,hq, -,hqb,hqc1,hqc2,hqh⟩ := own_openR (show wr.ownsRow w9.heap.size 44 4 (.slice oa ON oc) m.length (rawCells m) by rw [hON]; exact hO);simp only [Value.slice.injEq] at hq;obtain ⟨rfl,hqn,rfl⟩ := hq;have HPA : Hid (Calls Tryz.prog 12 #[.slice oa ON oc] wr fun e w' => ∃ v,e = .returned (.tuple #[v,.int .i64 ((putL m).2 : Int)]) ∧ w'.ownsRow wr.heap.size 5 1 v (putL m).1.length (byteCells (putL m).1) ∧ Below wr.heap.size wr w') := wputall_any oa m ON oc wr hON (own_adrR hqb) (by omega) hqc2 (by omega) hqh HSM.out;have hbwr : Below w.heap.size w wr := HB9.out.trans (hbr.mono HB9.out.size);clear hm e1 hO hON hqn hqb hqc1 hqc2 hqh HO HOQ HON HLN hQN HSD;go_wp2_with fail;refine HPA.out.mono ?_;rintro e w10 ⟨v10,rfl,hown,hb10⟩;have hbr10 : Below w9.heap.size w9 w10 := hbr.trans (hb10.mono hbr.size);have hbw10 : Below w.heap.size w w10 := hbwr.trans (hb10.mono hbwr.size)
     by_cases hp : (putL m).2 = 0
     rotate_left
     ·obtain ⟨pe,hpe⟩ : ∃ z,(putL m).2 = z := ⟨_,rfl⟩;rw [hpe] at hp ⊢
      have dd : ((pe : Int) != 0) = true := by simp; omega
      clear hown hp hpe;go_wp2_with fail;refine (dcawake_any _).mono ?_;rintro e wz ⟨rfl,hbz⟩;have hbwz : Below w.heap.size w wz := hbw10.trans (hbz.mono hbw10.size);clear hbz;go_wp2_with fail;go_ret;exact ⟨rfl,hbwz⟩
     obtain ⟨-, -,hpl⟩ := putL_inv hp;have HDA : Hid (decA s mnm (flatN m) = (t,0)) := HSD1.out hp;rw [hpl] at hown ⊢;simp only [show ((0 : Nat) : Int) = 0 from rfl];have HBY : Hid (ByS w10 v10 (flatN m)) := ByS.own hown (flatN_lt _);have HCS : Hid (Calls Tryz.prog 14 #[.agg #[.string sn,.slice (some ⟨g,off,none⟩) mn mc,.slice ea en ec,.slice ta tn tc]] w10 fun e w' => ∃ r,e = .returned r ∧ ScIn w' r s ∧ Below w10.heap.size w10 w') := schemaD_any (HSC.out.below hbw10) HFS.out.few;have BS10 := HBS.out.below hbr10;have s0 := (BS10.cell 0).trans rfl;have s1 := (BS10.cell 1).trans rfl;have s2 := (BS10.cell 2).trans rfl;have s3 := (BS10.cell 3).trans rfl;clear hown hp hpl HPA hb10 BS10 hbwr;go_wp2_with fail;refine HCS.out.mono ?_;rintro e w11 ⟨sv,rfl,hsv,hb11⟩;have hbr11 : Below w9.heap.size w9 w11 := hbr10.trans (hb11.mono hbr10.size);have hbw11 : Below w.heap.size w w11 := hbw10.trans (hb11.mono hbw10.size)
     have HDE : Hid (Calls Tryz.prog 13 #[sv,.string mnm,v10] w11 (DtrP 11 (t,0) w11)) := (by
      have h1 := decode_any hsv HSW.out HFS.out.few (HBY.out.below hb11) (nm := mnm);rw [HDA.out] at h1
      exact h1 : Calls Tryz.prog _ _ _ _)
     clear HCS hsv hb11 s0 s1 s2 s3 hbr10 hbw10 HBY;go_wp2_with fail;refine HDE.out.mono ?_;rintro e w12 ⟨r12,bs12,rfl,ht12,hap12,hb12⟩;have hbr12 : Below w9.heap.size w9 w12 := hbr11.trans (hb12.mono hbr11.size);have hbw12 : Below w.heap.size w w12 := hbw11.trans (hb12.mono hbw11.size);have hTI12 := ht12.trIn;obtain ⟨a1,n1,c1,a2,n2,c2,rfl⟩ := ht12.open;have BX12 := HBX.out.below hbr12;have HT12 : Hid (TrIn 6 w12 (.agg #[.int .i64 K,.int .i64 N,.string S,.slice x1 x2 x3,.slice x4 x5 x6]) t) := HT8.out.below hbr12;clear HDE ht12 hap12 hb12 hbr11 hbw11;simp only at hTI12 ⊢;generalize t.kind = K2 at *;generalize t.n = N2 at *;generalize t.s = S2 at *;have al13 : Below w12.heap.size w12 (w12.alloc (Obj.cells #[.int .i64 K2,.int .i64 N2,.string S2,.slice a1 n1 c1,.slice a2 n2 c2] 39)) := (Below.refl _ _).alloc (Nat.le_refl _) _;have hbw13 : Below w.heap.size w (w12.alloc (Obj.cells #[.int .i64 K2,.int .i64 N2,.string S2,.slice a1 n1 c1,.slice a2 n2 c2] 39)) := hbw12.trans (al13.mono hbw12.size);have HSE : Hid (Calls Tryz.prog 15 #[.agg #[.int .i64 K2,.int .i64 N2,.string S2,.slice a1 n1 c1,.slice a2 n2 c2],.agg #[.int .i64 K,.int .i64 N,.string S,.slice x1 x2 x3,.slice x4 x5 x6]] (w12.alloc (Obj.cells #[.int .i64 K2,.int .i64 N2,.string S2,.slice a1 n1 c1,.slice a2 n2 c2] 39)) fun e w' => e = .returned (.bool true) ∧ Below (w12.alloc (Obj.cells #[.int .i64 K2,.int .i64 N2,.string S2,.slice a1 n1 c1,.slice a2 n2 c2] 39)).heap.size (w12.alloc (Obj.cells #[.int .i64 K2,.int .i64 N2,.string S2,.slice a1 n1 c1,.slice a2 n2 c2] 39)) w') := rsame_eq (hTI12.below al13) (HT12.out.below al13);have ltX := BX12.lt;have q0 := (BX12.cell 0).trans rfl;have q1 := (BX12.cell 1).trans rfl;have q2 := (BX12.cell 2).trans rfl;have q3 := (BX12.cell 3).trans rfl;have q4 := (BX12.cell 4).trans rfl;clear hTI12 al13 HT12 BX12 hbw12;go_wp2_with fail;refine HSE.out.mono ?_;rintro e w14 ⟨rfl,hb14⟩;have hbw14 : Below w.heap.size w w14 := hbw13.trans (hb14.mono hbw13.size);clear HSE hb14 q0 q1 q2 q3 q4 ltX hbw13;go_wp2_with fail;refine (dcawake_any _).mono ?_;rintro e wz ⟨rfl,hbz⟩;have hbwz : Below w.heap.size w wz := hbw14.trans (hbz.mono hbw14.size);clear hbz;go_wp2_with fail;go_ret;exact ⟨rfl,hbwz⟩
end Go.Proofs.YtiajaocckkghgabGreat
