/- Part 7 of what the proof stands on. -/
import Derived.Test.YtmgbhicogmclgaaGreatPkWAF
import Derived.Deep.QuietTactic
import Derived.Deep.RegionWith
import Derived.Deep.Cut
import Derived.Deep.CutRange
namespace Go.Proofs.YtmgbhicogmclgaaGreat
set_option maxHeartbeats 8000000
set_option linter.unusedVariables false
set_option linter.unusedSimpArgs false
set_option maxRecDepth 20000
section
open Go.ChangeShapes Go.WideShapes Go.ChangeAt Go.RowKit Go.Maps
theorem types_told (k : Int) (s : ByteArray) (ms : List MsS) (es : List EnS) : memT (k,s) (five true true true true true ++ ms.map (fun m => (7,m.name)) ++ es.map (fun m => (6,m.name))) = typeB (ms.map MsS.name) (es.map EnS.name) k s := by
 rw [Bool.eq_iff_iff,memT_iff];unfold typeB;simp only [List.mem_append,mem5,true_and,Bool.or_eq_true,Bool.and_eq_true,decide_eq_true_eq,memB_iff,List.mem_map,Prod.mk.injEq]
 constructor
 ·rintro ((h | ⟨m,hm,h1,h2⟩) | ⟨m,hm,h1,h2⟩)
  ·rcases h with ⟨h1,h2⟩ | ⟨h1,h2⟩ | ⟨h1,h2⟩ | ⟨h1,h2⟩ | ⟨h1,h2⟩ <;> exact .inl (.inl ⟨by omega,h2⟩)
  ·exact .inr ⟨h1.symm,m,hm,h2⟩
  ·exact .inl (.inr ⟨h1.symm,m,hm,h2⟩)
 ·rintro ((⟨h1,h2⟩ | ⟨h1,m,hm,h2⟩) | ⟨h1,m,hm,h2⟩)
  ·refine .inl (.inl ?_)
   have : k = 1 ∨ k = 2 ∨ k = 3 ∨ k = 4 ∨ k = 5 := by omega
   rcases this with h | h | h | h | h
   ·exact .inl ⟨h,h2⟩
   ·exact .inr (.inl ⟨h,h2⟩)
   ·exact .inr (.inr (.inl ⟨h,h2⟩))
   ·exact .inr (.inr (.inr (.inl ⟨h,h2⟩)))
   ·exact .inr (.inr (.inr (.inr ⟨h,h2⟩)))
  ·exact .inr ⟨m,hm,h1.symm,h2⟩
  ·exact .inl (.inr ⟨m,hm,h1.symm,h2⟩)
theorem typesof_any {w : World} {v : Value} {s : ScS} (hr : ScIn w v s) (hw : ScW s) (h1 : s.msgs.length ≤ 30000) (h2 : s.enums.length ≤ 30000) :
  Calls Tryz.prog 34 #[v] w fun e w' => (∃ bY ny T,e = .returned (.map (some bY)) ∧ w.heap.size ≤ bY ∧ SetT w' bY ny T ∧ ∀ k s',memT (k,s') T = typeB s.mn s.en k s') ∧ Below w.heap.size w w' := by
 obtain ⟨vm,ve,vt,rfl,hm,he,ht⟩ := hr;obtain ⟨am,cm,rfl,qm1,qm2,_⟩ := hm.open;obtain ⟨ae,ce,rfl,qe1,qe2,_⟩ := he.open;obtain ⟨at',ct,rfl,qt1,qt2⟩ := ht.form2;unfold maxLen at qm2 qe2;have HM : Hid _ := hm;have HE : Hid _ := he;clear hm he ht;obtain ⟨nm,ms,es,ts⟩ := s;simp only at *;have HM : Hid (MsIn w (.slice am ms.length cm) ms) := HM;have HE : Hid (EnIn w (.slice ae es.length ce) es) := HE;generalize (mtRows ts).length = T at *;obtain ⟨M,hM⟩ : ∃ N,ms.length = N := ⟨_,rfl⟩;obtain ⟨E,hE⟩ : ∃ N,es.length = N := ⟨_,rfl⟩;rw [hM] at HM qm1 h1 ⊢;rw [hE] at HE qe1 h2 ⊢;have HNM : Hid (ms.length = M) := hM;have HNE : Hid (es.length = E) := hE;have HW : Hid (ScW ⟨nm,ms,es,ts⟩) := hw;clear hM hE hw;have hmm := @run_makeMap Tryz.prog
 go_enter Tryz.func34,Tryz.ntmps34
 go_wp2_with fail;refine wp_region_held_drew (S := fun _ => True) (by kernel_rfl) trivial (fun hS => ?_);have HW0 : Hid (Below w.heap.size w (w.alloc (.cells #[.string nm,.slice am M cm,.slice ae E ce,.slice at' T ct] 26)).drew) := below_drewN 1 (bra _);have HX0 : Hid (Blk (w.alloc (.cells #[.string nm,.slice am M cm,.slice ae E ce,.slice at' T ct] 26)).drew w.heap.size #[.string nm,.slice am M cm,.slice ae E ce,.slice at' T ct] 26) := Blk.new w #[.string nm,.slice am M cm,.slice ae E ce,.slice at' T ct] 26;generalize (w.alloc (.cells #[.string nm,.slice am M cm,.slice ae E ce,.slice at' T ct] 26)).drew = W0 at *;clear hS;refine rg_tk 1 9 (.agg #[.int .i64 1,.string ⟨#[]⟩]) (fun w' hw' => ?_) trivial (bts 18 2) ?_
 ·go_simp
 refine rg_tk 2 10 (.agg #[]) (fun w' hw' => ?_) trivial (bts 18 6) ?_
 ·go_simp
 refine rg_tk 4 11 (.agg #[.int .i64 2,.string ⟨#[]⟩]) (fun w' hw' => ?_) trivial (bts 18 22) ?_
 ·go_simp
 refine rg_tk 5 12 (.agg #[]) (fun w' hw' => ?_) trivial (bts 18 54) ?_
 ·go_simp
 refine rg_tk 7 13 (.agg #[.int .i64 3,.string ⟨#[]⟩]) (fun w' hw' => ?_) trivial (bts 18 182) ?_
 ·go_simp
 refine rg_tk 8 14 (.agg #[]) (fun w' hw' => ?_) trivial (bts 18 438) ?_
 ·go_simp
 refine rg_tk 10 15 (.agg #[.int .i64 4,.string ⟨#[]⟩]) (fun w' hw' => ?_) trivial (bts 18 1462) ?_
 ·go_simp
 refine rg_tk 11 16 (.agg #[]) (fun w' hw' => ?_) trivial (bts 18 3510) ?_
 ·go_simp
 refine rg_tk 13 17 (.agg #[.int .i64 5,.string ⟨#[]⟩]) (fun w' hw' => ?_) trivial (bts 18 11702) ?_
 ·go_simp
 refine rg_tk 14 18 (.agg #[]) (fun w' hw' => ?_) trivial (bts 18 28086) ?_
 ·go_simp
 refine rg_run 0 8 (.map (some W0.heap.size)) (W0.alloc (.map #[] 0)) rfl rfl (by kernel_rfl) (by rfl) (listed' := bts 18 28087) (by kernel_rfl) (by go_simp) trivial ?_;simp only [zsA,zsZ,zsS];refine rg_five (b := W0.heap.size) (B := W0.heap.size) (w0 := W0) (Nat.le_refl _) rfl rfl rfl rfl rfl rfl rfl rfl rfl rfl rfl rfl rfl rfl rfl rfl rfl rfl rfl rfl rfl rfl rfl rfl rfl rfl rfl rfl rfl rfl rfl (by intro b1 b2 b3 b4 b5; cases b1 <;> cases b2 <;> cases b3 <;> cases b4 <;> cases b5 <;> kernel_rfl) ?fin 5 0 false false false false false rfl (by omega) (W0.alloc (.map #[] 0)) (by simp) (bra _) (SetK.made 54 W0);intro W1 n1 hn1 hbel1 hset1;have HS1 : Hid (SetT W1 W0.heap.size n1 (five true true true true true)) := hset1;clear hset1;refine rg_tk 16 19 (.map (some W0.heap.size)) (fun w' hw' => ?_) trivial (bts 18 131071) ?_
 ·go_simp
 refine rg_tk 17 3 (.map (some W0.heap.size)) (fun w' hw' => ?_) trivial (bts 18 262143) ?_
 ·go_simp
 refine wpAnyH_done (by kernel_rfl) ?_ _;clear hmm;have hx0 : w.heap.size < W0.heap.size := HX0.out.lt;obtain ⟨bY,hbY⟩ : ∃ n,W0.heap.size = n := ⟨_,rfl⟩;rw [hbY] at HS1 hbel1 hx0 ⊢;have HBY : Hid (W0.heap.size = bY) := hbY;clear hbY
 have hb1 : Below W0.heap.size W0 W1 := by rw [HBY.out]; exact hbel1
 have b1 : W1.cell? ⟨w.heap.size,1,none⟩ = some (.slice am M cm) := (HX0.out.below hb1).cell 1;clear hb1;obtain ⟨F,hF⟩ : ∃ F,five true true true true true = F := ⟨_,rfl⟩;rw [hF] at HS1;have HF : Hid (five true true true true true = F) := hF;clear hF
 have HS1' : Hid (SetT W1 bY (n1 + 0) (F ++ (ms.take 0).map fun m => (7,m.name))) := by
  show SetT _ _ _ _
  rw [List.take_zero,List.map_nil,List.append_nil]; exact HS1.out
 clear HS1;go_wp2_with fail;clear b1
 go_loopw [23] (fun iv wr => ∃ (k : Nat),iv = .int .i64 (k : Int) ∧ k ≤ M ∧ Hid (SetT wr bY (n1 + k) (F ++ (ms.take k).map fun m => (7,m.name))) ∧ Below bY W0 wr) (fun iv _ => M - (intOf iv).toNat)
 case atStart => exact ⟨0,rfl,by omega,HS1',hbel1⟩
 case round =>
  obtain ⟨k,rfl,hk,HS,hbel⟩ := hrel;clear HS1'
  have hbW : Below W0.heap.size W0 wr := by rw [HBY.out]; exact hbel
  have hbw : Below w.heap.size w wr := HW0.out.trans (hbW.mono HW0.out.size);have hbt : bY < wr.heap.size := SetK.lt HS.out
  by_cases hlt : k < M
  ·obtain ⟨m,hm⟩ : ∃ n,ms[k]? = some n := ⟨_,List.getElem?_eq_getElem (by rw [HNM.out]; exact hlt)⟩;obtain ⟨g,off,vf,vr,rfl,c0,c1,c2,hf,hrr⟩ := (HM.out.below hbw).get hm;obtain ⟨a3,c3,rfl,_,_⟩ := hf.form2;obtain ⟨a4,c4,rfl,_,_⟩ := hrr.form2;generalize (flRows m.fields).length = nF at *;generalize (inRows m.reserved).length = nR at *;have hms := (HW.out.msgs m (List.mem_of_getElem? hm)).1
   have HTK : Hid ((F ++ (ms.take k).map fun m => ((7 : Int),m.name)) ++ [(7,m.name)] = F ++ (ms.take (k + 1)).map fun m => (7,m.name)) := by
    show _ = _
    rw [List.take_add_one,hm,List.map_append,List.append_assoc]; rfl
   generalize m.name = mnm at *;clear hf hrr hm hbW hbw;go_wp2_with fail;clear c0 c1 c2;have hba : Below wr.heap.size wr (wr.alloc (.cells #[.string mnm,.slice a3 nF c3,.slice a4 nR c4] 52)) := bra _;refine (msgtype_any _ _).mono ?_;rintro e w2 ⟨rfl,hb2⟩;obtain ⟨kl,hkey⟩ := key_ty (k := 7) (s := mnm) ⟨by decide,by decide⟩ hms;obtain ⟨D,hown,h2'⟩ := SetK.below (SetK.below HS.out hba) hb2;have H2 : Hid _ := h2';clear h2';have hkey' := hkey;unfold tyV at hkey';simp only at hkey';have hb3 : Below bY W0 w2 := (hbel.alloc (by omega) _).trans (hb2.mono (by simp; omega))
   have hbt2 : bY ≤ w2.heap.size := by have := hb2.size; simp at this; omega
   clear hb2 hba hbel
   go_wp2_with (first
    | (at_mapUpdate; refine wpList_mapUpdate_own _ rfl _ _ _ 85 rfl 54 129 lawT Tryz.underlying85 (unitElem (H := Unit)) bY (n1 + k) _ rfl hown (by unfold maxLen; omega) _ _ _ rfl rfl hkey' _ [] unitElem_mk ?_; intro w3 hown1 hgrow1)
    | fail)
   have HS3 : Hid (SetT w3 bY (n1 + (k + 1)) (F ++ (ms.take (k + 1)).map fun m => (7,m.name))) := by
    show SetT _ _ _ _
    rw [← HTK.out];have := SetK.put lawT hown.isMap H2.out hkey hown1;unfold SetT;rw [List.map_append];exact this
   have hb4 : Below bY W0 w3 := hb3.grown hgrow1 hbt2 (fun j hj => by cases hj; exact Nat.le_refl _);clear hown hown1 hgrow1 H2 hkey hkey' HTK HS hb3;go_wp2_with fail
   go_roundw
   case rel => exact ⟨k + 1,by go_num,by omega,HS3,hb4⟩
   case measure => simp [intOf]; omega
  ·obtain rfl : k = M := by omega
   have b2 : wr.cell? ⟨w.heap.size,2,none⟩ = some (.slice ae E ce) := (HX0.out.below hbW).cell 2;obtain ⟨G,hG⟩ : ∃ G,F ++ (ms.take k).map (fun m => ((7 : Int),m.name)) = G := ⟨_,rfl⟩;rw [hG] at HS
   have HG : Hid (F ++ ms.map (fun m => ((7 : Int),m.name)) = G) := by
    show _ = _
    rw [← hG,List.take_of_length_le (by rw [HNM.out]; omega)]
   clear hG
   have HS2 : Hid (SetT wr bY (n1 + k + 0) (G ++ (es.take 0).map fun m => (6,m.name))) := by
    show SetT _ _ _ _
    rw [List.take_zero,List.map_nil,List.append_nil]; exact HS.out
   clear HS hbW hbw;go_wp2_with fail;clear b2
   go_loopw [36] (fun iv wr => ∃ (i : Nat),iv = .int .i64 (i : Int) ∧ i ≤ E ∧ Hid (SetT wr bY (n1 + k + i) (G ++ (es.take i).map fun m => (6,m.name))) ∧ Below bY W0 wr) (fun iv _ => E - (intOf iv).toNat)
   case atStart => exact ⟨0,rfl,by omega,HS2,hbel⟩
   case round =>
    obtain ⟨i,rfl,hi,HS,hbel⟩ := hrel;clear HS2
    have hbW : Below W0.heap.size W0 wr := by rw [HBY.out]; exact hbel
    have hbw : Below w.heap.size w wr := HW0.out.trans (hbW.mono HW0.out.size);have hbt : bY < wr.heap.size := SetK.lt HS.out
    by_cases hlt : i < E
    ·obtain ⟨m,hm⟩ : ∃ n,es[i]? = some n := ⟨_,List.getElem?_eq_getElem (by rw [HNE.out]; exact hlt)⟩;obtain ⟨g,off,vf,rfl,c0,c1,hf⟩ := (HE.out.below hbw).get hm;obtain ⟨a3,c3,rfl,_,_⟩ := hf.form2;generalize (nmRows m.values).length = nF at *;have hms := (HW.out.enums m (List.mem_of_getElem? hm)).1
     have HTK : Hid ((G ++ (es.take i).map fun m => ((6 : Int),m.name)) ++ [(6,m.name)] = G ++ (es.take (i + 1)).map fun m => (6,m.name)) := by
      show _ = _
      rw [List.take_add_one,hm,List.map_append,List.append_assoc]; rfl
     generalize m.name = mnm at *;clear hf hm hbW hbw;have hba : Below wr.heap.size wr (wr.alloc (.cells #[.string mnm,.slice a3 nF c3] 59)) := bra _;obtain ⟨kl,hkey⟩ := key_ty (k := 6) (s := mnm) ⟨by decide,by decide⟩ hms;obtain ⟨D,hown,h2'⟩ := SetK.below HS.out hba;have H2 : Hid _ := h2';clear h2';have hkey' := hkey;unfold tyV at hkey';simp only at hkey';have hb3 : Below bY W0 (wr.alloc (.cells #[.string mnm,.slice a3 nF c3] 59)) := hbel.alloc (by omega) _
     have hbt2 : bY ≤ (wr.alloc (.cells #[.string mnm,.slice a3 nF c3] 59)).heap.size := by simp; omega
     clear hba hbel
     go_wp2_with (first
      | (at_mapUpdate; refine wpList_mapUpdate_own _ rfl _ _ _ 85 rfl 54 129 lawT Tryz.underlying85 (unitElem (H := Unit)) bY (n1 + k + i) _ rfl hown (by unfold maxLen; omega) _ _ _ rfl rfl hkey' _ [] unitElem_mk ?_; intro w3 hown1 hgrow1)
      | fail)
     clear c0 c1
     have HS3 : Hid (SetT w3 bY (n1 + k + (i + 1)) (G ++ (es.take (i + 1)).map fun m => (6,m.name))) := by
      show SetT _ _ _ _
      rw [← HTK.out];have := SetK.put lawT hown.isMap H2.out hkey hown1;unfold SetT;rw [List.map_append];exact this
     have hb4 : Below bY W0 w3 := hb3.grown hgrow1 hbt2 (fun j hj => by cases hj; exact Nat.le_refl _);clear hown hown1 hgrow1 H2 hkey hkey' HTK HS hb3;go_wp2_with fail
     go_roundw
     case rel => exact ⟨i + 1,by go_num,by omega,HS3,hb4⟩
     case measure => simp [intOf]; omega
    ·go_wp2_with fail;go_ret;refine ⟨⟨bY,_,_,rfl,by omega,HS.out,fun k' s' => ?_⟩,hbw⟩;rw [← HG.out,← HF.out,List.take_of_length_le (by rw [HNE.out]; omega)];exact types_told k' s' ms es
structure FewL (s : ScS) : Prop where
 msgs : s.msgs.length ≤ 14
 enums : s.enums.length ≤ 10
 meths : s.methods.length ≤ 10
 flds : ∀ m ∈ s.msgs,m.fields.length ≤ 20 ∧ m.reserved.length ≤ 40
 vals : ∀ e ∈ s.enums,e.values.length ≤ 24
structure MayL (s : ScS) : Prop where
 msgs : s.msgs.length ≤ 30000
 enums : s.enums.length ≤ 30000
 meths : s.methods.length ≤ 30000
 flds : ∀ m ∈ s.msgs,m.fields.length ≤ 30000 ∧ m.reserved.length ≤ 30000
 vals : ∀ e ∈ s.enums,e.values.length ≤ 30000
theorem FewL.may {s : ScS} (h : FewL s) : MayL s := ⟨Nat.le_trans h.msgs (by decide),Nat.le_trans h.enums (by decide),Nat.le_trans h.meths (by decide),fun m hm => ⟨Nat.le_trans (h.flds m hm).1 (by decide),Nat.le_trans (h.flds m hm).2 (by decide)⟩,fun e he => Nat.le_trans (h.vals e he) (by decide)⟩
theorem chkMs_err {mn en a : List ByteArray} {m : MsS} {l : List MsS} {X : Int} (hX : X = if freshB m.name a = false then 6 else chkMb mn en m) (h : X ≠ 0) : chkMs mn en a (m :: l) = X := by
 unfold chkMs
 cases hf : freshB m.name a
 ·rw [if_pos rfl]; rw [hf,if_pos rfl] at hX; exact hX.symm
 ·rw [if_neg (by decide)]; rw [hf,if_neg (by decide)] at hX; subst hX; exact orE_ne h _
theorem chkMs_on {mn en a : List ByteArray} {m : MsS} {l : List MsS} (hX : 0 = if freshB m.name a = false then 6 else chkMb mn en m) : freshB m.name a = true ∧ chkMs mn en a (m :: l) = chkMs mn en (a ++ [m.name]) l := by
 cases hf : freshB m.name a
 ·rw [hf,if_pos rfl] at hX; omega
 ·rw [hf,if_neg (by decide)] at hX;refine ⟨rfl,?_⟩
  show (if freshB m.name a = false then 6 else orE (chkMb mn en m) (chkMs mn en (a ++ [m.name]) l)) = _
  rw [hf,if_neg (by decide),← hX,orE_zero]
theorem chkEs_err {a : List ByteArray} {m : EnS} {l : List EnS} {X : Int} (hX : X = if freshB m.name a = false then 6 else chkEb m) (h : X ≠ 0) : chkEs a (m :: l) = X := by
 unfold chkEs
 cases hf : freshB m.name a
 ·rw [if_pos rfl]; rw [hf,if_pos rfl] at hX; exact hX.symm
 ·rw [if_neg (by decide)]; rw [hf,if_neg (by decide)] at hX; subst hX; exact orE_ne h _
theorem chkEs_on {a : List ByteArray} {m : EnS} {l : List EnS} (hX : 0 = if freshB m.name a = false then 6 else chkEb m) : freshB m.name a = true ∧ chkEs a (m :: l) = chkEs (a ++ [m.name]) l := by
 cases hf : freshB m.name a
 ·rw [hf,if_pos rfl] at hX; omega
 ·rw [hf,if_neg (by decide)] at hX;refine ⟨rfl,?_⟩
  show (if freshB m.name a = false then 6 else orE (chkEb m) (chkEs (a ++ [m.name]) l)) = _
  rw [hf,if_neg (by decide),← hX,orE_zero]
theorem check_may {w : World} {v : Value} {s : ScS} (hr : ScIn w v s) (hw : ScW s) (hf : MayL s) :
  Calls Tryz.prog 20 #[v] w fun e w' => e = .returned (.int .i64 (checkA s)) ∧ Below w.heap.size w w' := by
 have HSC := hr;obtain ⟨vm,ve,vt,rfl,hm,he,ht⟩ := hr;obtain ⟨am,cm,rfl,qm1,qm2⟩ := hm.form2;obtain ⟨ae,ce,rfl,qe1,qe2⟩ := he.form2;obtain ⟨at',ct,rfl,qt1,qt2⟩ := ht.form2
 have hT : (mtRows s.methods).length = s.methods.length := by simp [mtRows]
 rw [hT] at HSC ht qt1 ⊢;clear hT;have HWA : Hid (∀ W : World,Calls Tryz.prog 33 #[.agg #[.string s.name,.slice am s.msgs.length cm,.slice ae s.enums.length ce,.slice at' s.methods.length ct]] W fun e w' => e = .returned (.int .i64 (wholeA s)) ∧ Below W.heap.size W w') := fun W => cwhole_any s hw.name hf.msgs hf.enums hf.meths
 have HTO : Hid (∀ W : World,Below w.heap.size w W → Calls Tryz.prog 34 #[.agg #[.string s.name,.slice am s.msgs.length cm,.slice ae s.enums.length ce,.slice at' s.methods.length ct]] W fun e w' => (∃ bY ny T,e = .returned (.map (some bY)) ∧ W.heap.size ≤ bY ∧ SetT w' bY ny T ∧ ∀ k s',memT (k,s') T = typeB s.mn s.en k s') ∧ Below W.heap.size W w') := fun W hW => typesof_any (HSC.below hW) hw hf.msgs hf.enums
 have HM : Hid (MsIn w (.slice am s.msgs.length cm) s.msgs) := hm;have HE : Hid (EnIn w (.slice ae s.enums.length ce) s.enums) := he;have HT : Hid (RowG w (.slice at' s.methods.length ct) 3 (mtRows s.methods)) := ht;have HMN : Hid (s.mn = s.msgs.map MsS.name) := rfl;obtain ⟨CA,hCA⟩ : ∃ A,checkA s = A := ⟨_,rfl⟩;obtain ⟨WA,hWA⟩ : ∃ A,wholeA s = A := ⟨_,rfl⟩
 have HCA : Hid (CA = orE WA (orE (orE (chkMs s.mn s.en [] s.msgs) (chkEs s.mn s.enums)) (chkTs s.mn [] s.methods))) := by show _ = _; rw [← hCA,← hWA]; rfl
 rw [hWA] at HWA;rw [hCA];generalize s.mn = mn at *;generalize s.en = en at *;have HF : Hid (MayL s) := hf;have HW : Hid (ScW s) := hw;obtain ⟨nm,ms,es,ts⟩ := s;simp only at *;have HM : Hid (MsIn w (.slice am ms.length cm) ms) := HM;have HE : Hid (EnIn w (.slice ae es.length ce) es) := HE;obtain ⟨M,hM⟩ : ∃ N,ms.length = N := ⟨_,rfl⟩;obtain ⟨E,hE⟩ : ∃ N,es.length = N := ⟨_,rfl⟩;obtain ⟨T,hT⟩ : ∃ N,ts.length = N := ⟨_,rfl⟩;have h1 := hf.msgs;have h2 := hf.enums;have h3 := hf.meths;simp only at h1 h2 h3;have HL3 : Hid (ts.length ≤ 30000) := h3;rw [hM] at HM qm1 h1 HWA HTO ⊢;rw [hE] at HE qe1 h2 HWA HTO ⊢;rw [hT] at HT qt1 h3 HWA HTO ⊢;have HNM : Hid (ms.length = M) := hM;have HNE : Hid (es.length = E) := hE;have HNT : Hid (ts.length = T) := hT;clear hM hE hT hf hw HSC hm he ht hCA hWA;have hba : Below w.heap.size w (w.alloc (.cells #[.string nm,.slice am M cm,.slice ae E ce,.slice at' T ct] 26)) := bra _;have BX := Blk.new w #[.string nm,.slice am M cm,.slice ae E ce,.slice at' T ct] 26;have hmm := @run_makeMap Tryz.prog
 by_cases hw0 : WA = 0
 ·subst hw0
  have HCA : Hid (CA = orE (orE (chkMs mn en [] ms) (chkEs mn es)) (chkTs mn [] ts)) := by show _ = _; rw [HCA.out,orE_zero]
  go_enter Tryz.func20,Tryz.ntmps20
  go_wp2_with fail;refine (HWA.out _).mono ?_;rintro e w1 ⟨rfl,hb1⟩;have BX1 := BX.below hb1;have b0 : w1.cell? ⟨w.heap.size,0,none⟩ = some (.string nm) := BX1.cell 0;have b1 : w1.cell? ⟨w.heap.size,1,none⟩ = some (.slice am M cm) := BX1.cell 1;have b2 : w1.cell? ⟨w.heap.size,2,none⟩ = some (.slice ae E ce) := BX1.cell 2;have b3 : w1.cell? ⟨w.heap.size,3,none⟩ = some (.slice at' T ct) := BX1.cell 3;have hb01 : Below w.heap.size w w1 := hba.trans (hb1.mono hba.size);go_wp2_with fail;clear b0 b1 b2 b3;refine (HTO.out w1 hb01).mono ?_;rintro e w2 ⟨⟨bY,ny,Ty,rfl,hbY,hTy,hTt⟩,hb2⟩;have HTy : Hid (SetT w2 bY ny Ty) := hTy;have HTT : Hid (∀ k s',memT (k,s') Ty = typeB mn en k s') := hTt;clear hTy hTt;have BX2 := BX1.below hb2;have hb02 : Below w.heap.size w w2 := hb01.trans (hb2.mono hb01.size);have b1 : w2.cell? ⟨w.heap.size,1,none⟩ = some (.slice am M cm) := BX2.cell 1;have hx2 : w.heap.size < w2.heap.size := BX2.lt;have hxY : w.heap.size < bY := Nat.lt_of_lt_of_le BX1.lt hbY;have hYn : bY < w2.heap.size := SetK.lt HTy.out;clear hb1 hb2 hb01 BX BX1 hba HWA HTO;go_wp2_with fail;clear hmm b1;have HM0 : SetS (w2.alloc (.map #[] 0)) w2.heap.size 0 ((ms.take 0).map MsS.name) := SetK.made 9 w2;have HTy0 : Hid (SetT (w2.alloc (.map #[] 0)) bY ny Ty) := SetK.below HTy.out (bra _);have hbel0 : Below w.heap.size w (w2.alloc (.map #[] 0)) := hb02.alloc (by omega) _;have BX0 : Blk (w2.alloc (.map #[] 0)) w.heap.size #[.string nm,.slice am M cm,.slice ae E ce,.slice at' T ct] 26 := BX2.below (bra _);obtain ⟨bn,hbn⟩ : ∃ n,w2.heap.size = n := ⟨_,rfl⟩;rw [hbn] at HM0 hYn hx2 ⊢;clear hbn HTy BX2 hb02;obtain ⟨P1,hP1⟩ : ∃ A,chkMs mn en [] ms = A := ⟨_,rfl⟩;have HP1 : Hid (P1 = chkMs mn en ((ms.take 0).map MsS.name) (ms.drop 0)) := hP1.symm
  have HCA : Hid (CA = orE (orE P1 (chkEs mn es)) (chkTs mn [] ts)) := by show _ = _; rw [HCA.out,hP1]
  clear hP1
  go_loopw [23] (fun iv wr => ∃ (k : Nat),iv = .int .i64 (k : Int) ∧ k ≤ M ∧ Hid (P1 = chkMs mn en ((ms.take k).map MsS.name) (ms.drop k)) ∧ Hid (SetS wr bn k ((ms.take k).map MsS.name)) ∧ Hid (SetT wr bY ny Ty) ∧ Below w.heap.size w wr ∧ Blk wr w.heap.size #[.string nm,.slice am M cm,.slice ae E ce,.slice at' T ct] 26) (fun iv _ => M - (intOf iv).toNat)
  case atStart => exact ⟨0,rfl,by omega,HP1,HM0,HTy0,hbel0,BX0⟩
  case round =>
   obtain ⟨k,rfl,hk,HP,HS,HTy,hbel,BX⟩ := hrel;clear HM0 HTy0 hbel0 BX0;have hbw : bn < wr.heap.size := SetK.lt HS.out
   by_cases hlt : k < M
   ·obtain ⟨m,hm⟩ : ∃ n,ms[k]? = some n := ⟨_,List.getElem?_eq_getElem (by rw [HNM.out]; exact hlt)⟩;obtain ⟨g,off,vf,vr,rfl,c0,c1,c2,hf,hrr⟩ := (HM.out.below hbel).get hm;have HFf : Hid (RowG wr vf 5 (flRows m.fields)) := hf;have HRr : Hid (RowG wr vr 1 (inRows m.reserved)) := hrr;obtain ⟨a3,c3,rfl,_,_⟩ := hf.form2;obtain ⟨a4,c4,rfl,_,_⟩ := hrr.form2;have hmem := List.mem_of_getElem? hm;have HWm : Hid (MsW m) := HW.out.msgs m hmem;have HFm : Hid (m.fields.length ≤ 30000 ∧ m.reserved.length ≤ 30000) := HF.out.flds m hmem
    have HP2 : Hid (P1 = chkMs mn en ((ms.take k).map MsS.name) (m :: ms.drop (k + 1))) := by show _ = _; rw [HP.out,drop_at hm]
    have HTK : Hid ((ms.take (k + 1)).map MsS.name = (ms.take k).map MsS.name ++ [m.name]) := by show _ = _; rw [take_at hm,List.map_append]; rfl
    obtain ⟨m0,mf,mr⟩ := m;simp only at c0 c1 c2 HTK HP2 HFm;have HFf : Hid (RowG wr (.slice a3 (flRows mf).length c3) 5 (flRows mf)) := HFf;have HRr : Hid (RowG wr (.slice a4 (inRows mr).length c4) 1 (inRows mr)) := HRr;have HNF : Hid (RowG wr (.slice a3 (flRows mf).length c3) 5 (flRows mf) ∧ RowG wr (.slice a4 (inRows mr).length c4) 1 (inRows mr)) := ⟨HFf.out,HRr.out⟩;generalize (flRows mf).length = nF at *;generalize (inRows mr).length = nR at *;clear hf hrr hm HP hmem HFf HRr;go_wp2_with fail;clear c0 c1 c2;have hba : Below wr.heap.size wr (wr.alloc (.cells #[.string m0,.slice a3 nF c3,.slice a4 nR c4] 52)) := bra _;refine (cmsg_any (HNF.out.1.below hba) (HNF.out.2.below hba) HFm.out.1 HFm.out.2 (SetK.below HS.out hba) (by omega) (SetK.below HTy.out hba) (by omega) HTT.out HWm.out).mono ?_;rintro e w3 ⟨rfl,hs3,hk3⟩;have HS3 : Hid _ := hs3;clear hs3;obtain ⟨X,hX⟩ : ∃ X,(if freshB m0 ((ms.take k).map MsS.name) = false then 6 else chkMb mn en ⟨m0,mf,mr⟩) = X := ⟨_,rfl⟩;rw [hX];have HX : Hid (X = if freshB m0 ((ms.take k).map MsS.name) = false then 6 else chkMb mn en ⟨m0,mf,mr⟩) := hX.symm;clear hX;have hb3 : Below w.heap.size w w3 := (hbel.alloc (by omega) _).trans (hk3.toBelow (by simp; omega) (fun k e => by omega))
    by_cases hx0 : X = 0
    ·subst hx0;obtain ⟨g1,g2⟩ := chkMs_on (m := ⟨m0,mf,mr⟩) (l := ms.drop (k + 1)) HX.out
     have HP3 : Hid (P1 = chkMs mn en ((ms.take (k + 1)).map MsS.name) (ms.drop (k + 1))) := by show _ = _; rw [HP2.out,g2,HTK.out]
     have HS4 : Hid (SetS w3 bn (k + 1) ((ms.take (k + 1)).map MsS.name)) := by show SetS _ _ _ _; rw [HTK.out]; exact HS3.out g1
     have HT4 : Hid (SetT w3 bY ny Ty) := SetK.kp (SetK.below HTy.out hba) hk3 (by omega);have BX4 := (BX.below hba).kp hk3 (by omega);clear g1 g2 HX HP2 HTK HS3 hba hk3 BX HS HTy hbel;go_wp2_with fail
     go_roundw
     case rel => exact ⟨k + 1,by go_num,by omega,HP3,HS4,HT4,hb3,BX4⟩
     case measure => simp [intOf]; omega
    ·have hx1 : (X == 0) = false := by simpa using hx0
     have HFin : Hid (X = CA) := by
      show _ = _
      rw [HCA.out,HP2.out,chkMs_err (m := ⟨m0,mf,mr⟩) HX.out hx0,orE_ne hx0,orE_ne hx0]
     go_wp2_with fail;go_ret;exact ⟨ret_int HFin.out,hb3⟩
   ·obtain rfl : k = M := by omega
    have hP0 : P1 = 0 := by rw [HP.out,drop_end (by rw [HNM.out]; omega)]; rfl
    obtain ⟨P2,hP2⟩ : ∃ A,chkEs mn es = A := ⟨_,rfl⟩
    have HP2 : Hid (P2 = chkEs (mn ++ (es.take 0).map EnS.name) (es.drop 0)) := by show _ = _; rw [List.take_zero,List.map_nil,List.append_nil,List.drop_zero]; exact hP2.symm
    have HCA : Hid (CA = orE P2 (chkTs mn [] ts)) := by show _ = _; rw [HCA.out,hP0,hP2,orE_zero]
    have HS0 : Hid (SetS wr bn (k + 0) (mn ++ (es.take 0).map EnS.name)) := by
     show SetS _ _ _ _
     have := HS.out;rw [List.take_of_length_le (by rw [HNM.out]; omega),← HMN.out] at this;rw [List.take_zero,List.map_nil,List.append_nil]; exact this
    have b2 : wr.cell? ⟨w.heap.size,2,none⟩ = some (.slice ae E ce) := BX.cell 2;clear HP hP0 hP2 HS HP1;go_wp2_with fail;clear b2
    go_loopw [38] (fun iv wr => ∃ (i : Nat),iv = .int .i64 (i : Int) ∧ i ≤ E ∧ Hid (P2 = chkEs (mn ++ (es.take i).map EnS.name) (es.drop i)) ∧ Hid (SetS wr bn (k + i) (mn ++ (es.take i).map EnS.name)) ∧ Hid (SetT wr bY ny Ty) ∧ Below w.heap.size w wr ∧ Blk wr w.heap.size #[.string nm,.slice am k cm,.slice ae E ce,.slice at' T ct] 26) (fun iv _ => E - (intOf iv).toNat)
    case atStart => exact ⟨0,rfl,by omega,HP2,HS0,HTy,hbel,BX⟩
    case round =>
     obtain ⟨i,rfl,hi,HP,HS,HTy,hbel,BX⟩ := hrel;clear HS0 HP2;have hbw : bn < wr.heap.size := SetK.lt HS.out
     by_cases hlt : i < E
     ·obtain ⟨m,hm⟩ : ∃ n,es[i]? = some n := ⟨_,List.getElem?_eq_getElem (by rw [HNE.out]; exact hlt)⟩;obtain ⟨g,off,vf,rfl,c0,c1,hf⟩ := (HE.out.below hbel).get hm;have HFf : Hid (RowG wr vf 2 (nmRows m.values)) := hf;obtain ⟨a3,c3,rfl,_,_⟩ := hf.form2;have hmem := List.mem_of_getElem? hm;have HWm : Hid (EnW m) := HW.out.enums m hmem;have HFm : Hid (m.values.length ≤ 30000) := HF.out.vals m hmem
      have HP2 : Hid (P2 = chkEs (mn ++ (es.take i).map EnS.name) (m :: es.drop (i + 1))) := by show _ = _; rw [HP.out,drop_at hm]
      have HTK : Hid (mn ++ (es.take (i + 1)).map EnS.name = (mn ++ (es.take i).map EnS.name) ++ [m.name]) := by show _ = _; rw [take_at hm,List.map_append,List.append_assoc]; rfl
      obtain ⟨m0,mf⟩ := m;simp only at c0 c1 HTK HP2 HFm;have HFf : Hid (RowG wr (.slice a3 (nmRows mf).length c3) 2 (nmRows mf)) := HFf;generalize (nmRows mf).length = nF at *;generalize mn ++ (es.take i).map EnS.name = AL at *;clear hf hm HP hmem;go_wp2_with fail;clear c0 c1;have hba : Below wr.heap.size wr (wr.alloc (.cells #[.string m0,.slice a3 nF c3] 59)) := bra _;refine (cenum_any (HFf.out.below hba) HFm.out (SetK.below HS.out hba) (by omega) HWm.out).mono ?_;rintro e w3 ⟨rfl,hs3,hk3⟩;have HS3 : Hid _ := hs3;clear hs3;obtain ⟨X,hX⟩ : ∃ X,(if freshB m0 AL = false then 6 else chkEb ⟨m0,mf⟩) = X := ⟨_,rfl⟩;rw [hX];have HX : Hid (X = if freshB m0 AL = false then 6 else chkEb ⟨m0,mf⟩) := hX.symm;clear hX;have hb3 : Below w.heap.size w w3 := (hbel.alloc (by omega) _).trans (hk3.toBelow (by simp; omega) (fun k e => by omega))
      by_cases hx0 : X = 0
      ·subst hx0;obtain ⟨g1,g2⟩ := chkEs_on (m := ⟨m0,mf⟩) (l := es.drop (i + 1)) HX.out
       have HP3 : Hid (P2 = chkEs (mn ++ (es.take (i + 1)).map EnS.name) (es.drop (i + 1))) := by show _ = _; rw [HP2.out,g2,HTK.out]
       have HS4 : Hid (SetS w3 bn (k + (i + 1)) (mn ++ (es.take (i + 1)).map EnS.name)) := by show SetS _ _ _ _; rw [HTK.out]; exact HS3.out g1
       have HT4 : Hid (SetT w3 bY ny Ty) := SetK.kp (SetK.below HTy.out hba) hk3 (by omega);have BX4 := (BX.below hba).kp hk3 (by omega);clear g1 g2 HX HP2 HTK HS3 hba hk3 BX HS HTy hbel HFf;go_wp2_with fail
       go_roundw
       case rel => exact ⟨i + 1,by go_num,by omega,HP3,HS4,HT4,hb3,BX4⟩
       case measure => simp [intOf]; omega
      ·have hx1 : (X == 0) = false := by simpa using hx0
       have HFin : Hid (X = CA) := by
        show _ = _
        rw [HCA.out,HP2.out,chkEs_err (m := ⟨m0,mf⟩) HX.out hx0,orE_ne hx0]
       go_wp2_with fail;go_ret;exact ⟨ret_int HFin.out,hb3⟩
     ·have hP0 : P2 = 0 := by rw [HP.out,drop_end (by rw [HNE.out]; omega)]; rfl
      have HFin : Hid (chkTs mn [] ts = CA) := by show _ = _; rw [HCA.out,hP0,orE_zero]
      have b3 : wr.cell? ⟨w.heap.size,3,none⟩ = some (.slice at' T ct) := BX.cell 3;clear hP0 HP HS;go_wp2_with fail;clear b3;refine (cmethods_any (HT.out.below hbel) HL3.out HTy.out HTT.out HW.out.meths).mono ?_;rintro e w3 ⟨rfl,hb3⟩;rw [HFin.out];go_wp2_with fail;go_ret;exact ⟨rfl,hbel.trans (hb3.mono hbel.size)⟩
 ·have hw1 : (WA == 0) = false := by simpa using hw0
  have HFin : Hid (WA = CA) := by show _ = _; rw [HCA.out,orE_ne hw0]
  go_enter Tryz.func20,Tryz.ntmps20
  go_wp2_with fail;refine (HWA.out _).mono ?_;rintro e w1 ⟨rfl,hb1⟩;have hb01 : Below w.heap.size w w1 := hba.trans (hb1.mono hba.size);go_wp2_with fail;go_ret;exact ⟨ret_int HFin.out,hb01⟩
theorem check_any {w : World} {v : Value} {s : ScS} (hr : ScIn w v s) (hw : ScW s) (hf : FewL s) :
  Calls Tryz.prog 20 #[v] w fun e w' => e = .returned (.int .i64 (checkA s)) ∧ Below w.heap.size w w' := check_may hr hw hf.may
end
section
open Go.ChangeShapes Go.WideShapes Go.ChangeAt Go.RowKit
def SeeF (n : Nat) (w : World) (r : List Value) (t : Tr) (bs : List Nat) : Prop := ∀ w',Sm w w' bs → TrC n w' r t ∧ TrR n w' r t
section
variable {n B b : Nat} {w w' w0 U : World} {r : List Value} {t : Tr} {bs : List Nat}
theorem SeeF.sm (h : SeeF n w r t bs) (hs : Sm w w' bs) : SeeF n w' r t bs := fun w'' h2 => h w'' fun k hk => (h2 k hk).trans (hs k hk)
theorem SeeF.trC (h : SeeF n w r t bs) : TrC n w r t := (h w fun _ _ => rfl).1
theorem SeeF.trW (h : SeeF n w r t bs) : TrW n w (.agg r.toArray) t := ⟨r,rfl,(h w fun _ _ => rfl).2⟩
theorem SeeF.trIn (h : SeeF n w r t bs) : TrIn n w (.agg r.toArray) t := ⟨r,rfl,h.trC⟩
theorem trC_open (h : TrC n w r t) : ∃ a1 n1 c1 a2 n2 c2,r = [.int .i64 t.kind,.int .i64 t.n,.string t.s,.slice a1 n1 c1,.slice a2 n2 c2] := by
 cases n with
 | zero => exact h.elim
 | succ n =>
  obtain ⟨ve,vr,e, -, -, -, -,k5,k6⟩ := h;obtain ⟨ae,ce,rfl, -⟩ := k6.open;obtain ⟨ar,cr,rfl, -⟩ := (show RowG w vr 4 (fdRows t.rest) from k5).form;exact ⟨_,_,_,_,_,_,e⟩
theorem SeeF.open (h : SeeF n w r t bs) : ∃ a1 n1 c1 a2 n2 c2,r = [.int .i64 t.kind,.int .i64 t.n,.string t.s,.slice a1 n1 c1,.slice a2 n2 c2] := trC_open h.trC
theorem see_store {c0 c1 c2 c3 c4 x0 x1 x2 x3 x4 : Value} (hB : Blk U b #[c0,c1,c2,c3,c4] 30) (h : SeeF n U [x0,x1,x2,x3,x4] t bs) (hn : b ∉ bs) (h0 : Below w0.heap.size w0 U) (hb0 : w0.heap.size ≤ b) :
  Blk (set5 U b 0 x0 x1 x2 x3 x4) b #[x0,x1,x2,x3,x4] 30 ∧ (TrIn n (set5 U b 0 x0 x1 x2 x3 x4) (.agg #[x0,x1,x2,x3,x4]) t ∧ TrW n (set5 U b 0 x0 x1 x2 x3 x4) (.agg #[x0,x1,x2,x3,x4]) t) ∧ Below w0.heap.size w0 (set5 U b 0 x0 x1 x2 x3 x4) :=
 ⟨blk_set5 hB,⟨(h.sm (set5_sm hn)).trIn,(h.sm (set5_sm hn)).trW⟩,h0.trans ((set5_kp U b 0 x0 x1 x2 x3 x4).toBelow h0.size fun q e => by rw [e]; exact hb0)⟩
end
def SeeFP (n : Nat) (R : Tr × Bool) (w : World) (e : Ending) (w' : World) : Prop := ∃ r bs,e = .returned (.tuple #[.agg r.toArray,.bool R.2]) ∧ SeeF n w' r R.1 bs ∧ Apt w.heap.size w' bs ∧ Below w.heap.size w w'
abbrev ProjC : Prop := ∀ (n : Nat) (s : ScS) (sv : Value) (nm : ByteArray) (tv : Value) (t : Tr) (w : World),n ≤ 59 → ScIn w sv s → ScW s → FewL s → TrW (n + 1) w tv t → SmN (n + 1) t → cntN (n + 1) t ≤ 5000 → Calls Tryz.prog 9 #[sv,.string nm,tv] w (SeeFP (n + 1) (projA (n + 1) s nm t) w)
structure Grw (s : ScS) (W0 : World) (b : Nat) (F : Nat → Prop) (w w' : World) (G : Nat → Prop) : Prop where
 kn : KnP s W0 w' b G
 sub : ∀ k,F k → G k
 new : ∀ k,G k → F k ∨ w.heap.size ≤ k
 kp : Kp (fun q => q = b) w w'
section
variable {s : ScS} {W0 w w1 w2 w3 : World} {b n : Nat} {F G H S : Nat → Prop}
theorem Grw.below (h : KnP s W0 w b F) (hb : Below w.heap.size w w1) : Grw s W0 b F w w1 F := ⟨h.mk_below hb,fun _ e => e,fun _ e => .inl e,Kp.ofBelow hb⟩
theorem Grw.before (h : Grw s W0 b F w1 w2 G) (hb : Below w.heap.size w w1) : Grw s W0 b F w w2 G :=
 ⟨h.kn,h.sub,fun k e => (h.new k e).imp id fun g => Nat.le_trans hb.size g,(Kp.ofBelow hb).trans h.kp⟩
theorem Grw.trans (h : Grw s W0 b F w w1 G) (k : Grw s W0 b G w1 w2 H) : Grw s W0 b F w w2 H :=
 ⟨k.kn,fun q e => k.sub q (h.sub q e),fun q e => by
  rcases k.new q e with e | e
  ·exact h.new q e
  ·exact .inr (Nat.le_trans h.kp.size e),h.kp.trans k.kp⟩
theorem Grw.stay (h : Grw s W0 b F w w1 G) (hk : Kp S w1 w2) (hs : ∀ q,S q → w.heap.size ≤ q ∧ ¬ G q ∧ q ≠ b) : Stay G w1 w2 := Stay.kp hk (fun k e => (h.kn.new k e).2) fun k e q => (hs k q).2.1 e
theorem Grw.after (h : Grw s W0 b F w w1 G) (hw : W0.heap.size ≤ w.heap.size) (hk : Kp S w1 w2) (hs : ∀ q,S q → w.heap.size ≤ q ∧ ¬ G q ∧ q ≠ b) : Grw s W0 b F w w2 G :=
 ⟨h.kn.kp hk (fun q e => Nat.le_trans hw (hs q e).1) (fun e => (hs _ e).2.2 rfl) (fun k e q => (hs k q).2.1 e),h.sub,h.new,h.kp.trans2 hk fun i hi e => absurd (hs i e).1 (by omega)⟩
theorem Grw.more (h : Grw s W0 b F w w1 G) (hs : ∀ k,G k → H k) (hn : ∀ k,H k → G k ∨ (w.heap.size ≤ k ∧ k < w1.heap.size)) (hw : W0.heap.size ≤ w.heap.size) (hb : ¬ H b) : Grw s W0 b F w w1 H :=
 ⟨h.kn.more hs (fun k e => by
  rcases hn k e with e | e
  ·exact h.kn.new k e
  ·exact ⟨Nat.le_trans hw e.1,e.2⟩) hb,fun k e => hs k (h.sub k e),fun k e => by
  rcases hn k e with e | e
  ·exact h.new k e
  ·exact .inr e.1,h.kp⟩
theorem Grw.fresh (h : Grw s W0 b F w1 w2 G) {g : Nat} {cs : Array Value} {t : TypeId} (hB : Blk w1 g cs t) (hF : ¬ F g) : ¬ G g := fun e => by
 rcases h.new g e with e | e
 ·exact hF e
 ·have := hB.lt; omega
theorem leaf_see {K N : Int} {S : ByteArray} {w : World} (hK : Is64 K) (hN : Is64 N) (hS : S.size ≤ 140737488351232) : SeeG (n + 1) w [.int .i64 K,.int .i64 N,.string S,.slice none 0 0,.slice none 0 0] ⟨K,N,S,[],[]⟩ F := fun w' _ =>
 ⟨.slice none 0 0,.slice none 0 0,rfl,hK,hN,hS,(fun f hf => by cases hf),RowG.nil _ _,RowP.nil _ _ _,(fun _ _ _ _ e => by cases e),fun _ _ _ _ e => by cases e⟩
end
def SeenP (s : ScS) (W0 : World) (b : Nat) (F : Nat → Prop) (n : Nat) (T : Tr) (w : World) (e : Ending) (w' : World) : Prop := ∃ r G,e = .returned (.agg r.toArray) ∧ Grw s W0 b F w w' G ∧ SeeG n w' r T G
abbrev MsgC (s : ScS) (W0 : World) (n : Nat) (sn : ByteArray) (ma ea ta : Option Addr) (mn mc en ec tn tc : Nat) : Prop :=
 ∀ (b : Nat) (F : Nat → Prop) (nm : ByteArray) (t : Tr) (K N : Int) (S : ByteArray) (a1 a2 : Option Addr) (n1 c1 n2 c2 : Nat) (w : World),KnP s W0 w b F → TrW n W0 (.agg #[.int .i64 K,.int .i64 N,.string S,.slice a1 n1 c1,.slice a2 n2 c2]) t → t.kind = 3 → okN n t = true → SmN n t →
  Calls Tryz.prog 23 #[.agg #[.string sn,.slice ma mn mc,.slice ea en ec,.slice ta tn tc,.map (some b)],.string nm,.agg #[.int .i64 K,.int .i64 N,.string S,.slice a1 n1 c1,.slice a2 n2 c2]] w (SeenP s W0 b F n (prM n s nm t) w)
end
section
section
variable {P : Program} {md : Region.Mode} {ops : Array Oper} {Q : Exit → Act → World → Prop} {T : World → Prop} {m : Nat}
theorem M_runA {oi : Oper} {fuel : Nat} {listed listed' : Array Bool} {a : Act} {w : World} (i d : Nat) (v : Value) (w' : World) (hi : ops[i]? = some oi) (hd : oi.dst = some d)
  (hr : Region.ready md ops listed = [i]) (hwt : Region.wanted oi (yielded ops a.tmps) = true) (hl : listed.setIfInBounds i true = listed') (hx : (execOp a.eval oi).run P w = .ok (.value v) w') (hm : listed'.getD m true = true)
  (h : wpAnyM P md ops Q T m fuel listed' { a with tmps := a.tmps.setIfInBounds d v } w') : wpAnyM P md ops Q T m (fuel + 1) listed a w := by
 subst hl;refine ⟨fun h0 => (by rw [hr] at h0; cases h0),fun j hj => ?_⟩;rw [hr,List.mem_singleton] at hj;subst hj;unfold wpOp;simp only [hi];rw [if_pos hwt];refine .inl ?_;unfold Oper.wp;rw [hx,Oper.upon_value,hd];exact ⟨fun h0 => (by rw [hm] at h0; cases h0),h⟩
theorem M_rA {oi : Oper} {fuel : Nat} {listed : Array Bool} {a : Act} {w : World} (i d : Nat) (v : Value) (w' : World) (listed' : Array Bool) (hi : ops[i]? = some oi) (hx : (execOp a.eval oi).run P w = .ok (.value v) w')
  (h : wpAnyM P md ops Q T m fuel listed' { a with tmps := a.tmps.setIfInBounds d v } w') (hd : oi.dst = some d := by rfl) (hr : Region.ready md ops listed = [i] := by kernel_rfl) (hwt : Region.wanted oi (yielded ops a.tmps) = true := by rfl) (hl : listed.setIfInBounds i true = listed' := by kernel_rfl) (hm : listed'.getD m true = true := by kernel_rfl) : wpAnyM P md ops Q T m (fuel + 1) listed a w :=
 M_runA i d v w' hi hd hr hwt hl hx hm h
theorem M_storeT {oi : Oper} {fuel : Nat} {listed listed' : Array Bool} {a : Act} {w : World} (i : Nat) (w' : World) (hi : ops[i]? = some oi) (hd : oi.dst = none)
  (hr : Region.ready md ops listed = [i]) (hwt : Region.wanted oi (yielded ops a.tmps) = true) (hl : listed.setIfInBounds i true = listed') (hx : (execOp a.eval oi).run P w = .ok .skip w') (hT : T w')
  (h : wpAnyM P md ops Q T m fuel listed' a w') : wpAnyM P md ops Q T m (fuel + 1) listed a w := by
 subst hl;refine ⟨fun h0 => (by rw [hr] at h0; cases h0),fun j hj => ?_⟩;rw [hr,List.mem_singleton] at hj;subst hj;unfold wpOp;simp only [hi];rw [if_pos hwt];refine .inl ?_;unfold Oper.wp;rw [hx,Oper.upon_skip,hd];exact ⟨fun _ => hT,h⟩
theorem M_sT {oi : Oper} {fuel : Nat} {listed : Array Bool} {a : Act} {w : World} (i : Nat) (w' : World) (listed' : Array Bool) (hi : ops[i]? = some oi) (hx : (execOp a.eval oi).run P w = .ok .skip w') (hT : T w') (h : wpAnyM P md ops Q T m fuel listed' a w') (hd : oi.dst = none := by rfl) (hr : Region.ready md ops listed = [i] := by kernel_rfl) (hwt : Region.wanted oi (yielded ops a.tmps) = true := by rfl) (hl : listed.setIfInBounds i true = listed' := by kernel_rfl) : wpAnyM P md ops Q T m (fuel + 1) listed a w :=
 M_storeT i w' hi hd hr hwt hl hx hT h
end
section
variable {P : Program} {md : Region.Mode} {ops : Array Oper} {Q : Exit → Act → World → Prop} {T : World → Prop} {m : Nat}
theorem M_fork {o1 o2 : Oper} {fuel : Nat} {listed : Array Bool} {a : Act} {w : World} (i j d1 d2 f : Nat) (vals : Array Value) (v2 : Value) (w2 : World) (h1 : ops[i]? = some o1) (h2 : ops[j]? = some o2) (hd1 : o1.dst = some d1) (hd2 : o2.dst = some d2)
  (hr : Region.ready md ops listed = [i,j]) (hw1 : Region.wanted o1 (yielded ops a.tmps) = true) (hw2 : Region.wanted o2 (yielded ops a.tmps) = true)
  (hx1 : (execOp a.eval o1).run P w = .ok (.enter f vals) w) (hx2 : (execOp a.eval o2).run P w = .ok (.value v2) w2)
  (hA : Calls P f vals w fun e w' => ∃ v,e = .returned v ∧ T w' ∧ wpAnyM P md ops Q T m fuel (listed.setIfInBounds i true) { a with tmps := a.tmps.setIfInBounds d1 v } w')
  (hT : T w2) (hB : wpAnyM P md ops Q T m fuel (listed.setIfInBounds j true) { a with tmps := a.tmps.setIfInBounds d2 v2 } w2) : wpAnyM P md ops Q T m (fuel + 1) listed a w := by
 refine ⟨fun h0 => (by rw [hr] at h0; cases h0),fun k hk => ?_⟩;rw [hr] at hk;simp only [List.mem_cons,List.not_mem_nil,or_false] at hk
 rcases hk with rfl | rfl
 ·unfold wpOp;simp only [h1];rw [if_pos hw1];refine .inl ?_;unfold Oper.wp;rw [hx1];refine Calls.mono hA ?_;rintro e w' ⟨v,rfl,hT',h'⟩;rw [hd1];exact ⟨fun _ => hT',h'⟩
 ·unfold wpOp;simp only [h2];rw [if_pos hw2];refine .inl ?_;unfold Oper.wp;rw [hx2,Oper.upon_value,hd2];exact ⟨fun _ => hT,hB⟩
end
end
section
open Go.RowKit
structure Kept (B : Nat) (w0 : World) where
 w : World
 below : Below B w0 w
theorem wp_region_qb {P : Program} {id : Nat} {Q : Exit → Act → World → Prop} {a : Act} {w : World} {l : List Oper} {B : Nat} {w0 : World} (h0 : Below B w0 w) (hm : P.follows .mixedOrders = true) (hB : Region.lexB .any l.toArray = true)
  (h : wpQuiet P l.toArray (fun w' => ∃ x : Kept B w0,w' = x.w) (fun a' => ∀ w',(∃ x : Kept B w0,w' = x.w) → Q .normal a' w') l a) : (Code.region id l.toArray true).wp P Q a w :=
 wp_region_quiet (C := fun w' => ∃ x : Kept B w0,w' = x.w) hm hB ⟨⟨_,h0.drew⟩,rfl⟩ (by simpa using h)
theorem nonempty_qb {B : Nat} {w0 w : World} (h0 : Below B w0 w) : Nonempty (Kept B w0) := ⟨⟨w,h0⟩⟩
theorem qb_call {P : Program} {f : FuncId} {args : Array Value} {B : Nat} {w0 : World} {x : Kept B w0} {v : Value}
  (h : ∀ W,Below B w0 W → Calls P f args W fun e W' => e = .returned v ∧ Below B w0 W') : Calls P f args x.w fun e w'' => e = .returned v ∧ ∃ y : Kept B w0,w'' = y.w :=
 (h _ x.below).mono fun _ W' h => ⟨h.1,⟨⟨W',h.2⟩,rfl⟩⟩
end
section
open Go.ChangeShapes Go.WideShapes Go.ChangeAt Go.RowKit
theorem pt4 (w : World) (c1 c2 c3 c4 : Array Value) (t1 t2 t3 t4 : TypeId) : Blk ((((w.alloc (.cells c1 t1)).alloc (.cells c2 t2)).alloc (.cells c3 t3)).alloc (.cells c4 t4)) w.heap.size c1 t1 ∧ Blk ((((w.alloc (.cells c1 t1)).alloc (.cells c2 t2)).alloc (.cells c3 t3)).alloc (.cells c4 t4)) (w.heap.size + 1) c2 t2 ∧ Blk ((((w.alloc (.cells c1 t1)).alloc (.cells c2 t2)).alloc (.cells c3 t3)).alloc (.cells c4 t4)) (w.heap.size + 2) c3 t3 ∧ Blk ((((w.alloc (.cells c1 t1)).alloc (.cells c2 t2)).alloc (.cells c3 t3)).alloc (.cells c4 t4)) (w.heap.size + 3) c4 t4 ∧ Below w.heap.size w ((((w.alloc (.cells c1 t1)).alloc (.cells c2 t2)).alloc (.cells c3 t3)).alloc (.cells c4 t4)) := pblk4 w c1 c2 c3 c4 t1 t2 t3 t4
theorem leaf_of {n : Nat} {x : Tr} (hok : okN n x = true) (hsm : SmN n x) (hk : x.kind = 1 ∨ x.kind = 2) : ∃ m,n = m + 1 ∧ x.es = [] ∧ x.rest = [] := by
 cases n with
 | zero => exact hsm.elim
 | succ m =>
  have hlv : lvB x = true := by simp only [okN,Bool.and_eq_true] at hok; exact hok.1
  unfold lvB at hlv
  rcases hk with e | e
  ·rw [if_pos e] at hlv; simp at hlv; exact ⟨m,rfl,hlv.1.2,hlv.2⟩
  ·rw [if_neg (by rw [e]; decide),if_pos e] at hlv; simp at hlv; exact ⟨m,rfl,hlv.1.2,hlv.2⟩
theorem ptree_any {s : ScS} {W0 : World} {n : Nat} {sn : ByteArray} {ma ea ta : Option Addr} {mn mc en ec tn tc : Nat} (IH : MsgC s W0 n sn ma ea ta mn mc en ec tn tc)
  (b : Nat) (F : Nat → Prop) (f : FlS) (x : Tr) (K N : Int) (S : ByteArray) (a1 a2 : Option Addr) (n1 c1 n2 c2 : Nat) (w : World) (hk : 1 ≤ f.kind ∧ f.kind ≤ 7) (hp : pfitB f x = true) (hKn : KnP s W0 w b F) (hx : TrW n W0 (.agg #[.int .i64 K,.int .i64 N,.string S,.slice a1 n1 c1,.slice a2 n2 c2]) x) (hok : okN n x = true) (hsm : SmN n x) :
  Calls Tryz.prog 113 #[.agg #[.string sn,.slice ma mn mc,.slice ea en ec,.slice ta tn tc,.map (some b)],.agg #[.int .i64 f.kind,.string f.tname],.agg #[.int .i64 K,.int .i64 N,.string S,.slice a1 n1 c1,.slice a2 n2 c2]] w (SeenP s W0 b F n (oneP (prM n s) f x) w) := by
 have hkx : x.kind = kindT f.kind := by simp only [pfitB,Bool.and_eq_true,decide_eq_true_eq] at hp; exact hp.1
 obtain ⟨p1,p2,p3, -, -⟩ := hx.parts;obtain ⟨-, -, -, -, -, -, -,h64K,h64N,hsz, -⟩ := hx.open;have HIH : Hid (x.kind = 3 → ∀ w2,KnP s W0 w2 b F → Calls Tryz.prog 23 #[.agg #[.string sn,.slice ma mn mc,.slice ea en ec,.slice ta tn tc,.map (some b)],.string f.tname,.agg #[.int .i64 K,.int .i64 N,.string S,.slice a1 n1 c1,.slice a2 n2 c2]] w2 (SeenP s W0 b F n (prM n s f.tname x) w2)) := fun h3 w2 h2 => IH b F f.tname x K N S a1 a2 n1 c1 n2 c2 w2 h2 hx h3 hok hsm
 have HLF : Hid (x.kind = 1 ∨ x.kind = 2 → ∃ m,n = m + 1 ∧ x = ⟨K,N,S,[],[]⟩ ∧ Is64 K ∧ Is64 N ∧ S.size ≤ 140737488351232) := fun h => by
  obtain ⟨m,h1,h2,h3⟩ := leaf_of hok hsm h;refine ⟨m,h1,?_,p1 ▸ h64K,p2 ▸ h64N,p3 ▸ hsz⟩
  cases x; simp_all
 have HKN : Hid (KnP s W0 w b F) := hKn;have HXK : Hid (x.kind = kindT f.kind) := hkx;obtain ⟨T,hT⟩ : ∃ T,oneP (prM n s) f x = T := ⟨_,rfl⟩;have HT : Hid ((if f.kind = 1 then ⟨1,clampI x.n,⟨#[]⟩,[],[]⟩ else if f.kind = 7 then prM n s f.tname x else x) = T) := hT;rw [hT];clear hT hp hkx h64K h64N hsz hx hok hsm IH hKn p1 p2 p3;generalize f.kind = k at *;generalize f.tname = tm at *
 have hc : k = 1 ∨ k = 7 ∨ (k = 2 ∨ k = 3 ∨ k = 4 ∨ k = 5 ∨ k = 6) := by omega
 obtain ⟨BS,BY,BT,BR,hbw⟩ := pt4 w #[.string sn,.slice ma mn mc,.slice ea en ec,.slice ta tn tc,.map (some b)] #[.int .i64 k,.string tm] #[.int .i64 K,.int .i64 N,.string S,.slice a1 n1 c1,.slice a2 n2 c2] #[.int .i64 0,.int .i64 0,.string ⟨#[]⟩,.slice none 0 0,.slice none 0 0] 74 54 30 30
 rcases hc with rfl | rfl | hc
 ·skip
  obtain ⟨m,rfl,rfl,k1,k2,k3⟩ := HLF.out (.inl (by rw [HXK.out]; rfl));have hK1 : K = 1 := HXK.out;subst hK1;have HTT : Hid ((⟨1,clampI N,⟨#[]⟩,[],[]⟩ : Tr) = T) := HT.out;have HC : Hid (∀ W,Calls Tryz.prog 13 #[.int .i64 N] W fun e w' => e = .returned (.int .i64 (clampI N)) ∧ Below W.heap.size W w') := fun W => clamp_any N W
  have HCI : Hid (-2147483648 ≤ clampI N ∧ clampI N ≤ 2147483647) := clampI_in N;clear HIH HLF HXK HT k1 k2 k3;generalize clampI N = C at *
  go_enter Tryz.func113,Tryz.ntmps113
  go_upto_region 3 with fail
  generalize ((((w.alloc (Obj.cells #[.string sn,.slice ma mn mc,.slice ea en ec,.slice ta tn tc,.map (some b)] 74)).alloc (Obj.cells #[.int .i64 1,.string tm] 54)).alloc (Obj.cells #[.int .i64 1,.int .i64 N,.string S,.slice a1 n1 c1,.slice a2 n2 c2] 30)).alloc (Obj.cells #[.int .i64 0,.int .i64 0,.string ⟨#[]⟩,.slice none 0 0,.slice none 0 0] 30)) = U0 at *;obtain ⟨b0,hb0⟩ : ∃ z,w.heap.size = z := ⟨_,rfl⟩;have HBZ : Hid (w.heap.size = b0) := hb0;rw [hb0] at BS BY BT BR
  try simp only [hb0]
  clear hb0;have hTb : ∀ W,Below U0.heap.size U0 W → W.cell? ⟨b0 + 2,0,none⟩ = some (.int .i64 1) ∧ W.cell? ⟨b0 + 2,1,none⟩ = some (.int .i64 N) := fun W hW => ⟨(BT.below hW).cell 0,(BT.below hW).cell 1⟩
  refine M_region (T := fun W => W.cell? ⟨b0 + 2,0,none⟩ = some (.int .i64 1) ∧ W.cell? ⟨b0 + 2,1,none⟩ = some (.int .i64 N)) (m := 6) (by kernel_rfl) ?_;have hd : Below U0.heap.size U0 U0.drew := (Below.refl _ _).drew;have hS := hTb _ hd;refine M_tk 0 11 (.pointer (some ⟨b0 + 2,0,none⟩)) (fun w' hw' => ?_) hS (bts 7 1) ?_
  ·go_simp
  refine M_tk 1 12 (.int .i64 1) (fun w' hw' => ?_) hS (bts 7 3) ?_
  ·obtain ⟨f3,f4⟩ := hw'; go_simp
  refine M_tk 2 13 (.pointer (some ⟨b0 + 2,1,none⟩)) (fun w' hw' => ?_) hS (bts 7 7) ?_
  ·go_simp
  refine M_tk 3 14 (.int .i64 N) (fun w' hw' => ?_) hS (bts 7 15) ?_
  ·obtain ⟨f3,f4⟩ := hw'; go_simp
  refine M_cl 4 15 13 #[.int .i64 N] (bts 7 31) rfl (fun W => by go_simp) ?_;refine (HC.out _).mono ?_;rintro e W1 ⟨rfl,hb1⟩;have hd1 : Below U0.heap.size U0 W1 := hd.trans (hb1.mono hd.size);have hS := hTb _ hd1;refine ⟨_,rfl,hS,?_⟩;simp only [zsA,zsZ,zsS];refine M_tk 5 16 (.agg #[.int .i64 1,.int .i64 C,.string ⟨#[]⟩,.slice none 0 0,.slice none 0 0]) (fun w' hw' => ?_) hS (bts 7 63) ?_
  ·go_simp
  have BR1 := BR.below hd1;obtain ⟨r0,r1,r2,r3,r4⟩ := cl5 BR1;obtain ⟨z0,z1,z2,z3,z4⟩ := fz5 BR1;have hfin : Blk (set5 W1 (b0 + 3) 0 (.int .i64 1) (.int .i64 C) (.string ⟨#[]⟩) (.slice none 0 0) (.slice none 0 0)) (b0 + 3) #[.int .i64 1,.int .i64 C,.string ⟨#[]⟩,.slice none 0 0,.slice none 0 0] 30 := blk_set5 BR1;have hbe : Below w.heap.size w (set5 W1 (b0 + 3) 0 (.int .i64 1) (.int .i64 C) (.string ⟨#[]⟩) (.slice none 0 0) (.slice none 0 0)) := (hbw.trans (hd1.mono hbw.size)).trans ((set5_kp W1 (b0 + 3) 0 (.int .i64 1) (.int .i64 C) (.string ⟨#[]⟩) (.slice none 0 0) (.slice none 0 0)).toBelow (Nat.le_trans hbw.size hd1.size) fun q e => by rw [e,HBZ.out]; omega);refine M_st 6 (set5 W1 (b0 + 3) 0 (.int .i64 1) (.int .i64 C) (.string ⟨#[]⟩) (.slice none 0 0) (.slice none 0 0)) (bts 7 127) rfl (by unfold set5; go_simp) ?_;refine M_done (by kernel_rfl) ?_ _;clear r0 z0 r1 z1 r2 z2 r3 z3 r4 z4 hS;generalize (set5 W1 (b0 + 3) 0 (.int .i64 1) (.int .i64 C) (.string ⟨#[]⟩) (.slice none 0 0) (.slice none 0 0)) = W3 at *;obtain ⟨r0,r1,r2,r3,r4⟩ := cl5 hfin
  have HRF : Hid (SeenP s W0 b F (m + 1) T w (.returned (.agg #[.int .i64 1,.int .i64 C,.string ⟨#[]⟩,.slice none 0 0,.slice none 0 0])) W3) := (by
   rw [← HTT.out];refine ⟨[.int .i64 1,.int .i64 C,.string ⟨#[]⟩,.slice none 0 0,.slice none 0 0],F,rfl,Grw.below HKN.out hbe,leaf_see (by constructor <;> decide) ?_ (by show (0 : Nat) ≤ _; omega)⟩;have := HCI.out
   constructor <;> omega : SeenP s W0 b F (m + 1) T w _ W3)
  clear HTT HCI HKN hbe;go_wp2_with fail;exact bodyPost_ret (results_cell rfl _ _ _ ⟨b0 + 3,0,none⟩ (.agg #[.int .i64 1,.int .i64 C,.string ⟨#[]⟩,.slice none 0 0,.slice none 0 0]) (by go_simp) (by go_simp)) rfl HRF.out
 ·skip
  have HTT : Hid (prM n s tm x = T) := HT.out;have HI : Hid (∀ w2,KnP s W0 w2 b F → Calls Tryz.prog 23 #[.agg #[.string sn,.slice ma mn mc,.slice ea en ec,.slice ta tn tc,.map (some b)],.string tm,.agg #[.int .i64 K,.int .i64 N,.string S,.slice a1 n1 c1,.slice a2 n2 c2]] w2 (SeenP s W0 b F n T w2)) := (by rw [← HTT.out]; exact HIH.out (by rw [HXK.out]; rfl));clear HIH HLF HXK HT
  go_enter Tryz.func113,Tryz.ntmps113
  go_upto_region 5 with fail
  generalize ((((w.alloc (Obj.cells #[.string sn,.slice ma mn mc,.slice ea en ec,.slice ta tn tc,.map (some b)] 74)).alloc (Obj.cells #[.int .i64 7,.string tm] 54)).alloc (Obj.cells #[.int .i64 K,.int .i64 N,.string S,.slice a1 n1 c1,.slice a2 n2 c2] 30)).alloc (Obj.cells #[.int .i64 0,.int .i64 0,.string ⟨#[]⟩,.slice none 0 0,.slice none 0 0] 30)) = U0 at *;obtain ⟨b0,hb0⟩ : ∃ z,w.heap.size = z := ⟨_,rfl⟩;have HBZ : Hid (w.heap.size = b0) := hb0;rw [hb0] at BS BY BT BR
  try simp only [hb0]
  clear hb0;obtain ⟨s0,s1,s2,s3,s4⟩ := cl5 BS;obtain ⟨t0,t1,t2,t3,t4⟩ := cl5 BT;have y1 := (BY.cell 1).trans rfl;go_wp2_with fail;refine (HI.out _ (HKN.out.mk_below hbw)).mono ?_;rintro e W1 ⟨r,G,rfl,hg,hse⟩;obtain ⟨q1,q2,q3,q4,q5,q6,rfl⟩ := trC_open hse.now.trQ.trC;have hnb : b0 + 3 ≠ b := (HKN.out.mk_below hbw).neB BR
  have hnF : ¬ F (b0 + 3) := fun e => by have := (HKN.out.new _ e).2; rw [HBZ.out] at this; omega
  have hnG : ¬ G (b0 + 3) := hg.fresh BR hnF;have BR1 := BR.kp hg.kp hnb;have hg1 := hg.before hbw;clear HI s0 s1 s2 s3 s4 t0 t1 t2 t3 t4 y1 BS BY BT;obtain ⟨r0,r1,r2,r3,r4⟩ := cl5 BR1;obtain ⟨z0,z1,z2,z3,z4⟩ := fz5 BR1;have hk5 := set5_kp W1 (b0 + 3) 0 (.int .i64 T.kind) (.int .i64 T.n) (.string T.s) (.slice q1 q2 q3) (.slice q4 q5 q6)
  have hs5 : ∀ q,q = b0 + 3 → w.heap.size ≤ q ∧ ¬ G q ∧ q ≠ b := fun q e => by subst e; exact ⟨by rw [HBZ.out]; omega,hnG,hnb⟩
  have hfin : Blk (set5 W1 (b0 + 3) 0 (.int .i64 T.kind) (.int .i64 T.n) (.string T.s) (.slice q1 q2 q3) (.slice q4 q5 q6)) (b0 + 3) #[.int .i64 T.kind,.int .i64 T.n,.string T.s,.slice q1 q2 q3,.slice q4 q5 q6] 30 := blk_set5 BR1;have HRF : Hid (SeenP s W0 b F n T w (.returned (.agg #[.int .i64 T.kind,.int .i64 T.n,.string T.s,.slice q1 q2 q3,.slice q4 q5 q6])) (set5 W1 (b0 + 3) 0 (.int .i64 T.kind) (.int .i64 T.n) (.string T.s) (.slice q1 q2 q3) (.slice q4 q5 q6))) := ⟨_,G,rfl,hg1.after HKN.out.below.size hk5 hs5,hse.stay (hg1.stay hk5 hs5)⟩;clear hse hg hg1 hk5 hs5 hnb hnF hnG HTT HKN hbw;unfold set5 at hfin HRF;generalize T.kind = TK at *;generalize T.n = TN at *;generalize T.s = TS at *;go_wp2_with fail;clear r0 z0 r1 z1 r2 z2 r3 z3 r4 z4;obtain ⟨r0,r1,r2,r3,r4⟩ := cl5 hfin;exact bodyPost_ret (results_cell rfl _ _ _ ⟨b0 + 3,0,none⟩ (.agg #[.int .i64 TK,.int .i64 TN,.string TS,.slice q1 q2 q3,.slice q4 q5 q6]) (by go_simp) (by go_simp)) rfl HRF.out
 ·skip
  obtain ⟨m,rfl,rfl,k1,k2,k3⟩ := HLF.out (by rw [HXK.out]; rcases hc with rfl | rfl | rfl | rfl | rfl <;> simp [kindT])
  have HTT : Hid ((⟨K,N,S,[],[]⟩ : Tr) = T) := by have := HT.out; rw [if_neg (by omega),if_neg (by omega)] at this; exact this
  have d1 : (k == 1) = false := by simp; omega
  have d7 : (k == 7) = false := by simp; omega
  have HLK : Hid (Is64 K ∧ Is64 N ∧ S.size ≤ 140737488351232) := ⟨k1,k2,k3⟩;clear HIH HLF HXK HT k1 k2 k3 hc hk
  go_enter Tryz.func113,Tryz.ntmps113
  go_upto_region 6 with fail
  generalize ((((w.alloc (Obj.cells #[.string sn,.slice ma mn mc,.slice ea en ec,.slice ta tn tc,.map (some b)] 74)).alloc (Obj.cells #[.int .i64 k,.string tm] 54)).alloc (Obj.cells #[.int .i64 K,.int .i64 N,.string S,.slice a1 n1 c1,.slice a2 n2 c2] 30)).alloc (Obj.cells #[.int .i64 0,.int .i64 0,.string ⟨#[]⟩,.slice none 0 0,.slice none 0 0] 30)) = U0 at *;obtain ⟨b0,hb0⟩ : ∃ z,w.heap.size = z := ⟨_,rfl⟩;have HBZ : Hid (w.heap.size = b0) := hb0;rw [hb0] at BS BY BT BR
  try simp only [hb0]
  clear hb0;obtain ⟨t0,t1,t2⟩ := cl3 BT;obtain ⟨r0,r1,r2,r3,r4⟩ := cl5 BR;obtain ⟨z0,z1,z2,z3,z4⟩ := fz5 BR;have hk5 := set5_kp U0 (b0 + 3) 0 (.int .i64 K) (.int .i64 N) (.string S) (.slice none 0 0) (.slice none 0 0);have hfin : Blk (set5 U0 (b0 + 3) 0 (.int .i64 K) (.int .i64 N) (.string S) (.slice none 0 0) (.slice none 0 0)) (b0 + 3) #[.int .i64 K,.int .i64 N,.string S,.slice none 0 0,.slice none 0 0] 30 := blk_set5 BR;have hbe : Below w.heap.size w (set5 U0 (b0 + 3) 0 (.int .i64 K) (.int .i64 N) (.string S) (.slice none 0 0) (.slice none 0 0)) := hbw.trans (hk5.toBelow hbw.size fun q e => by rw [e,HBZ.out]; omega)
  have HRF : Hid (SeenP s W0 b F (m + 1) T w (.returned (.agg #[.int .i64 K,.int .i64 N,.string S,.slice none 0 0,.slice none 0 0])) (set5 U0 (b0 + 3) 0 (.int .i64 K) (.int .i64 N) (.string S) (.slice none 0 0) (.slice none 0 0))) := (by
   rw [← HTT.out]
   exact ⟨_,F,rfl,Grw.below HKN.out hbe,leaf_see HLK.out.1 HLK.out.2.1 HLK.out.2.2⟩ : SeenP s W0 b F (m + 1) T w _ _)
  clear hk5 hbe HTT HLK HKN hbw BS BY;unfold set5 at hfin HRF;go_wp2_with fail;clear r0 z0 r1 z1 r2 z2 r3 z3 r4 z4 t0 t1 t2;obtain ⟨r0,r1,r2,r3,r4⟩ := cl5 hfin;exact bodyPost_ret (results_cell rfl _ _ _ ⟨b0 + 3,0,none⟩ (.agg #[.int .i64 K,.int .i64 N,.string S,.slice none 0 0,.slice none 0 0]) (by go_simp) (by go_simp)) rfl HRF.out
def SeesP (s : ScS) (W0 : World) (b : Nat) (F : Nat → Prop) (n : Nat) (T : List Tr) (w : World) (e : Ending) (w' : World) : Prop := ∃ a c G,e = .returned (.slice a T.length c) ∧ Grw s W0 b F w w' G ∧ SeeL n w' (.slice a T.length c) T G
def RowsG (n : Nat) (w : World) (G : Nat → Prop) (φ : Tr → Tr) (ts : List Tr) (rows : List (List Value)) (i : Nat) : Prop := ∀ (j : Nat) (x : Tr),j < i → ts[j]? = some x → ∃ r,rows[j]? = some r ∧ SeeG n w r (φ x) G
theorem RowsG.step {n i : Nat} {w w' : World} {G H : Nat → Prop} {φ : Tr → Tr} {ts : List Tr} {rows : List (List Value)} {x : Tr} {r : List Value} (h : RowsG n w G φ ts rows i) (hs : ∀ r x,SeeG n w r x G → SeeG n w' r x H) (hx : ts[i]? = some x) (hi : i < rows.length) (hr : SeeG n w' r (φ x) H) : RowsG n w' H φ ts (rows.set i r) (i + 1) := fun j y hj hy => by
 by_cases hji : j = i
 ·subst hji;rw [hx] at hy
  obtain rfl : x = y := by simpa using hy
  exact ⟨r,by rw [List.getElem?_set,if_pos rfl,if_pos hi],hr⟩
 ·obtain ⟨q,g1,g2⟩ := h j y (by omega) hy;exact ⟨q,by rw [List.getElem?_set,if_neg (Ne.symm hji)]; exact g1,hs _ _ g2⟩
theorem RowsG.done {s : ScS} {W0 w wr : World} {b : Nat} {F G : Nat → Prop} {n N g B : Nat} {φ : Tr → Tr} {ts : List Tr} {rows : List (List Value)} (h : RowsG n wr G φ ts rows N) (hN : ts.length = N) (ho : wr.ownsRow B 30 5 (.slice (some ⟨g,0,none⟩) N N) N rows.flatten ∧ rows.length = N ∧ ∀ r ∈ rows,r.length = 5) (hg : Grw s W0 b F w wr G) (hw : W0.heap.size ≤ w.heap.size) (hgw : w.heap.size ≤ g) : SeesP s W0 b F n (ts.map φ) w (.returned (.slice (some ⟨g,0,none⟩) N N)) wr := by
 obtain ⟨h1,h2,h3⟩ := ho;have hgl : g < wr.heap.size := (own_lt h1 (k := g) rfl).2
 have hgb : g ≠ b := by
  rcases h1.2 with ⟨e,_⟩ | ⟨g',cap,cur,e,g1,g2,_⟩
  ·cases e
  ·simp only [Value.slice.injEq,Option.some.injEq,Addr.mk.injEq,and_true,true_and] at e;obtain ⟨rfl, -⟩ := e;exact hg.kn.neB g2
 refine ⟨some ⟨g,0,none⟩,N,fun k => G k ∨ k = g,by rw [List.length_map,hN],hg.more (fun k e => .inl e) (fun k e => e.imp id fun e => by subst e; exact ⟨hgw,hgl⟩) hw (fun e => by
  rcases e with e | e
  ·exact hg.kn.nb e
  ·exact hgb e.symm),fun w' hw' => ?_⟩
 have h1' : w'.ownsRow B 30 5 (.slice (some ⟨g,0,none⟩) N N) N rows.flatten := by
  refine ⟨h1.1,h1.2.imp id ?_⟩;rintro ⟨g',cap,cur,e,g1,g2,g3⟩
  have hgg : g' = g := by
   simp only [Value.slice.injEq,Option.some.injEq,Addr.mk.injEq,and_true,true_and] at e;exact e.1.symm
  exact ⟨g',cap,cur,e,g1,(hw' g' (.inr hgg)).trans g2,g3⟩
 rw [List.length_map,hN];refine ⟨rows,(RowG.own h3 (by decide) h1').1,by rw [h2,List.length_map,hN],fun i y hy => ?_⟩;rw [List.getElem?_map,Option.map_eq_some_iff] at hy;obtain ⟨x,hx,rfl⟩ := hy;obtain ⟨r,g1,g2⟩ := h i x (by rw [← hN]; exact (List.getElem?_eq_some_iff.1 hx).1) hx;exact ⟨r,g1,g2 w' (hw'.less fun k e => .inl e)⟩
theorem TrsR.tail {n : Nat} {w : World} {g off N cap : Nat} {ts : List Tr} (h : TrsR n w (.slice (some ⟨g,off,none⟩) (N + 1) cap) ts) : TrsR n w (.slice (some ⟨g,off + N * 5,none⟩) 1 (cap - N)) (ts.drop N) := by
 obtain ⟨rows,h1,h2,h3⟩ := h;obtain ⟨a,c,e,k1,k2,k3,k4⟩ := h1.form;simp only [Value.slice.injEq] at e;obtain ⟨rfl,e2,rfl⟩ := e
 have hl : (rows.drop N).length = 1 := by rw [List.length_drop]; omega
 refine ⟨rows.drop N,⟨some ⟨g,off + N * 5,none⟩,cap - N,by rw [hl],by rw [hl]; omega,by omega,(fun e => by cases e),fun hne => ⟨g,off + N * 5,rfl,fun i c u j hc hu => ?_⟩⟩,by rw [List.length_drop,List.length_drop]; omega,fun i x hx => ?_⟩
 ·obtain ⟨g',off',e3,e4⟩ := k4 (fun e => by rw [e] at e2; simp at e2);simp only [Option.some.injEq,Addr.mk.injEq,and_true] at e3;obtain ⟨rfl,rfl⟩ := e3;rw [List.getElem?_drop] at hc;have := e4 (N + i) c u j hc hu;rw [Nat.add_mul,← Nat.add_assoc] at this;exact this
 ·rw [List.getElem?_drop] at hx;obtain ⟨r,g1,g2⟩ := h3 (N + i) x hx;exact ⟨r,by rw [List.getElem?_drop]; exact g1,g2⟩
theorem ptrees_any {s : ScS} {W0 : World} {n : Nat} {sn : ByteArray} {ma ea ta : Option Addr} {mn mc en ec tn tc : Nat} (IH : MsgC s W0 n sn ma ea ta mn mc en ec tn tc)
  (b : Nat) (F : Nat → Prop) (f : FlS) (ts : List Tr) (vl : Value) (w : World) (hk : 1 ≤ f.kind ∧ f.kind ≤ 7) (hp : ts.all (pfitB f) = true) (hKn : KnP s W0 w b F) (hts : TrsR n W0 vl ts) (hl1 : 1 ≤ ts.length) (hl2 : ts.length ≤ 70) (hok : ∀ x ∈ ts,okN n x = true) (hsm : ∀ x ∈ ts,SmN n x) :
  Calls Tryz.prog 84 #[.agg #[.string sn,.slice ma mn mc,.slice ea en ec,.slice ta tn tc,.map (some b)],.agg #[.string f.name,.int .i64 f.tag,.int .i64 f.label,.int .i64 f.kind,.string f.tname],vl] w (SeesP s W0 b F n ((lastP f ts).map (oneP (prM n s) f)) w) := by
 have HTC : Hid (∀ W2 F2 x K N S a1 a2 n1 c1 n2 c2,x ∈ ts → KnP s W0 W2 b F2 → TrW n W0 (.agg #[.int .i64 K,.int .i64 N,.string S,.slice a1 n1 c1,.slice a2 n2 c2]) x → Calls Tryz.prog 113 #[.agg #[.string sn,.slice ma mn mc,.slice ea en ec,.slice ta tn tc,.map (some b)],.agg #[.int .i64 f.kind,.string f.tname],.agg #[.int .i64 K,.int .i64 N,.string S,.slice a1 n1 c1,.slice a2 n2 c2]] W2 (SeenP s W0 b F2 n (oneP (prM n s) f x) W2)) := fun W2 F2 x K N S a1 a2 n1 c1 n2 c2 hx h2 h3 => ptree_any IH b F2 f x K N S a1 a2 n1 c1 n2 c2 W2 hk (List.all_eq_true.1 hp x hx) h2 h3 (hok x hx) (hsm x hx)
 have HKN : Hid (KnP s W0 w b F) := hKn
 have HLP : Hid (∀ ys,ys = lastP f ts → (lastP f ts).map (oneP (prM n s) f) = ys.map (oneP (prM n s) f)) := fun ys e => by rw [e]
 have HLF : Hid ((f.label = 3 → lastP f ts = ts) ∧ (f.label ≠ 3 → lastP f ts = ts.drop (ts.length - 1))) := ⟨fun e => if_pos e,fun e => if_neg e⟩;obtain ⟨la,lc,rfl,t1,t2,t3, -⟩ := RowP.open hts
 obtain ⟨g0,o0,rfl⟩ : ∃ g o,la = some ⟨g,o,none⟩ := by
  rcases t3 with h | h
  ·rw [h] at hl1; simp at hl1
  ·exact h
 obtain ⟨N,hN⟩ : ∃ N,ts.length = N + 1 := ⟨ts.length - 1,by omega⟩;have HN : Hid (ts.length = N + 1) := hN;rw [hN] at hts t1 hl2 ⊢;have HTS : Hid (TrsR n W0 (.slice (some ⟨g0,o0,none⟩) (N + 1) lc) ts) := hts;unfold maxLen at t2;generalize oneP (prM n s) f = φ at *;obtain ⟨y1,y2,y3,y4,y5⟩ := f;simp only at HTC HLF ⊢;generalize lastP (⟨y1,y2,y3,y4,y5⟩ : FlS) ts = YS at *;clear hk hp hKn hts hl1 hok hsm IH t3 hN;have BF : Blk ((w.alloc (Obj.cells #[.string sn,.slice ma mn mc,.slice ea en ec,.slice ta tn tc,.map (some b)] 74)).alloc (Obj.cells #[.string y1,.int .i64 y2,.int .i64 y3,.int .i64 y4,.string y5] 56)) (w.heap.size + 1) #[.string y1,.int .i64 y2,.int .i64 y3,.int .i64 y4,.string y5] 56 := blk_new2T _ _ _ _;have BS : Blk ((w.alloc (Obj.cells #[.string sn,.slice ma mn mc,.slice ea en ec,.slice ta tn tc,.map (some b)] 74)).alloc (Obj.cells #[.string y1,.int .i64 y2,.int .i64 y3,.int .i64 y4,.string y5] 56)) w.heap.size #[.string sn,.slice ma mn mc,.slice ea en ec,.slice ta tn tc,.map (some b)] 74 := (Blk.new w _ _).below (bra _);have hbw : Below w.heap.size w ((w.alloc (Obj.cells #[.string sn,.slice ma mn mc,.slice ea en ec,.slice ta tn tc,.map (some b)] 74)).alloc (Obj.cells #[.string y1,.int .i64 y2,.int .i64 y3,.int .i64 y4,.string y5] 56)) := (bra _).alloc (by simp) _
 by_cases h3 : y3 = 3
 ·skip
  subst h3;generalize hM : N + 1 = M at *
  have hM1 : 1 ≤ M := by omega
  clear hM;have HYS : Hid (TrsR n W0 (.slice (some ⟨g0,o0,none⟩) M lc) YS) := (by rw [HLF.out.1 rfl]; exact HTS.out : TrsR n W0 _ YS);have HYN : Hid (YS.length = M) := hid (by rw [HLF.out.1 rfl]; exact HN.out);have HYM : Hid (∀ x ∈ YS,x ∈ ts) := hid (by rw [HLF.out.1 rfl]; exact fun _ e => e);clear HLF HLP HTS HN;have f2 := (BF.cell 2).trans rfl
  go_enter Tryz.func84,Tryz.ntmps84
  go_upto_region 3 with fail
  clear f2;generalize ((w.alloc (Obj.cells #[.string sn,.slice ma mn mc,.slice ea en ec,.slice ta tn tc,.map (some b)] 74)).alloc (Obj.cells #[.string y1,.int .i64 y2,.int .i64 3,.int .i64 y4,.string y5] 56)) = U0 at *;obtain ⟨i0,hi0,hz0,hz1,hz2⟩ := info_parts infoTr;obtain ⟨MC,hMC⟩ : ∃ z,madeCells (Value.agg #[.int .i64 0,.int .i64 0,.string ⟨#[]⟩,.slice none 0 0,.slice none 0 0]).cells (M * 5) = z := ⟨_,rfl⟩
  have hMs : MC.size = M * 5 := by rw [← hMC,size_madeCells]
  have hmk : ∀ W : World,(Instr.makeSlice 67 (.int .i64 (M : Int)) (.int .i64 (M : Int))).run Tryz.prog W = .ok (.slice (some ⟨W.heap.size,0,none⟩) M M) (W.alloc (.cells MC 30)) := fun W => by
   have := run_makeSlice (P := Tryz.prog) W 67 30 i0 _ Tryz.underlying67 hi0 hz0 .i64 .i64 M M (by omega) (by omega) (by rw [hz1]; simp; omega) (by rw [hz2]; omega) (by omega);rw [hz1] at this;simp only [Int.toNat_natCast] at this;rw [hMC] at this;exact this
  have al : Below U0.heap.size U0 (U0.alloc (.cells MC 30)) := bra _;have hBg : Blk (U0.alloc (.cells MC 30)) U0.heap.size MC 30 := Blk.new U0 _ _;obtain ⟨rows0,hr1,hr2,hr3⟩ := p5_chunk M MC.toList (by rw [Array.length_toList]; exact hMs)
  have HO0 : Hid ((U0.alloc (.cells MC 30)).ownsRow W0.heap.size 30 5 (.slice (some ⟨U0.heap.size,0,none⟩) M M) M rows0.flatten ∧ rows0.length = M ∧ ∀ r ∈ rows0,r.length = 5) := ⟨by
   rw [hr1]
   exact ⟨by rw [Array.length_toList]; exact hMs,.inr ⟨_,M,MC,rfl,Nat.le_trans HKN.out.below.size hbw.size,hBg,Nat.le_refl _,by unfold maxLen; omega,hMs,List.take_of_length_le (by rw [Array.length_toList,hMs]; omega)⟩⟩,hr2,hr3⟩
  have hbA := hbw.trans (al.mono hbw.size);have HG0 : Hid (Grw s W0 b F w (U0.alloc (.cells MC 30)) F) := Grw.below HKN.out hbA;have HGW : Hid (w.heap.size + 2 ≤ U0.heap.size) := BF.lt;have BFA := BF.below al;have BSA := BS.below al
  have hnF0 : ¬ F U0.heap.size := fun e => by have := (HKN.out.new _ e).2; have := HGW.out; omega
  clear hi0 hz0 hz1 hz2 hMC hr1 hr2 hr3 hBg al hbA hbw BF BS;go_wp2_with fail;clear hmk;generalize (U0.alloc (.cells MC 30)) = WA at *;obtain ⟨g,hg⟩ : ∃ z,U0.heap.size = z := ⟨_,rfl⟩;rw [hg] at HO0 HGW hnF0;simp only [hg];clear hg;have HFB : Hid (Blk WA (w.heap.size + 1) #[.string y1,.int .i64 y2,.int .i64 3,.int .i64 y4,.string y5] 56 ∧ Blk WA w.heap.size #[.string sn,.slice ma mn mc,.slice ea en ec,.slice ta tn tc,.map (some b)] 74) := ⟨BFA,BSA⟩;have HNF0 : Hid (¬ F g) := hnF0;clear BFA BSA hnF0;obtain ⟨bw,hbw⟩ : ∃ z,w.heap.size = z := ⟨_,rfl⟩;have HBW : Hid (w.heap.size = bw) := hbw;rw [hbw] at HFB HGW;simp only [hbw];clear hbw
  go_loopw [23] (fun iv wr => ∃ (i : Nat) (G : Nat → Prop) (rows : List (List Value)),iv = .int .i64 (i : Int) ∧ i ≤ M ∧ Hid (wr.ownsRow W0.heap.size 30 5 (.slice (some ⟨g,0,none⟩) M M) M rows.flatten ∧ rows.length = M ∧ ∀ r ∈ rows,r.length = 5) ∧ Hid (RowsG n wr G φ YS rows i) ∧ Hid (Grw s W0 b F w wr G ∧ ¬ G g) ∧ Hid (Blk wr (bw + 1) #[.string y1,.int .i64 y2,.int .i64 3,.int .i64 y4,.string y5] 56 ∧ Blk wr bw #[.string sn,.slice ma mn mc,.slice ea en ec,.slice ta tn tc,.map (some b)] 74)) (fun iv _ => M - (intOf iv).toNat)
  case atStart => exact ⟨0,F,rows0,rfl,by omega,HO0,(fun j x hj => absurd hj (by omega) : RowsG n WA F φ YS rows0 0),⟨HG0.out,HNF0.out⟩,HFB⟩
  case round =>
   clear HO0 HG0 HFB HNF0;obtain ⟨i,G,rows,rfl,hi,HO,HRT,HG,HB⟩ := hrel
   by_cases hlt : i < M
   ·obtain ⟨x,hx⟩ : ∃ r,YS[i]? = some r := ⟨_,List.getElem?_eq_getElem (by rw [HYN.out]; exact hlt)⟩;obtain ⟨gx,off,a1,n1,c1,a2,n2,c2,e0,u0,u1,u2,u3,u4,hxw⟩ := trsR_get HYS.out hx;simp only [Option.some.injEq,Addr.mk.injEq,and_true] at e0;obtain ⟨rfl,rfl⟩ := e0;have hcl := fun {p : Addr} {v : Value} (h : W0.cell? p = some v) => Cel.cell (Cel.ofBelow HG.out.1.kn.below) h
    have y0 := hcl u0;have y1' := hcl u1;have y2' := hcl u2;have y3' := hcl u3;have y4' := hcl u4;have HX : Hid (YS[i]? = some x) := hx;have HXM : Hid (x ∈ ts) := HYM.out x (List.mem_of_getElem? hx);have HXW : Hid (TrW n W0 (.agg #[.int .i64 x.kind,.int .i64 x.n,.string x.s,.slice a1 n1 c1,.slice a2 n2 c2]) x) := hxw;have HTX : Hid (∀ W2,KnP s W0 W2 b G → Calls Tryz.prog 113 #[.agg #[.string sn,.slice ma mn mc,.slice ea en ec,.slice ta tn tc,.map (some b)],.agg #[.int .i64 y4,.string y5],.agg #[.int .i64 x.kind,.int .i64 x.n,.string x.s,.slice a1 n1 c1,.slice a2 n2 c2]] W2 (SeenP s W0 b G n (φ x) W2)) := fun W2 h2 => HTC.out W2 G x x.kind x.n x.s a1 a2 n1 c1 n2 c2 HXM.out h2 HXW.out
    obtain ⟨XK,hXK⟩ : ∃ z,x.kind = z := ⟨_,rfl⟩;obtain ⟨XN,hXN⟩ : ∃ z,x.n = z := ⟨_,rfl⟩;obtain ⟨XS,hXS⟩ : ∃ z,x.s = z := ⟨_,rfl⟩;rw [hXK,hXN,hXS] at HTX;rw [hXK] at y0;rw [hXN] at y1';rw [hXS] at y2';clear hx hxw u0 u1 u2 u3 u4 hcl hXK hXN hXS HXW HXM;have hbl : bw < wr.heap.size := HB.out.2.lt;have hbl1 : bw + 1 < wr.heap.size := HB.out.1.lt;have f3 := (HB.out.1.cell 3).trans rfl;have f4 := (HB.out.1.cell 4).trans rfl;obtain ⟨s0,s1,s2,s3,s4⟩ := cl5 HB.out.2;go_wp2_with fail;have al : Below wr.heap.size wr (wr.alloc (Obj.cells #[.int .i64 XK,.int .i64 XN,.string XS,.slice a1 n1 c1,.slice a2 n2 c2] 30)) := bra _;refine (HTX.out _ (HG.out.1.kn.mk_below al)).mono ?_;rintro e w2 ⟨r,G2,rfl,hg2,hse⟩;obtain ⟨z1,l1,e1,z2,l2,e2,rfl⟩ := trC_open hse.now.trQ.trC;have hg3 : Grw s W0 b G wr w2 G2 := hg2.before al;have hgl : g < wr.heap.size := (own_lt HO.out.1 (k := g) rfl).2
    have hgb : g ≠ b := by
     rcases HO.out.1.2 with ⟨e,_⟩ | ⟨g',cap,cur,e,q1,q2,_⟩
     ·cases e
     ·simp only [Value.slice.injEq,Option.some.injEq,Addr.mk.injEq,and_true,true_and] at e;obtain ⟨rfl, -⟩ := e;exact HG.out.1.kn.neB q2
    have hnG2 : ¬ G2 g := fun e => by
     rcases hg3.new g e with e | e
     ·exact HG.out.2 e
     ·omega
    have hO2 : w2.ownsRow W0.heap.size 30 5 (.slice (some ⟨g,0,none⟩) M M) M rows.flatten := MsP.kp.own_kpT2 HO.out.1 hg3.kp fun k e1 e2 => by
     have hkg : g = k := by simpa [Value.ownBlock] using e2
     exact hgb (hkg.trans e1)
    have BF2 := HB.out.1.kp hg3.kp (HG.out.1.kn.neB HB.out.1);have BS2 := HB.out.2.kp hg3.kp (HG.out.1.kn.neB HB.out.2);obtain ⟨v0,v1,v2,v3,v4,p0,p1,p2,p3,p4,hfz⟩ := p5_cells hO2 HO.out.2.2 (j := i) (by rw [HO.out.2.1]; exact hlt);have q0 := hfz (i * 5);have q1 := hfz (i * 5 + 1);have q2 := hfz (i * 5 + 2);have q3 := hfz (i * 5 + 3);have q4 := hfz (i * 5 + 4);have hstG : Stay G wr w2 := Stay.kp hg3.kp (fun k e => (HG.out.1.kn.new k e).2) fun k e e2 => HG.out.1.kn.nb (e2 ▸ e)
    have hgr := HG.out.1.trans hg3;generalize hTK : (φ x).kind = TK at *;generalize hTN : (φ x).n = TN at *;generalize hTS : (φ x).s = TS at *;have hk5 := set5_kp w2 g (i * 5) (.int .i64 TK) (.int .i64 TN) (.string TS) (.slice z1 l1 e1) (.slice z2 l2 e2)
    have hs5 : ∀ q,q = g → w.heap.size ≤ q ∧ ¬ G2 q ∧ q ≠ b := fun q e => by subst e; exact ⟨by have := HGW.out; rw [HBW.out]; omega,hnG2,hgb⟩
    have HO3 : Hid ((set5 w2 g (i * 5) (.int .i64 TK) (.int .i64 TN) (.string TS) (.slice z1 l1 e1) (.slice z2 l2 e2)).ownsRow W0.heap.size 30 5 (.slice (some ⟨g,0,none⟩) M M) M (rows.set i [.int .i64 TK,.int .i64 TN,.string TS,.slice z1 l1 e1,.slice z2 l2 e2]).flatten ∧ (rows.set i [.int .i64 TK,.int .i64 TN,.string TS,.slice z1 l1 e1,.slice z2 l2 e2]).length = M ∧ ∀ r ∈ rows.set i [.int .i64 TK,.int .i64 TN,.string TS,.slice z1 l1 e1,.slice z2 l2 e2],r.length = 5) := ⟨own_set5 hO2 HO.out.2.2 (by rw [HO.out.2.1]; exact hlt) _ _ _ _ _,by rw [List.length_set]; exact HO.out.2.1,fun r hr => by
     rcases List.mem_or_eq_of_mem_set hr with hr | rfl
     ·exact HO.out.2.2 r hr
     ·rfl⟩
    have HRT3 : Hid (RowsG n (set5 w2 g (i * 5) (.int .i64 TK) (.int .i64 TN) (.string TS) (.slice z1 l1 e1) (.slice z2 l2 e2)) G2 φ YS (rows.set i [.int .i64 TK,.int .i64 TN,.string TS,.slice z1 l1 e1,.slice z2 l2 e2]) (i + 1)) := RowsG.step HRT.out (fun r x h => ((h.stay hstG).more hg3.sub).stay (hgr.stay hk5 hs5)) HX.out (by rw [HO.out.2.1]; exact hlt) (hse.stay (hgr.stay hk5 hs5));have HG3 : Hid (Grw s W0 b F w (set5 w2 g (i * 5) (.int .i64 TK) (.int .i64 TN) (.string TS) (.slice z1 l1 e1) (.slice z2 l2 e2)) G2 ∧ ¬ G2 g) := ⟨hgr.after HKN.out.below.size hk5 hs5,hnG2⟩;have HB3 : Hid (Blk (set5 w2 g (i * 5) (.int .i64 TK) (.int .i64 TN) (.string TS) (.slice z1 l1 e1) (.slice z2 l2 e2)) (bw + 1) #[.string y1,.int .i64 y2,.int .i64 3,.int .i64 y4,.string y5] 56 ∧ Blk (set5 w2 g (i * 5) (.int .i64 TK) (.int .i64 TN) (.string TS) (.slice z1 l1 e1) (.slice z2 l2 e2)) bw #[.string sn,.slice ma mn mc,.slice ea en ec,.slice ta tn tc,.map (some b)] 74) := ⟨BF2.kp hk5 (fun e => by have := HGW.out; omega),BS2.kp hk5 (fun e => by have := HGW.out; omega)⟩;unfold set5 at HO3 HRT3 HG3 HB3;clear hk5 hs5 hgr hstG hfz hO2 hnG2 hgb BF2 BS2 hg3 hg2 hse al HO HRT HG HB HTX HX y0 y1' y2' y3' y4' f3 f4 s0 s1 s2 s3 s4 hbl hbl1 hTK hTN hTS;go_wp2_with fail;clear p0 p1 p2 p3 p4 q0 q1 q2 q3 q4
    go_roundw
    case rel => exact ⟨i + 1,G2,_,by go_num,by omega,HO3,HRT3,HG3,HB3⟩
    case measure => simp [intOf]; omega
   ·have hiN : i = M := by omega
    have HF : Hid (SeesP s W0 b F n (YS.map φ) w (.returned (.slice (some ⟨g,0,none⟩) M M)) wr) := (by
     have h1 := HRT.out;rw [hiN] at h1
     exact h1.done HYN.out HO.out HG.out.1 HKN.out.below.size (by have := HGW.out; rw [HBW.out]; omega) : SeesP s W0 b F n (YS.map φ) w _ wr)
    have dlt : decide ((i : Int) < (M : Int)) = false := by simp; omega
    clear HO HRT HG HB hiN;go_wp2_with fail;go_ret;exact HF.out
 ·skip
  have d3 : (y3 != 3) = true := by simpa using h3
  have HYS : Hid (TrsR n W0 (.slice (some ⟨g0,o0 + N * 5,none⟩) 1 (lc - N)) YS) := (by rw [HLF.out.2 h3,HN.out]; exact HTS.out.tail : TrsR n W0 _ YS);have HYN : Hid (YS.length = 1) := hid (by rw [HLF.out.2 h3,List.length_drop,HN.out]; omega);have HYM : Hid (∀ x ∈ YS,x ∈ ts) := hid (by rw [HLF.out.2 h3]; exact fun x e => List.mem_of_mem_drop e);clear HLF HLP HTS HN h3;have f2 := (BF.cell 2).trans rfl
  go_enter Tryz.func84,Tryz.ntmps84
  go_upto_region 3 with fail
  clear f2;generalize ((w.alloc (Obj.cells #[.string sn,.slice ma mn mc,.slice ea en ec,.slice ta tn tc,.map (some b)] 74)).alloc (Obj.cells #[.string y1,.int .i64 y2,.int .i64 y3,.int .i64 y4,.string y5] 56)) = U0 at *;obtain ⟨i0,hi0,hz0,hz1,hz2⟩ := info_parts infoTr;obtain ⟨MC,hMC⟩ : ∃ z,madeCells (Value.agg #[.int .i64 0,.int .i64 0,.string ⟨#[]⟩,.slice none 0 0,.slice none 0 0]).cells (1 * 5) = z := ⟨_,rfl⟩
  have hMs : MC.size = 1 * 5 := by rw [← hMC,size_madeCells]
  have hmk : ∀ W : World,(Instr.makeSlice 67 (.int .i64 1) (.int .i64 1)).run Tryz.prog W = .ok (.slice (some ⟨W.heap.size,0,none⟩) 1 1) (W.alloc (.cells MC 30)) := fun W => by
   have := run_makeSlice (P := Tryz.prog) W 67 30 i0 _ Tryz.underlying67 hi0 hz0 .i64 .i64 ((1 : Nat) : Int) ((1 : Nat) : Int) (by omega) (by omega) (by rw [hz1]; simp) (by rw [hz2]; omega) (by omega);rw [hz1] at this;simp only [Int.toNat_natCast] at this;rw [hMC] at this;exact this
  have al : Below U0.heap.size U0 (U0.alloc (.cells MC 30)) := bra _;have hBg : Blk (U0.alloc (.cells MC 30)) U0.heap.size MC 30 := Blk.new U0 _ _;obtain ⟨rows0,hr1,hr2,hr3⟩ := p5_chunk 1 MC.toList (by rw [Array.length_toList]; exact hMs)
  have HO0 : Hid ((U0.alloc (.cells MC 30)).ownsRow W0.heap.size 30 5 (.slice (some ⟨U0.heap.size,0,none⟩) 1 1) 1 rows0.flatten ∧ rows0.length = 1 ∧ ∀ r ∈ rows0,r.length = 5) := ⟨by
   rw [hr1]
   exact ⟨by rw [Array.length_toList]; exact hMs,.inr ⟨_,1,MC,rfl,Nat.le_trans HKN.out.below.size hbw.size,hBg,Nat.le_refl _,by unfold maxLen; omega,hMs,List.take_of_length_le (by rw [Array.length_toList,hMs]; omega)⟩⟩,hr2,hr3⟩
  have hbA := hbw.trans (al.mono hbw.size);have HG0 : Hid (Grw s W0 b F w (U0.alloc (.cells MC 30)) F) := Grw.below HKN.out hbA;have HGW : Hid (w.heap.size + 2 ≤ U0.heap.size) := BF.lt;have BFA := BF.below al;have BSA := BS.below al
  have hnF0 : ¬ F U0.heap.size := fun e => by have := (HKN.out.new _ e).2; have := HGW.out; omega
  clear hi0 hz0 hz1 hz2 hMC hr1 hr2 hr3 hBg al hbA hbw BF BS;go_wp2_with fail;clear hmk;generalize (U0.alloc (.cells MC 30)) = WA at *;obtain ⟨g,hg⟩ : ∃ z,U0.heap.size = z := ⟨_,rfl⟩;rw [hg] at HO0 HGW hnF0;simp only [hg];clear hg;have HFB : Hid (Blk WA (w.heap.size + 1) #[.string y1,.int .i64 y2,.int .i64 y3,.int .i64 y4,.string y5] 56 ∧ Blk WA w.heap.size #[.string sn,.slice ma mn mc,.slice ea en ec,.slice ta tn tc,.map (some b)] 74) := ⟨BFA,BSA⟩;have HNF0 : Hid (¬ F g) := hnF0;clear BFA BSA hnF0;obtain ⟨bw,hbw⟩ : ∃ z,w.heap.size = z := ⟨_,rfl⟩;have HBW : Hid (w.heap.size = bw) := hbw;rw [hbw] at HFB HGW;simp only [hbw];clear hbw
  go_loopw [23] (fun iv wr => ∃ (i : Nat) (G : Nat → Prop) (rows : List (List Value)),iv = .int .i64 (i : Int) ∧ i ≤ 1 ∧ Hid (wr.ownsRow W0.heap.size 30 5 (.slice (some ⟨g,0,none⟩) 1 1) 1 rows.flatten ∧ rows.length = 1 ∧ ∀ r ∈ rows,r.length = 5) ∧ Hid (RowsG n wr G φ YS rows i) ∧ Hid (Grw s W0 b F w wr G ∧ ¬ G g) ∧ Hid (Blk wr (bw + 1) #[.string y1,.int .i64 y2,.int .i64 y3,.int .i64 y4,.string y5] 56 ∧ Blk wr bw #[.string sn,.slice ma mn mc,.slice ea en ec,.slice ta tn tc,.map (some b)] 74)) (fun iv _ => 1 - (intOf iv).toNat)
  case atStart => exact ⟨0,F,rows0,rfl,by omega,HO0,(fun j x hj => absurd hj (by omega) : RowsG n WA F φ YS rows0 0),⟨HG0.out,HNF0.out⟩,HFB⟩
  case round =>
   clear HO0 HG0 HFB HNF0;obtain ⟨i,G,rows,rfl,hi,HO,HRT,HG,HB⟩ := hrel
   by_cases hlt : i < 1
   ·obtain ⟨x,hx⟩ : ∃ r,YS[i]? = some r := ⟨_,List.getElem?_eq_getElem (by rw [HYN.out]; exact hlt)⟩;obtain ⟨gx,off,a1,n1,c1,a2,n2,c2,e0,u0,u1,u2,u3,u4,hxw⟩ := trsR_get HYS.out hx;simp only [Option.some.injEq,Addr.mk.injEq,and_true] at e0;obtain ⟨rfl,rfl⟩ := e0;have hcl := fun {p : Addr} {v : Value} (h : W0.cell? p = some v) => Cel.cell (Cel.ofBelow HG.out.1.kn.below) h
    have y0 := hcl u0;have y1' := hcl u1;have y2' := hcl u2;have y3' := hcl u3;have y4' := hcl u4;have HX : Hid (YS[i]? = some x) := hx;have HXM : Hid (x ∈ ts) := HYM.out x (List.mem_of_getElem? hx);have HXW : Hid (TrW n W0 (.agg #[.int .i64 x.kind,.int .i64 x.n,.string x.s,.slice a1 n1 c1,.slice a2 n2 c2]) x) := hxw;have HTX : Hid (∀ W2,KnP s W0 W2 b G → Calls Tryz.prog 113 #[.agg #[.string sn,.slice ma mn mc,.slice ea en ec,.slice ta tn tc,.map (some b)],.agg #[.int .i64 y4,.string y5],.agg #[.int .i64 x.kind,.int .i64 x.n,.string x.s,.slice a1 n1 c1,.slice a2 n2 c2]] W2 (SeenP s W0 b G n (φ x) W2)) := fun W2 h2 => HTC.out W2 G x x.kind x.n x.s a1 a2 n1 c1 n2 c2 HXM.out h2 HXW.out
    obtain ⟨XK,hXK⟩ : ∃ z,x.kind = z := ⟨_,rfl⟩;obtain ⟨XN,hXN⟩ : ∃ z,x.n = z := ⟨_,rfl⟩;obtain ⟨XS,hXS⟩ : ∃ z,x.s = z := ⟨_,rfl⟩;rw [hXK,hXN,hXS] at HTX;rw [hXK] at y0;rw [hXN] at y1';rw [hXS] at y2';clear hx hxw u0 u1 u2 u3 u4 hcl hXK hXN hXS HXW HXM;have hbl : bw < wr.heap.size := HB.out.2.lt;have hbl1 : bw + 1 < wr.heap.size := HB.out.1.lt;have f3 := (HB.out.1.cell 3).trans rfl;have f4 := (HB.out.1.cell 4).trans rfl;obtain ⟨s0,s1,s2,s3,s4⟩ := cl5 HB.out.2;go_wp2_with fail;have al : Below wr.heap.size wr (wr.alloc (Obj.cells #[.int .i64 XK,.int .i64 XN,.string XS,.slice a1 n1 c1,.slice a2 n2 c2] 30)) := bra _;refine (HTX.out _ (HG.out.1.kn.mk_below al)).mono ?_;rintro e w2 ⟨r,G2,rfl,hg2,hse⟩;obtain ⟨z1,l1,e1,z2,l2,e2,rfl⟩ := trC_open hse.now.trQ.trC;have hg3 : Grw s W0 b G wr w2 G2 := hg2.before al;have hgl : g < wr.heap.size := (own_lt HO.out.1 (k := g) rfl).2
    have hgb : g ≠ b := by
     rcases HO.out.1.2 with ⟨e,_⟩ | ⟨g',cap,cur,e,q1,q2,_⟩
     ·cases e
     ·simp only [Value.slice.injEq,Option.some.injEq,Addr.mk.injEq,and_true,true_and] at e;obtain ⟨rfl, -⟩ := e;exact HG.out.1.kn.neB q2
    have hnG2 : ¬ G2 g := fun e => by
     rcases hg3.new g e with e | e
     ·exact HG.out.2 e
     ·omega
    have hO2 : w2.ownsRow W0.heap.size 30 5 (.slice (some ⟨g,0,none⟩) 1 1) 1 rows.flatten := MsP.kp.own_kpT2 HO.out.1 hg3.kp fun k e1 e2 => by
     have hkg : g = k := by simpa [Value.ownBlock] using e2
     exact hgb (hkg.trans e1)
    have BF2 := HB.out.1.kp hg3.kp (HG.out.1.kn.neB HB.out.1);have BS2 := HB.out.2.kp hg3.kp (HG.out.1.kn.neB HB.out.2);obtain ⟨v0,v1,v2,v3,v4,p0,p1,p2,p3,p4,hfz⟩ := p5_cells hO2 HO.out.2.2 (j := i) (by rw [HO.out.2.1]; exact hlt);have q0 := hfz (i * 5);have q1 := hfz (i * 5 + 1);have q2 := hfz (i * 5 + 2);have q3 := hfz (i * 5 + 3);have q4 := hfz (i * 5 + 4);have hstG : Stay G wr w2 := Stay.kp hg3.kp (fun k e => (HG.out.1.kn.new k e).2) fun k e e2 => HG.out.1.kn.nb (e2 ▸ e)
    have hgr := HG.out.1.trans hg3;generalize hTK : (φ x).kind = TK at *;generalize hTN : (φ x).n = TN at *;generalize hTS : (φ x).s = TS at *;have hk5 := set5_kp w2 g (i * 5) (.int .i64 TK) (.int .i64 TN) (.string TS) (.slice z1 l1 e1) (.slice z2 l2 e2)
    have hs5 : ∀ q,q = g → w.heap.size ≤ q ∧ ¬ G2 q ∧ q ≠ b := fun q e => by subst e; exact ⟨by have := HGW.out; rw [HBW.out]; omega,hnG2,hgb⟩
    have HO3 : Hid ((set5 w2 g (i * 5) (.int .i64 TK) (.int .i64 TN) (.string TS) (.slice z1 l1 e1) (.slice z2 l2 e2)).ownsRow W0.heap.size 30 5 (.slice (some ⟨g,0,none⟩) 1 1) 1 (rows.set i [.int .i64 TK,.int .i64 TN,.string TS,.slice z1 l1 e1,.slice z2 l2 e2]).flatten ∧ (rows.set i [.int .i64 TK,.int .i64 TN,.string TS,.slice z1 l1 e1,.slice z2 l2 e2]).length = 1 ∧ ∀ r ∈ rows.set i [.int .i64 TK,.int .i64 TN,.string TS,.slice z1 l1 e1,.slice z2 l2 e2],r.length = 5) := ⟨own_set5 hO2 HO.out.2.2 (by rw [HO.out.2.1]; exact hlt) _ _ _ _ _,by rw [List.length_set]; exact HO.out.2.1,fun r hr => by
     rcases List.mem_or_eq_of_mem_set hr with hr | rfl
     ·exact HO.out.2.2 r hr
     ·rfl⟩
    have HRT3 : Hid (RowsG n (set5 w2 g (i * 5) (.int .i64 TK) (.int .i64 TN) (.string TS) (.slice z1 l1 e1) (.slice z2 l2 e2)) G2 φ YS (rows.set i [.int .i64 TK,.int .i64 TN,.string TS,.slice z1 l1 e1,.slice z2 l2 e2]) (i + 1)) := RowsG.step HRT.out (fun r x h => ((h.stay hstG).more hg3.sub).stay (hgr.stay hk5 hs5)) HX.out (by rw [HO.out.2.1]; exact hlt) (hse.stay (hgr.stay hk5 hs5));have HG3 : Hid (Grw s W0 b F w (set5 w2 g (i * 5) (.int .i64 TK) (.int .i64 TN) (.string TS) (.slice z1 l1 e1) (.slice z2 l2 e2)) G2 ∧ ¬ G2 g) := ⟨hgr.after HKN.out.below.size hk5 hs5,hnG2⟩;have HB3 : Hid (Blk (set5 w2 g (i * 5) (.int .i64 TK) (.int .i64 TN) (.string TS) (.slice z1 l1 e1) (.slice z2 l2 e2)) (bw + 1) #[.string y1,.int .i64 y2,.int .i64 y3,.int .i64 y4,.string y5] 56 ∧ Blk (set5 w2 g (i * 5) (.int .i64 TK) (.int .i64 TN) (.string TS) (.slice z1 l1 e1) (.slice z2 l2 e2)) bw #[.string sn,.slice ma mn mc,.slice ea en ec,.slice ta tn tc,.map (some b)] 74) := ⟨BF2.kp hk5 (fun e => by have := HGW.out; omega),BS2.kp hk5 (fun e => by have := HGW.out; omega)⟩;unfold set5 at HO3 HRT3 HG3 HB3;clear hk5 hs5 hgr hstG hfz hO2 hnG2 hgb BF2 BS2 hg3 hg2 hse al HO HRT HG HB HTX HX y0 y1' y2' y3' y4' f3 f4 s0 s1 s2 s3 s4 hbl hbl1 hTK hTN hTS;go_wp2_with fail;clear p0 p1 p2 p3 p4 q0 q1 q2 q3 q4
    go_roundw
    case rel => exact ⟨i + 1,G2,_,by go_num,by omega,HO3,HRT3,HG3,HB3⟩
    case measure => simp [intOf]; omega
   ·have hiN : i = 1 := by omega
    have HF : Hid (SeesP s W0 b F n (YS.map φ) w (.returned (.slice (some ⟨g,0,none⟩) 1 1)) wr) := (by
     have h1 := HRT.out;rw [hiN] at h1
     exact h1.done HYN.out HO.out HG.out.1 HKN.out.below.size (by have := HGW.out; rw [HBW.out]; omega) : SeesP s W0 b F n (YS.map φ) w _ wr)
    have dlt : decide ((i : Int) < 1) = false := by simp; omega
    clear HO HRT HG HB hiN;go_wp2_with fail;go_ret;exact HF.out
end
end Go.Proofs.YtmgbhicogmclgaaGreat
