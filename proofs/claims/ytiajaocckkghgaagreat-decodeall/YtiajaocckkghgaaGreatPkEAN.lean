/- Part 14 of what the proof stands on. -/
import Derived.Test.YtiajaocckkghgaaGreatPkEAM
namespace Go.Proofs.YtiajaocckkghgaaGreat
set_option maxHeartbeats 8000000
set_option linter.unusedVariables false
set_option linter.unusedSimpArgs false
set_option maxRecDepth 20000
section
open Go.ChangeShapes Go.WideShapes Go.ChangeAt Go.RowKit Go.Maps
theorem types_told (k : Int) (s : ByteArray) (ms : List MsS) (es : List EnS) : memT (k,s) (five true true true true true ++ ms.map (fun m => (7,m.name)) ++ es.map (fun m => (6,m.name))) = typeB (ms.map MsS.name) (es.map EnS.name) k s := by
 rw [Bool.eq_iff_iff,memT_iff];unfold typeB;simp only [List.mem_append,mem5,true_and,Bool.or_eq_true,Bool.and_eq_true,decide_eq_true_eq,memB_iff,List.mem_map,Prod.mk.injEq]
 constructor
 ·rintro ((h | ⟨m,hm,h1,h2⟩) | ⟨m,hm,h1,h2⟩)
  ·rcases h with ⟨h1,h2⟩ | ⟨h1,h2⟩ | ⟨h1,h2⟩ | ⟨h1,h2⟩ | ⟨h1,h2⟩ <;> exact .inl (.inl ⟨by omega,h2⟩)
  ·exact .inr ⟨h1.symm,m,hm,h2⟩
  ·exact .inl (.inr ⟨h1.symm,m,hm,h2⟩)
 ·rintro ((⟨h1,h2⟩ | ⟨h1,m,hm,h2⟩) | ⟨h1,m,hm,h2⟩)
  ·refine .inl (.inl ?_)
   have : k = 1 ∨ k = 2 ∨ k = 3 ∨ k = 4 ∨ k = 5 := by omega
   rcases this with h | h | h | h | h
   ·exact .inl ⟨h,h2⟩
   ·exact .inr (.inl ⟨h,h2⟩)
   ·exact .inr (.inr (.inl ⟨h,h2⟩))
   ·exact .inr (.inr (.inr (.inl ⟨h,h2⟩)))
   ·exact .inr (.inr (.inr (.inr ⟨h,h2⟩)))
  ·exact .inr ⟨m,hm,h1.symm,h2⟩
  ·exact .inl (.inr ⟨m,hm,h1.symm,h2⟩)
theorem typesof_any {w : World} {v : Value} {s : ScS} (hr : ScIn w v s) (hw : ScW s) (h1 : s.msgs.length ≤ 30000) (h2 : s.enums.length ≤ 30000) :
  Calls Tryz.prog 52 #[v] w fun e w' => (∃ bY ny T,e = .returned (.map (some bY)) ∧ w.heap.size ≤ bY ∧ SetT w' bY ny T ∧ ∀ k s',memT (k,s') T = typeB s.mn s.en k s') ∧ Below w.heap.size w w' := by
 obtain ⟨vm,ve,vt,rfl,hm,he,ht⟩ := hr;obtain ⟨am,cm,rfl,qm1,qm2,_⟩ := hm.open;obtain ⟨ae,ce,rfl,qe1,qe2,_⟩ := he.open;obtain ⟨at',ct,rfl,qt1,qt2⟩ := ht.form2;unfold maxLen at qm2 qe2;have HM : Hid _ := hm;have HE : Hid _ := he;clear hm he ht;obtain ⟨nm,ms,es,ts⟩ := s;simp only at *;have HM : Hid (MsIn w (.slice am ms.length cm) ms) := HM;have HE : Hid (EnIn w (.slice ae es.length ce) es) := HE;generalize (mtRows ts).length = T at *;obtain ⟨M,hM⟩ : ∃ N,ms.length = N := ⟨_,rfl⟩;obtain ⟨E,hE⟩ : ∃ N,es.length = N := ⟨_,rfl⟩;rw [hM] at HM qm1 h1 ⊢;rw [hE] at HE qe1 h2 ⊢;have HNM : Hid (ms.length = M) := hM;have HNE : Hid (es.length = E) := hE;have HW : Hid (ScW ⟨nm,ms,es,ts⟩) := hw;clear hM hE hw;have hmm := @run_makeMap Tryz.prog
 go_enter Tryz.func52,Tryz.ntmps52
 go_wp2_with fail;refine wp_region_held_drew (S := fun _ => True) (by kernel_rfl) trivial (fun hS => ?_);have HW0 : Hid (Below w.heap.size w (w.alloc (.cells #[.string nm,.slice am M cm,.slice ae E ce,.slice at' T ct] 26)).drew) := below_drewN 1 (bra _);have HX0 : Hid (Blk (w.alloc (.cells #[.string nm,.slice am M cm,.slice ae E ce,.slice at' T ct] 26)).drew w.heap.size #[.string nm,.slice am M cm,.slice ae E ce,.slice at' T ct] 26) := Blk.new w #[.string nm,.slice am M cm,.slice ae E ce,.slice at' T ct] 26;generalize (w.alloc (.cells #[.string nm,.slice am M cm,.slice ae E ce,.slice at' T ct] 26)).drew = W0 at *;clear hS;refine rg_tk 1 9 (.agg #[.int .i64 1,.string ⟨#[]⟩]) (fun w' hw' => ?_) trivial (bts 18 2) ?_
 ·go_simp
 refine rg_tk 2 10 (.agg #[]) (fun w' hw' => ?_) trivial (bts 18 6) ?_
 ·go_simp
 refine rg_tk 4 11 (.agg #[.int .i64 2,.string ⟨#[]⟩]) (fun w' hw' => ?_) trivial (bts 18 22) ?_
 ·go_simp
 refine rg_tk 5 12 (.agg #[]) (fun w' hw' => ?_) trivial (bts 18 54) ?_
 ·go_simp
 refine rg_tk 7 13 (.agg #[.int .i64 3,.string ⟨#[]⟩]) (fun w' hw' => ?_) trivial (bts 18 182) ?_
 ·go_simp
 refine rg_tk 8 14 (.agg #[]) (fun w' hw' => ?_) trivial (bts 18 438) ?_
 ·go_simp
 refine rg_tk 10 15 (.agg #[.int .i64 4,.string ⟨#[]⟩]) (fun w' hw' => ?_) trivial (bts 18 1462) ?_
 ·go_simp
 refine rg_tk 11 16 (.agg #[]) (fun w' hw' => ?_) trivial (bts 18 3510) ?_
 ·go_simp
 refine rg_tk 13 17 (.agg #[.int .i64 5,.string ⟨#[]⟩]) (fun w' hw' => ?_) trivial (bts 18 11702) ?_
 ·go_simp
 refine rg_tk 14 18 (.agg #[]) (fun w' hw' => ?_) trivial (bts 18 28086) ?_
 ·go_simp
 refine rg_run 0 8 (.map (some W0.heap.size)) (W0.alloc (.map #[] 0)) rfl rfl (by kernel_rfl) (by rfl) (listed' := bts 18 28087) (by kernel_rfl) (by go_simp) trivial ?_;simp only [zsA,zsZ,zsS];refine rg_five (b := W0.heap.size) (B := W0.heap.size) (w0 := W0) (Nat.le_refl _) rfl rfl rfl rfl rfl rfl rfl rfl rfl rfl rfl rfl rfl rfl rfl rfl rfl rfl rfl rfl rfl rfl rfl rfl rfl rfl rfl rfl rfl rfl rfl (by intro b1 b2 b3 b4 b5; cases b1 <;> cases b2 <;> cases b3 <;> cases b4 <;> cases b5 <;> kernel_rfl) ?fin 5 0 false false false false false rfl (by omega) (W0.alloc (.map #[] 0)) (by simp) (bra _) (SetK.made 56 W0);intro W1 n1 hn1 hbel1 hset1;have HS1 : Hid (SetT W1 W0.heap.size n1 (five true true true true true)) := hset1;clear hset1;refine rg_tk 16 19 (.map (some W0.heap.size)) (fun w' hw' => ?_) trivial (bts 18 131071) ?_
 ·go_simp
 refine rg_tk 17 3 (.map (some W0.heap.size)) (fun w' hw' => ?_) trivial (bts 18 262143) ?_
 ·go_simp
 refine wpAnyH_done (by kernel_rfl) ?_ _;clear hmm;have hx0 : w.heap.size < W0.heap.size := HX0.out.lt;obtain ⟨bY,hbY⟩ : ∃ n,W0.heap.size = n := ⟨_,rfl⟩;rw [hbY] at HS1 hbel1 hx0 ⊢;have HBY : Hid (W0.heap.size = bY) := hbY;clear hbY
 have hb1 : Below W0.heap.size W0 W1 := by rw [HBY.out]; exact hbel1
 have b1 : W1.cell? ⟨w.heap.size,1,none⟩ = some (.slice am M cm) := (HX0.out.below hb1).cell 1;clear hb1;obtain ⟨F,hF⟩ : ∃ F,five true true true true true = F := ⟨_,rfl⟩;rw [hF] at HS1;have HF : Hid (five true true true true true = F) := hF;clear hF
 have HS1' : Hid (SetT W1 bY (n1 + 0) (F ++ (ms.take 0).map fun m => (7,m.name))) := by
  show SetT _ _ _ _
  rw [List.take_zero,List.map_nil,List.append_nil]; exact HS1.out
 clear HS1;go_wp2_with fail;clear b1
 go_loopw [23] (fun iv wr => ∃ (k : Nat),iv = .int .i64 (k : Int) ∧ k ≤ M ∧ Hid (SetT wr bY (n1 + k) (F ++ (ms.take k).map fun m => (7,m.name))) ∧ Below bY W0 wr) (fun iv _ => M - (intOf iv).toNat)
 case atStart => exact ⟨0,rfl,by omega,HS1',hbel1⟩
 case round =>
  obtain ⟨k,rfl,hk,HS,hbel⟩ := hrel;clear HS1'
  have hbW : Below W0.heap.size W0 wr := by rw [HBY.out]; exact hbel
  have hbw : Below w.heap.size w wr := HW0.out.trans (hbW.mono HW0.out.size);have hbt : bY < wr.heap.size := SetK.lt HS.out
  by_cases hlt : k < M
  ·obtain ⟨m,hm⟩ : ∃ n,ms[k]? = some n := ⟨_,List.getElem?_eq_getElem (by rw [HNM.out]; exact hlt)⟩;obtain ⟨g,off,vf,vr,rfl,c0,c1,c2,hf,hrr⟩ := (HM.out.below hbw).get hm;obtain ⟨a3,c3,rfl,_,_⟩ := hf.form2;obtain ⟨a4,c4,rfl,_,_⟩ := hrr.form2;generalize (flRows m.fields).length = nF at *;generalize (inRows m.reserved).length = nR at *;have hms := (HW.out.msgs m (List.mem_of_getElem? hm)).1
   have HTK : Hid ((F ++ (ms.take k).map fun m => ((7 : Int),m.name)) ++ [(7,m.name)] = F ++ (ms.take (k + 1)).map fun m => (7,m.name)) := by
    show _ = _
    rw [List.take_add_one,hm,List.map_append,List.append_assoc]; rfl
   generalize m.name = mnm at *;clear hf hrr hm hbW hbw;go_wp2_with fail;clear c0 c1 c2;have hba : Below wr.heap.size wr (wr.alloc (.cells #[.string mnm,.slice a3 nF c3,.slice a4 nR c4] 50)) := bra _;refine (msgtype_any _ _).mono ?_;rintro e w2 ⟨rfl,hb2⟩;obtain ⟨kl,hkey⟩ := key_ty (k := 7) (s := mnm) ⟨by decide,by decide⟩ hms;obtain ⟨D,hown,h2'⟩ := SetK.below (SetK.below HS.out hba) hb2;have H2 : Hid _ := h2';clear h2';have hkey' := hkey;unfold tyV at hkey';simp only at hkey';have hb3 : Below bY W0 w2 := (hbel.alloc (by omega) _).trans (hb2.mono (by simp; omega))
   have hbt2 : bY ≤ w2.heap.size := by have := hb2.size; simp at this; omega
   clear hb2 hba hbel
   go_wp2_with (first
    | (at_mapUpdate; refine wpList_mapUpdate_own _ rfl _ _ _ 98 rfl 56 145 lawT Tryz.underlying98 (unitElem (H := Unit)) bY (n1 + k) _ rfl hown (by unfold maxLen; omega) _ _ _ rfl rfl hkey' _ [] unitElem_mk ?_; intro w3 hown1 hgrow1)
    | fail)
   have HS3 : Hid (SetT w3 bY (n1 + (k + 1)) (F ++ (ms.take (k + 1)).map fun m => (7,m.name))) := by
    show SetT _ _ _ _
    rw [← HTK.out];have := SetK.put lawT hown.isMap H2.out hkey hown1;unfold SetT;rw [List.map_append];exact this
   have hb4 : Below bY W0 w3 := hb3.grown hgrow1 hbt2 (fun j hj => by cases hj; exact Nat.le_refl _);clear hown hown1 hgrow1 H2 hkey hkey' HTK HS hb3;go_wp2_with fail
   go_roundw
   case rel => exact ⟨k + 1,by go_num,by omega,HS3,hb4⟩
   case measure => simp [intOf]; omega
  ·obtain rfl : k = M := by omega
   have b2 : wr.cell? ⟨w.heap.size,2,none⟩ = some (.slice ae E ce) := (HX0.out.below hbW).cell 2;obtain ⟨G,hG⟩ : ∃ G,F ++ (ms.take k).map (fun m => ((7 : Int),m.name)) = G := ⟨_,rfl⟩;rw [hG] at HS
   have HG : Hid (F ++ ms.map (fun m => ((7 : Int),m.name)) = G) := by
    show _ = _
    rw [← hG,List.take_of_length_le (by rw [HNM.out]; omega)]
   clear hG
   have HS2 : Hid (SetT wr bY (n1 + k + 0) (G ++ (es.take 0).map fun m => (6,m.name))) := by
    show SetT _ _ _ _
    rw [List.take_zero,List.map_nil,List.append_nil]; exact HS.out
   clear HS hbW hbw;go_wp2_with fail;clear b2
   go_loopw [36] (fun iv wr => ∃ (i : Nat),iv = .int .i64 (i : Int) ∧ i ≤ E ∧ Hid (SetT wr bY (n1 + k + i) (G ++ (es.take i).map fun m => (6,m.name))) ∧ Below bY W0 wr) (fun iv _ => E - (intOf iv).toNat)
   case atStart => exact ⟨0,rfl,by omega,HS2,hbel⟩
   case round =>
    obtain ⟨i,rfl,hi,HS,hbel⟩ := hrel;clear HS2
    have hbW : Below W0.heap.size W0 wr := by rw [HBY.out]; exact hbel
    have hbw : Below w.heap.size w wr := HW0.out.trans (hbW.mono HW0.out.size);have hbt : bY < wr.heap.size := SetK.lt HS.out
    by_cases hlt : i < E
    ·obtain ⟨m,hm⟩ : ∃ n,es[i]? = some n := ⟨_,List.getElem?_eq_getElem (by rw [HNE.out]; exact hlt)⟩;obtain ⟨g,off,vf,rfl,c0,c1,hf⟩ := (HE.out.below hbw).get hm;obtain ⟨a3,c3,rfl,_,_⟩ := hf.form2;generalize (nmRows m.values).length = nF at *;have hms := (HW.out.enums m (List.mem_of_getElem? hm)).1
     have HTK : Hid ((G ++ (es.take i).map fun m => ((6 : Int),m.name)) ++ [(6,m.name)] = G ++ (es.take (i + 1)).map fun m => (6,m.name)) := by
      show _ = _
      rw [List.take_add_one,hm,List.map_append,List.append_assoc]; rfl
     generalize m.name = mnm at *;clear hf hm hbW hbw;have hba : Below wr.heap.size wr (wr.alloc (.cells #[.string mnm,.slice a3 nF c3] 68)) := bra _;obtain ⟨kl,hkey⟩ := key_ty (k := 6) (s := mnm) ⟨by decide,by decide⟩ hms;obtain ⟨D,hown,h2'⟩ := SetK.below HS.out hba;have H2 : Hid _ := h2';clear h2';have hkey' := hkey;unfold tyV at hkey';simp only at hkey';have hb3 : Below bY W0 (wr.alloc (.cells #[.string mnm,.slice a3 nF c3] 68)) := hbel.alloc (by omega) _
     have hbt2 : bY ≤ (wr.alloc (.cells #[.string mnm,.slice a3 nF c3] 68)).heap.size := by simp; omega
     clear hba hbel
     go_wp2_with (first
      | (at_mapUpdate; refine wpList_mapUpdate_own _ rfl _ _ _ 98 rfl 56 145 lawT Tryz.underlying98 (unitElem (H := Unit)) bY (n1 + k + i) _ rfl hown (by unfold maxLen; omega) _ _ _ rfl rfl hkey' _ [] unitElem_mk ?_; intro w3 hown1 hgrow1)
      | fail)
     clear c0 c1
     have HS3 : Hid (SetT w3 bY (n1 + k + (i + 1)) (G ++ (es.take (i + 1)).map fun m => (6,m.name))) := by
      show SetT _ _ _ _
      rw [← HTK.out];have := SetK.put lawT hown.isMap H2.out hkey hown1;unfold SetT;rw [List.map_append];exact this
     have hb4 : Below bY W0 w3 := hb3.grown hgrow1 hbt2 (fun j hj => by cases hj; exact Nat.le_refl _);clear hown hown1 hgrow1 H2 hkey hkey' HTK HS hb3;go_wp2_with fail
     go_roundw
     case rel => exact ⟨i + 1,by go_num,by omega,HS3,hb4⟩
     case measure => simp [intOf]; omega
    ·go_wp2_with fail;go_ret;refine ⟨⟨bY,_,_,rfl,by omega,HS.out,fun k' s' => ?_⟩,hbw⟩;rw [← HG.out,← HF.out,List.take_of_length_le (by rw [HNE.out]; omega)];exact types_told k' s' ms es
structure FewL (s : ScS) : Prop where
 msgs : s.msgs.length ≤ 14
 enums : s.enums.length ≤ 10
 meths : s.methods.length ≤ 10
 flds : ∀ m ∈ s.msgs,m.fields.length ≤ 20 ∧ m.reserved.length ≤ 40
 vals : ∀ e ∈ s.enums,e.values.length ≤ 24
structure MayL (s : ScS) : Prop where
 msgs : s.msgs.length ≤ 30000
 enums : s.enums.length ≤ 30000
 meths : s.methods.length ≤ 30000
 flds : ∀ m ∈ s.msgs,m.fields.length ≤ 30000 ∧ m.reserved.length ≤ 30000
 vals : ∀ e ∈ s.enums,e.values.length ≤ 30000
theorem FewL.may {s : ScS} (h : FewL s) : MayL s := ⟨Nat.le_trans h.msgs (by decide),Nat.le_trans h.enums (by decide),Nat.le_trans h.meths (by decide),fun m hm => ⟨Nat.le_trans (h.flds m hm).1 (by decide),Nat.le_trans (h.flds m hm).2 (by decide)⟩,fun e he => Nat.le_trans (h.vals e he) (by decide)⟩
theorem chkMs_err {mn en a : List ByteArray} {m : MsS} {l : List MsS} {X : Int} (hX : X = if freshB m.name a = false then 6 else chkMb mn en m) (h : X ≠ 0) : chkMs mn en a (m :: l) = X := by
 unfold chkMs
 cases hf : freshB m.name a
 ·rw [if_pos rfl]; rw [hf,if_pos rfl] at hX; exact hX.symm
 ·rw [if_neg (by decide)]; rw [hf,if_neg (by decide)] at hX; subst hX; exact orE_ne h _
theorem chkMs_on {mn en a : List ByteArray} {m : MsS} {l : List MsS} (hX : 0 = if freshB m.name a = false then 6 else chkMb mn en m) : freshB m.name a = true ∧ chkMs mn en a (m :: l) = chkMs mn en (a ++ [m.name]) l := by
 cases hf : freshB m.name a
 ·rw [hf,if_pos rfl] at hX; omega
 ·rw [hf,if_neg (by decide)] at hX;refine ⟨rfl,?_⟩
  show (if freshB m.name a = false then 6 else orE (chkMb mn en m) (chkMs mn en (a ++ [m.name]) l)) = _
  rw [hf,if_neg (by decide),← hX,orE_zero]
theorem chkEs_err {a : List ByteArray} {m : EnS} {l : List EnS} {X : Int} (hX : X = if freshB m.name a = false then 6 else chkEb m) (h : X ≠ 0) : chkEs a (m :: l) = X := by
 unfold chkEs
 cases hf : freshB m.name a
 ·rw [if_pos rfl]; rw [hf,if_pos rfl] at hX; exact hX.symm
 ·rw [if_neg (by decide)]; rw [hf,if_neg (by decide)] at hX; subst hX; exact orE_ne h _
theorem chkEs_on {a : List ByteArray} {m : EnS} {l : List EnS} (hX : 0 = if freshB m.name a = false then 6 else chkEb m) : freshB m.name a = true ∧ chkEs a (m :: l) = chkEs (a ++ [m.name]) l := by
 cases hf : freshB m.name a
 ·rw [hf,if_pos rfl] at hX; omega
 ·rw [hf,if_neg (by decide)] at hX;refine ⟨rfl,?_⟩
  show (if freshB m.name a = false then 6 else orE (chkEb m) (chkEs (a ++ [m.name]) l)) = _
  rw [hf,if_neg (by decide),← hX,orE_zero]
theorem check_may {w : World} {v : Value} {s : ScS} (hr : ScIn w v s) (hw : ScW s) (hf : MayL s) :
  Calls Tryz.prog 30 #[v] w fun e w' => e = .returned (.int .i64 (checkA s)) ∧ Below w.heap.size w w' := by
 have HSC := hr;obtain ⟨vm,ve,vt,rfl,hm,he,ht⟩ := hr;obtain ⟨am,cm,rfl,qm1,qm2⟩ := hm.form2;obtain ⟨ae,ce,rfl,qe1,qe2⟩ := he.form2;obtain ⟨at',ct,rfl,qt1,qt2⟩ := ht.form2
 have hT : (mtRows s.methods).length = s.methods.length := by simp [mtRows]
 rw [hT] at HSC ht qt1 ⊢;clear hT;have HWA : Hid (∀ W : World,Calls Tryz.prog 51 #[.agg #[.string s.name,.slice am s.msgs.length cm,.slice ae s.enums.length ce,.slice at' s.methods.length ct]] W fun e w' => e = .returned (.int .i64 (wholeA s)) ∧ Below W.heap.size W w') := fun W => cwhole_any s hw.name hf.msgs hf.enums hf.meths
 have HTO : Hid (∀ W : World,Below w.heap.size w W → Calls Tryz.prog 52 #[.agg #[.string s.name,.slice am s.msgs.length cm,.slice ae s.enums.length ce,.slice at' s.methods.length ct]] W fun e w' => (∃ bY ny T,e = .returned (.map (some bY)) ∧ W.heap.size ≤ bY ∧ SetT w' bY ny T ∧ ∀ k s',memT (k,s') T = typeB s.mn s.en k s') ∧ Below W.heap.size W w') := fun W hW => typesof_any (HSC.below hW) hw hf.msgs hf.enums
 have HM : Hid (MsIn w (.slice am s.msgs.length cm) s.msgs) := hm;have HE : Hid (EnIn w (.slice ae s.enums.length ce) s.enums) := he;have HT : Hid (RowG w (.slice at' s.methods.length ct) 3 (mtRows s.methods)) := ht;have HMN : Hid (s.mn = s.msgs.map MsS.name) := rfl;obtain ⟨CA,hCA⟩ : ∃ A,checkA s = A := ⟨_,rfl⟩;obtain ⟨WA,hWA⟩ : ∃ A,wholeA s = A := ⟨_,rfl⟩
 have HCA : Hid (CA = orE WA (orE (orE (chkMs s.mn s.en [] s.msgs) (chkEs s.mn s.enums)) (chkTs s.mn [] s.methods))) := by show _ = _; rw [← hCA,← hWA]; rfl
 rw [hWA] at HWA;rw [hCA];generalize s.mn = mn at *;generalize s.en = en at *;have HF : Hid (MayL s) := hf;have HW : Hid (ScW s) := hw;obtain ⟨nm,ms,es,ts⟩ := s;simp only at *;have HM : Hid (MsIn w (.slice am ms.length cm) ms) := HM;have HE : Hid (EnIn w (.slice ae es.length ce) es) := HE;obtain ⟨M,hM⟩ : ∃ N,ms.length = N := ⟨_,rfl⟩;obtain ⟨E,hE⟩ : ∃ N,es.length = N := ⟨_,rfl⟩;obtain ⟨T,hT⟩ : ∃ N,ts.length = N := ⟨_,rfl⟩;have h1 := hf.msgs;have h2 := hf.enums;have h3 := hf.meths;simp only at h1 h2 h3;have HL3 : Hid (ts.length ≤ 30000) := h3;rw [hM] at HM qm1 h1 HWA HTO ⊢;rw [hE] at HE qe1 h2 HWA HTO ⊢;rw [hT] at HT qt1 h3 HWA HTO ⊢;have HNM : Hid (ms.length = M) := hM;have HNE : Hid (es.length = E) := hE;have HNT : Hid (ts.length = T) := hT;clear hM hE hT hf hw HSC hm he ht hCA hWA;have hba : Below w.heap.size w (w.alloc (.cells #[.string nm,.slice am M cm,.slice ae E ce,.slice at' T ct] 26)) := bra _;have BX := Blk.new w #[.string nm,.slice am M cm,.slice ae E ce,.slice at' T ct] 26;have hmm := @run_makeMap Tryz.prog
 by_cases hw0 : WA = 0
 ·subst hw0
  have HCA : Hid (CA = orE (orE (chkMs mn en [] ms) (chkEs mn es)) (chkTs mn [] ts)) := by show _ = _; rw [HCA.out,orE_zero]
  go_enter Tryz.func30,Tryz.ntmps30
  go_wp2_with fail;refine (HWA.out _).mono ?_;rintro e w1 ⟨rfl,hb1⟩;have BX1 := BX.below hb1;have b0 : w1.cell? ⟨w.heap.size,0,none⟩ = some (.string nm) := BX1.cell 0;have b1 : w1.cell? ⟨w.heap.size,1,none⟩ = some (.slice am M cm) := BX1.cell 1;have b2 : w1.cell? ⟨w.heap.size,2,none⟩ = some (.slice ae E ce) := BX1.cell 2;have b3 : w1.cell? ⟨w.heap.size,3,none⟩ = some (.slice at' T ct) := BX1.cell 3;have hb01 : Below w.heap.size w w1 := hba.trans (hb1.mono hba.size);go_wp2_with fail;clear b0 b1 b2 b3;refine (HTO.out w1 hb01).mono ?_;rintro e w2 ⟨⟨bY,ny,Ty,rfl,hbY,hTy,hTt⟩,hb2⟩;have HTy : Hid (SetT w2 bY ny Ty) := hTy;have HTT : Hid (∀ k s',memT (k,s') Ty = typeB mn en k s') := hTt;clear hTy hTt;have BX2 := BX1.below hb2;have hb02 : Below w.heap.size w w2 := hb01.trans (hb2.mono hb01.size);have b1 : w2.cell? ⟨w.heap.size,1,none⟩ = some (.slice am M cm) := BX2.cell 1;have hx2 : w.heap.size < w2.heap.size := BX2.lt;have hxY : w.heap.size < bY := Nat.lt_of_lt_of_le BX1.lt hbY;have hYn : bY < w2.heap.size := SetK.lt HTy.out;clear hb1 hb2 hb01 BX BX1 hba HWA HTO;go_wp2_with fail;clear hmm b1;have HM0 : SetS (w2.alloc (.map #[] 0)) w2.heap.size 0 ((ms.take 0).map MsS.name) := SetK.made 9 w2;have HTy0 : Hid (SetT (w2.alloc (.map #[] 0)) bY ny Ty) := SetK.below HTy.out (bra _);have hbel0 : Below w.heap.size w (w2.alloc (.map #[] 0)) := hb02.alloc (by omega) _;have BX0 : Blk (w2.alloc (.map #[] 0)) w.heap.size #[.string nm,.slice am M cm,.slice ae E ce,.slice at' T ct] 26 := BX2.below (bra _);obtain ⟨bn,hbn⟩ : ∃ n,w2.heap.size = n := ⟨_,rfl⟩;rw [hbn] at HM0 hYn hx2 ⊢;clear hbn HTy BX2 hb02;obtain ⟨P1,hP1⟩ : ∃ A,chkMs mn en [] ms = A := ⟨_,rfl⟩;have HP1 : Hid (P1 = chkMs mn en ((ms.take 0).map MsS.name) (ms.drop 0)) := hP1.symm
  have HCA : Hid (CA = orE (orE P1 (chkEs mn es)) (chkTs mn [] ts)) := by show _ = _; rw [HCA.out,hP1]
  clear hP1
  go_loopw [23] (fun iv wr => ∃ (k : Nat),iv = .int .i64 (k : Int) ∧ k ≤ M ∧ Hid (P1 = chkMs mn en ((ms.take k).map MsS.name) (ms.drop k)) ∧ Hid (SetS wr bn k ((ms.take k).map MsS.name)) ∧ Hid (SetT wr bY ny Ty) ∧ Below w.heap.size w wr ∧ Blk wr w.heap.size #[.string nm,.slice am M cm,.slice ae E ce,.slice at' T ct] 26) (fun iv _ => M - (intOf iv).toNat)
  case atStart => exact ⟨0,rfl,by omega,HP1,HM0,HTy0,hbel0,BX0⟩
  case round =>
   obtain ⟨k,rfl,hk,HP,HS,HTy,hbel,BX⟩ := hrel;clear HM0 HTy0 hbel0 BX0;have hbw : bn < wr.heap.size := SetK.lt HS.out
   by_cases hlt : k < M
   ·obtain ⟨m,hm⟩ : ∃ n,ms[k]? = some n := ⟨_,List.getElem?_eq_getElem (by rw [HNM.out]; exact hlt)⟩;obtain ⟨g,off,vf,vr,rfl,c0,c1,c2,hf,hrr⟩ := (HM.out.below hbel).get hm;have HFf : Hid (RowG wr vf 5 (flRows m.fields)) := hf;have HRr : Hid (RowG wr vr 1 (inRows m.reserved)) := hrr;obtain ⟨a3,c3,rfl,_,_⟩ := hf.form2;obtain ⟨a4,c4,rfl,_,_⟩ := hrr.form2;have hmem := List.mem_of_getElem? hm;have HWm : Hid (MsW m) := HW.out.msgs m hmem;have HFm : Hid (m.fields.length ≤ 30000 ∧ m.reserved.length ≤ 30000) := HF.out.flds m hmem
    have HP2 : Hid (P1 = chkMs mn en ((ms.take k).map MsS.name) (m :: ms.drop (k + 1))) := by show _ = _; rw [HP.out,drop_at hm]
    have HTK : Hid ((ms.take (k + 1)).map MsS.name = (ms.take k).map MsS.name ++ [m.name]) := by show _ = _; rw [take_at hm,List.map_append]; rfl
    obtain ⟨m0,mf,mr⟩ := m;simp only at c0 c1 c2 HTK HP2 HFm;have HFf : Hid (RowG wr (.slice a3 (flRows mf).length c3) 5 (flRows mf)) := HFf;have HRr : Hid (RowG wr (.slice a4 (inRows mr).length c4) 1 (inRows mr)) := HRr;have HNF : Hid (RowG wr (.slice a3 (flRows mf).length c3) 5 (flRows mf) ∧ RowG wr (.slice a4 (inRows mr).length c4) 1 (inRows mr)) := ⟨HFf.out,HRr.out⟩;generalize (flRows mf).length = nF at *;generalize (inRows mr).length = nR at *;clear hf hrr hm HP hmem HFf HRr;go_wp2_with fail;clear c0 c1 c2;have hba : Below wr.heap.size wr (wr.alloc (.cells #[.string m0,.slice a3 nF c3,.slice a4 nR c4] 50)) := bra _;refine (cmsg_any (HNF.out.1.below hba) (HNF.out.2.below hba) HFm.out.1 HFm.out.2 (SetK.below HS.out hba) (by omega) (SetK.below HTy.out hba) (by omega) HTT.out HWm.out).mono ?_;rintro e w3 ⟨rfl,hs3,hk3⟩;have HS3 : Hid _ := hs3;clear hs3;obtain ⟨X,hX⟩ : ∃ X,(if freshB m0 ((ms.take k).map MsS.name) = false then 6 else chkMb mn en ⟨m0,mf,mr⟩) = X := ⟨_,rfl⟩;rw [hX];have HX : Hid (X = if freshB m0 ((ms.take k).map MsS.name) = false then 6 else chkMb mn en ⟨m0,mf,mr⟩) := hX.symm;clear hX;have hb3 : Below w.heap.size w w3 := (hbel.alloc (by omega) _).trans (hk3.toBelow (by simp; omega) (fun k e => by omega))
    by_cases hx0 : X = 0
    ·subst hx0;obtain ⟨g1,g2⟩ := chkMs_on (m := ⟨m0,mf,mr⟩) (l := ms.drop (k + 1)) HX.out
     have HP3 : Hid (P1 = chkMs mn en ((ms.take (k + 1)).map MsS.name) (ms.drop (k + 1))) := by show _ = _; rw [HP2.out,g2,HTK.out]
     have HS4 : Hid (SetS w3 bn (k + 1) ((ms.take (k + 1)).map MsS.name)) := by show SetS _ _ _ _; rw [HTK.out]; exact HS3.out g1
     have HT4 : Hid (SetT w3 bY ny Ty) := SetK.kp (SetK.below HTy.out hba) hk3 (by omega);have BX4 := (BX.below hba).kp hk3 (by omega);clear g1 g2 HX HP2 HTK HS3 hba hk3 BX HS HTy hbel;go_wp2_with fail
     go_roundw
     case rel => exact ⟨k + 1,by go_num,by omega,HP3,HS4,HT4,hb3,BX4⟩
     case measure => simp [intOf]; omega
    ·have hx1 : (X == 0) = false := by simpa using hx0
     have HFin : Hid (X = CA) := by
      show _ = _
      rw [HCA.out,HP2.out,chkMs_err (m := ⟨m0,mf,mr⟩) HX.out hx0,orE_ne hx0,orE_ne hx0]
     go_wp2_with fail;go_ret;exact ⟨ret_int HFin.out,hb3⟩
   ·obtain rfl : k = M := by omega
    have hP0 : P1 = 0 := by rw [HP.out,drop_end (by rw [HNM.out]; omega)]; rfl
    obtain ⟨P2,hP2⟩ : ∃ A,chkEs mn es = A := ⟨_,rfl⟩
    have HP2 : Hid (P2 = chkEs (mn ++ (es.take 0).map EnS.name) (es.drop 0)) := by show _ = _; rw [List.take_zero,List.map_nil,List.append_nil,List.drop_zero]; exact hP2.symm
    have HCA : Hid (CA = orE P2 (chkTs mn [] ts)) := by show _ = _; rw [HCA.out,hP0,hP2,orE_zero]
    have HS0 : Hid (SetS wr bn (k + 0) (mn ++ (es.take 0).map EnS.name)) := by
     show SetS _ _ _ _
     have := HS.out;rw [List.take_of_length_le (by rw [HNM.out]; omega),← HMN.out] at this;rw [List.take_zero,List.map_nil,List.append_nil]; exact this
    have b2 : wr.cell? ⟨w.heap.size,2,none⟩ = some (.slice ae E ce) := BX.cell 2;clear HP hP0 hP2 HS HP1;go_wp2_with fail;clear b2
    go_loopw [38] (fun iv wr => ∃ (i : Nat),iv = .int .i64 (i : Int) ∧ i ≤ E ∧ Hid (P2 = chkEs (mn ++ (es.take i).map EnS.name) (es.drop i)) ∧ Hid (SetS wr bn (k + i) (mn ++ (es.take i).map EnS.name)) ∧ Hid (SetT wr bY ny Ty) ∧ Below w.heap.size w wr ∧ Blk wr w.heap.size #[.string nm,.slice am k cm,.slice ae E ce,.slice at' T ct] 26) (fun iv _ => E - (intOf iv).toNat)
    case atStart => exact ⟨0,rfl,by omega,HP2,HS0,HTy,hbel,BX⟩
    case round =>
     obtain ⟨i,rfl,hi,HP,HS,HTy,hbel,BX⟩ := hrel;clear HS0 HP2;have hbw : bn < wr.heap.size := SetK.lt HS.out
     by_cases hlt : i < E
     ·obtain ⟨m,hm⟩ : ∃ n,es[i]? = some n := ⟨_,List.getElem?_eq_getElem (by rw [HNE.out]; exact hlt)⟩;obtain ⟨g,off,vf,rfl,c0,c1,hf⟩ := (HE.out.below hbel).get hm;have HFf : Hid (RowG wr vf 2 (nmRows m.values)) := hf;obtain ⟨a3,c3,rfl,_,_⟩ := hf.form2;have hmem := List.mem_of_getElem? hm;have HWm : Hid (EnW m) := HW.out.enums m hmem;have HFm : Hid (m.values.length ≤ 30000) := HF.out.vals m hmem
      have HP2 : Hid (P2 = chkEs (mn ++ (es.take i).map EnS.name) (m :: es.drop (i + 1))) := by show _ = _; rw [HP.out,drop_at hm]
      have HTK : Hid (mn ++ (es.take (i + 1)).map EnS.name = (mn ++ (es.take i).map EnS.name) ++ [m.name]) := by show _ = _; rw [take_at hm,List.map_append,List.append_assoc]; rfl
      obtain ⟨m0,mf⟩ := m;simp only at c0 c1 HTK HP2 HFm;have HFf : Hid (RowG wr (.slice a3 (nmRows mf).length c3) 2 (nmRows mf)) := HFf;generalize (nmRows mf).length = nF at *;generalize mn ++ (es.take i).map EnS.name = AL at *;clear hf hm HP hmem;go_wp2_with fail;clear c0 c1;have hba : Below wr.heap.size wr (wr.alloc (.cells #[.string m0,.slice a3 nF c3] 68)) := bra _;refine (cenum_any (HFf.out.below hba) HFm.out (SetK.below HS.out hba) (by omega) HWm.out).mono ?_;rintro e w3 ⟨rfl,hs3,hk3⟩;have HS3 : Hid _ := hs3;clear hs3;obtain ⟨X,hX⟩ : ∃ X,(if freshB m0 AL = false then 6 else chkEb ⟨m0,mf⟩) = X := ⟨_,rfl⟩;rw [hX];have HX : Hid (X = if freshB m0 AL = false then 6 else chkEb ⟨m0,mf⟩) := hX.symm;clear hX;have hb3 : Below w.heap.size w w3 := (hbel.alloc (by omega) _).trans (hk3.toBelow (by simp; omega) (fun k e => by omega))
      by_cases hx0 : X = 0
      ·subst hx0;obtain ⟨g1,g2⟩ := chkEs_on (m := ⟨m0,mf⟩) (l := es.drop (i + 1)) HX.out
       have HP3 : Hid (P2 = chkEs (mn ++ (es.take (i + 1)).map EnS.name) (es.drop (i + 1))) := by show _ = _; rw [HP2.out,g2,HTK.out]
       have HS4 : Hid (SetS w3 bn (k + (i + 1)) (mn ++ (es.take (i + 1)).map EnS.name)) := by show SetS _ _ _ _; rw [HTK.out]; exact HS3.out g1
       have HT4 : Hid (SetT w3 bY ny Ty) := SetK.kp (SetK.below HTy.out hba) hk3 (by omega);have BX4 := (BX.below hba).kp hk3 (by omega);clear g1 g2 HX HP2 HTK HS3 hba hk3 BX HS HTy hbel HFf;go_wp2_with fail
       go_roundw
       case rel => exact ⟨i + 1,by go_num,by omega,HP3,HS4,HT4,hb3,BX4⟩
       case measure => simp [intOf]; omega
      ·have hx1 : (X == 0) = false := by simpa using hx0
       have HFin : Hid (X = CA) := by
        show _ = _
        rw [HCA.out,HP2.out,chkEs_err (m := ⟨m0,mf⟩) HX.out hx0,orE_ne hx0]
       go_wp2_with fail;go_ret;exact ⟨ret_int HFin.out,hb3⟩
     ·have hP0 : P2 = 0 := by rw [HP.out,drop_end (by rw [HNE.out]; omega)]; rfl
      have HFin : Hid (chkTs mn [] ts = CA) := by show _ = _; rw [HCA.out,hP0,orE_zero]
      have b3 : wr.cell? ⟨w.heap.size,3,none⟩ = some (.slice at' T ct) := BX.cell 3;clear hP0 HP HS;go_wp2_with fail;clear b3;refine (cmethods_any (HT.out.below hbel) HL3.out HTy.out HTT.out HW.out.meths).mono ?_;rintro e w3 ⟨rfl,hb3⟩;rw [HFin.out];go_wp2_with fail;go_ret;exact ⟨rfl,hbel.trans (hb3.mono hbel.size)⟩
 ·have hw1 : (WA == 0) = false := by simpa using hw0
  have HFin : Hid (WA = CA) := by show _ = _; rw [HCA.out,orE_ne hw0]
  go_enter Tryz.func30,Tryz.ntmps30
  go_wp2_with fail;refine (HWA.out _).mono ?_;rintro e w1 ⟨rfl,hb1⟩;have hb01 : Below w.heap.size w w1 := hba.trans (hb1.mono hba.size);go_wp2_with fail;go_ret;exact ⟨ret_int HFin.out,hb01⟩
theorem check_any {w : World} {v : Value} {s : ScS} (hr : ScIn w v s) (hw : ScW s) (hf : FewL s) :
  Calls Tryz.prog 30 #[v] w fun e w' => e = .returned (.int .i64 (checkA s)) ∧ Below w.heap.size w w' := check_may hr hw hf.may
end
section
open Go.ChangeShapes Go.WideShapes Go.ChangeAt Go.RowKit
def PlMap (w : World) (b : Nat) (L : List (Value × Value)) : Prop := ∃ es clock,w.heap[b]? = some (.map es clock) ∧ es.toList.map (fun e => (e.key,e.val)) = L
theorem PlMap.lt {w : World} {b : Nat} {L : List (Value × Value)} (h : PlMap w b L) : b < w.heap.size := by
 obtain ⟨es,c,h,_⟩ := h;exact (Array.getElem?_eq_some_iff.1 h).1
theorem PlMap.kp {S : Nat → Prop} {w w1 : World} {b : Nat} {L : List (Value × Value)} (h : PlMap w b L) (hk : Kp S w w1) (hs : ¬ S b) : PlMap w1 b L := by
 have hl := h.lt;obtain ⟨es,c,h1,h2⟩ := h;exact ⟨es,c,(hk.block b hl hs).trans h1,h2⟩
theorem PlMap.made (w : World) : PlMap (w.alloc (.map #[] 0)) w.heap.size [] := ⟨#[],0,heap_alloc_new w _,rfl⟩
section
variable {T MT : TypeId} {w : World} {k : Value}
theorem find_askM : ∀ (l : List MapEntry) (i : Nat),Told T w k (l.map MapEntry.key) →
  (∃ j e,(Instr.findAsking T k l i).run Tryz.prog w = .ok (some (i + j,e.val)) w ∧ l[j]? = some e ∧ e.key = k) ∨ ((Instr.findAsking T k l i).run Tryz.prog w = .ok none w ∧ k ∉ l.map MapEntry.key)
 | [],i,_ => .inr (by simp [Instr.findAsking])
 | e :: l,i,ht => by
  obtain ⟨h1,h2⟩ := ht e.key (List.mem_cons_self ..)
  by_cases hke : k = e.key
  ·refine .inl ⟨0,e,?_,rfl,hke.symm⟩;unfold Instr.findAsking;rw [Sem.run_bind,h1 hke]
   simp [Result.andThen]
  ·have hrun : (Instr.findAsking T k (e :: l) i).run Tryz.prog w = (Instr.findAsking T k l (i + 1)).run Tryz.prog w := by
    conv => lhs; unfold Instr.findAsking
    rw [Sem.run_bind,h2 hke]
    simp [Result.andThen]
   rcases find_askM l (i + 1) (fun q hq => ht q (List.mem_cons_of_mem _ hq)) with ⟨j,e',g1,g2,g3⟩ | ⟨g1,g2⟩
   ·exact .inl ⟨j + 1,e',by rw [hrun,g1]; congr 3; omega,by simpa using g2,g3⟩
   ·refine .inr ⟨hrun.trans g1,fun h => ?_⟩
    rcases List.mem_cons.1 h with h | h
    ·exact hke h
    ·exact g2 h
theorem find_keyM {fs : TypeDesc} (hu : Tryz.prog.underlying T = some fs) (hf : ∀ k q,Instr.sameNow fs (.agg k) q = none) {ks : Array Value} (hk : k = .agg ks) (l : List MapEntry) (ht : Told T w k (l.map MapEntry.key)) :
  (∃ j e,(Instr.findKey T k l).run Tryz.prog w = .ok (some (j,e.val)) w ∧ l[j]? = some e ∧ e.key = k) ∨ ((Instr.findKey T k l).run Tryz.prog w = .ok none w ∧ k ∉ l.map MapEntry.key) := by
 cases l with
 | nil => exact .inr (by simp [Instr.findKey,run_underlying hu,Instr.findNow])
 | cons e l =>
  have h1 : Instr.findNow fs k (e :: l) 0 = none := by rw [hk]; simp [Instr.findNow,hf]
  have h2 : (Instr.findKey T k (e :: l)).run Tryz.prog w = (Instr.findAsking T k (e :: l) 0).run Tryz.prog w := by
   simp [Instr.findKey,run_underlying hu,h1]
  rw [h2];have := find_askM (e :: l) 0 ht
  simpa using this
variable {E : TypeId} {L : List (Value × Value)} {b : Nat}
theorem keys_of {es : Array MapEntry} : (es.toList.map (fun e => (e.key,e.val))).map Prod.fst = es.toList.map MapEntry.key := by simp [Function.comp_def]
theorem look_map (hm : Tryz.prog.underlying MT = some (.map T E)) {z : Value} (hz : ∀ w,(zeroValue E).run Tryz.prog w = .ok z w) {fs : TypeDesc} (hu : Tryz.prog.underlying T = some fs) (hf : ∀ k q,Instr.sameNow fs (.agg k) q = none) {ks : Array Value} (hk : k = .agg ks)
  (hc : ∀ e,(Instr.checkKey e 10000 T k).run Tryz.prog w = .ok () w) (hs : PlMap w b L) (ht : Told T w k (L.map Prod.fst)) :
  (∃ v,(k,v) ∈ L ∧ (Instr.lookup MT (.map (some b)) k true).run Tryz.prog w = .ok (.tuple #[v,.bool true]) w) ∨ (k ∉ L.map Prod.fst ∧ (Instr.lookup MT (.map (some b)) k true).run Tryz.prog w = .ok (.tuple #[z,.bool false]) w) := by
 obtain ⟨es,c,h1,rfl⟩ := hs;rw [keys_of] at ht ⊢
 have hgo : (getObj b).run Tryz.prog w = .ok (.map es c) w := by simp [getObj,Sem.run,h1]
 rcases find_keyM hu hf hk es.toList ht with ⟨j,e,hj,g2,g3⟩ | ⟨hj,g2⟩
 ·refine .inl ⟨e.val,List.mem_map.2 ⟨e,List.mem_of_getElem? g2,by rw [g3]⟩,?_⟩
  simp [Instr.lookup,run_underlying hm,hgo,hc,hj]
 ·refine .inr ⟨g2,?_⟩
  simp [Instr.lookup,run_underlying hm,hgo,hc,hj,hz]
theorem update_map (hm : Tryz.prog.underlying MT = some (.map T E)) {fs : TypeDesc} (hu : Tryz.prog.underlying T = some fs) (hf : ∀ k q,Instr.sameNow fs (.agg k) q = none) {ks : Array Value} (hk : k = .agg ks) (hsb : Instr.sameBits 10000 k k = true)
  (hc : ∀ e,(Instr.checkKey e 10000 T k).run Tryz.prog w = .ok () w) (hs : PlMap w b L) (ht : Told T w k (L.map Prod.fst)) (v : Value) :
  ∃ w' L',(Instr.mapUpdate MT (.map (some b)) k v).run Tryz.prog w = .ok () w' ∧ PlMap w' b L' ∧ (∀ p ∈ L',p ∈ L ∨ p = (k,v)) ∧ (k,v) ∈ L' ∧ (∀ p ∈ L,p.1 ≠ k → p ∈ L') ∧ Kp (fun q => q = b) w w' ∧ w'.heap.size = w.heap.size := by
 obtain ⟨es,c,h1,rfl⟩ := hs;rw [keys_of] at ht
 have hgo : (getObj b).run Tryz.prog w = .ok (.map es c) w := by simp [getObj,Sem.run,h1]
 have hse : ∀ o,(setObj b o).run Tryz.prog w = .ok () { w with heap := w.heap.setIfInBounds b o } := fun o => by simp [setObj,Sem.run,h1]
 have hlt := (Array.getElem?_eq_some_iff.1 h1).1
 have hkp : ∀ o,Kp (fun q => q = b) w { w with heap := w.heap.setIfInBounds b o } := fun o => ⟨rfl,rfl,rfl,by simp,fun q hq hs => by
  simp only
  rw [Array.getElem?_setIfInBounds_ne (Ne.symm hs)]⟩
 rcases find_keyM hu hf hk es.toList ht with ⟨j,e,hj,g2,g3⟩ | ⟨hj,g2⟩
 ·have hej : es[j]? = some e := by simpa using g2
  have hkt : (Instr.keyThatStays (((es[j]?).map (·.key)).getD k) k).run Tryz.prog w = .ok k w := by
   rw [hej]
   simp [Instr.keyThatStays,g3,hsb]
  have hmem : ∀ x,x ∈ (es.modify j fun e => { e with key := k,val := v }).toList ↔ ∃ i y,es[i]? = some y ∧ x = if j = i then { y with key := k,val := v } else y := fun x => by
   rw [Array.mem_toList_iff,Array.mem_iff_getElem?]
   constructor
   ·rintro ⟨i,hi⟩;rw [Array.getElem?_modify] at hi
    split at hi
    ·rename_i hij
     subst hij;rw [hej] at hi
     simp at hi
     exact ⟨j,e,hej,by rw [if_pos rfl]; exact hi.symm⟩
    ·rename_i hij
     exact ⟨i,x,hi,by rw [if_neg hij]⟩
   ·rintro ⟨i,y,hi,rfl⟩;refine ⟨i,?_⟩;rw [Array.getElem?_modify]
    split
    ·rename_i hij
     rw [hi]; rfl
    ·exact hi
  refine ⟨{ w with heap := w.heap.setIfInBounds b (.map (es.modify j fun e => { e with key := k,val := v }) c) },_,?_,⟨es.modify j fun e => { e with key := k,val := v },c,?_,rfl⟩,?_,?_,?_,hkp _,by simp⟩
  ·simp [Instr.mapUpdate,run_underlying hm,hgo,hc,hj,hkt,hse]
  ·simp [hlt]
  ·intro p hp;obtain ⟨x,hx,rfl⟩ := List.mem_map.1 hp;obtain ⟨i,y,hi,rfl⟩ := (hmem x).1 hx
   split
   ·exact .inr rfl
   ·exact .inl (List.mem_map.2 ⟨y,by rw [Array.mem_toList_iff]; exact Array.mem_of_getElem? hi,rfl⟩)
  ·exact List.mem_map.2 ⟨{ e with key := k,val := v },(hmem _).2 ⟨j,e,hej,by rw [if_pos rfl]⟩,rfl⟩
  ·intro p hp hne;obtain ⟨x,hx,rfl⟩ := List.mem_map.1 hp;rw [Array.mem_toList_iff,Array.mem_iff_getElem?] at hx;obtain ⟨i,hi⟩ := hx;refine List.mem_map.2 ⟨x,(hmem _).2 ⟨i,x,hi,?_⟩,rfl⟩;rw [if_neg];intro hij;subst hij;rw [hej] at hi
   obtain rfl : e = x := by simpa using hi
   exact hne g3
 ·refine ⟨{ w with heap := w.heap.setIfInBounds b (.map (es.push { key := k,val := v,born := c }) (c + 1)) },_,?_,⟨es.push { key := k,val := v,born := c },c + 1,?_,rfl⟩,?_,?_,?_,hkp _,by simp⟩
  ·simp [Instr.mapUpdate,run_underlying hm,hgo,hc,hj,hse]
  ·simp [hlt]
  ·intro p hp;simp only [Array.toList_push,List.map_append,List.map_cons,List.map_nil,List.mem_append,List.mem_singleton] at hp;exact hp
  ·simp
  ·intro p hp _;simp only [Array.toList_push,List.map_append,List.mem_append];exact .inl hp
end
abbrev Id2 : Type := Pl × Pl
def idV (x : Id2) : Value := .agg #[.pointer x.1.1,.int .i64 (x.1.2 : Int),.pointer x.2.1,.int .i64 (x.2.2 : Int)]
def IdOk2 (w : World) (x : Id2) : Prop := PlOk w x.1 ∧ PlOk w x.2
theorem idV_inj {x y : Id2} : idV x = idV y ↔ x = y := by
 obtain ⟨⟨p1,c1⟩,⟨p2,c2⟩⟩ := x;obtain ⟨⟨q1,d1⟩,⟨q2,d2⟩⟩ := y
 simp [idV]
 constructor
 ·rintro ⟨h4,h5,h6,h7⟩; exact ⟨⟨h4,by omega⟩,h6,by omega⟩
 ·rintro ⟨⟨h4,h5⟩,h6,h7⟩; exact ⟨h4,by omega,h6,by omega⟩
theorem eql_id (w : World) (x y : Id2) (hx : IdOk2 w x) (hy : IdOk2 w y) : (Op.equal 222 (idV x) (idV y)).run Tryz.prog w = .ok (decide (x = y)) w := by
 obtain ⟨⟨p1,c1⟩,⟨p2,c2⟩⟩ := x;obtain ⟨⟨q1,d1⟩,⟨q2,d2⟩⟩ := y;have h1 := fun d => eql_ptr w d p1 q1 hx.1 hy.1
 have h2 := fun d => eql_ptrR w d p2 q2 hx.2 hy.2
 by_cases e5 : p1 = q1
 ·by_cases e6 : c1 = d1
  ·by_cases e7 : p2 = q2
   ·by_cases e8 : c2 = d2
    ·subst e5 e6 e7 e8
     simp [idV,Op.equal,Op.maxDepth,go_sem,h1,h2]
    ·have e9 : ¬ (c2 : Int) = (d2 : Int) := by omega
     subst e5 e6 e7
     simp [idV,Op.equal,Op.maxDepth,go_sem,h1,h2,e8,e9]
   ·subst e5 e6
    simp [idV,Op.equal,Op.maxDepth,go_sem,h1,h2,e7]
  ·have e9 : ¬ (c1 : Int) = (d1 : Int) := by omega
   subst e5
   simp [idV,Op.equal,Op.maxDepth,go_sem,h1,h2,e6,e9]
 ·simp [idV,Op.equal,Op.maxDepth,go_sem,h1,h2,e5]
theorem check_id (w : World) (b : Bool) (x : Id2) : (Instr.checkKey b 10000 222 (idV x)).run Tryz.prog w = .ok () w := by kernel_rfl
theorem same_id (n : Nat) (x : Id2) : Instr.sameBits (n + 1) (idV x) (idV x) = true := by
 simp [idV,Instr.sameBits]
theorem uMade : Tryz.prog.underlying 117 = some (.map 222 225) := by kernel_rfl
theorem zeroEd (w : World) : (zeroValue 225).run Tryz.prog w = .ok (.agg #[.string ⟨#[]⟩]) w := by kernel_rfl
theorem told_id {w : World} {x : Id2} {L : List (Id2 × ByteArray)} (hx : IdOk2 w x) (hL : ∀ y ∈ L,IdOk2 w y.1) : Told 222 w (idV x) ((L.map fun y => (idV y.1,Value.agg #[.string y.2])).map Prod.fst) := by
 intro q hq;obtain ⟨p,hp,rfl⟩ := List.mem_map.1 hq;obtain ⟨y,hy,rfl⟩ := List.mem_map.1 hp;have h := eql_id w x y.1 hx (hL y hy)
 constructor
 ·intro e;rw [h,decide_eq_true (idV_inj.1 e)]
 ·intro e;rw [h,decide_eq_false];exact fun e' => e (idV_inj.2 e')
def TrJ (n : Nat) (w : World) (x : Id2) (t : Tr) : Prop := ∃ ve vr,x = (plOf ve,plOf vr) ∧ TrR n w [.int .i64 t.kind,.int .i64 t.n,.string t.s,ve,vr] t
theorem TrJ.cel {n : Nat} {w w1 : World} {x : Id2} {t : Tr} (h : TrJ n w x t) (hb : Cel w w1) : TrJ n w1 x t := by
 obtain ⟨ve,vr,h1,h2⟩ := h;exact ⟨ve,vr,h1,h2.cel hb⟩
theorem TrJ.dp {n : Nat} {w : World} {x : Id2} {t : Tr} (h : TrJ n w x t) : DpN n t := by
 obtain ⟨ve,vr,h1,h2⟩ := h;exact h2.dp
theorem TrJ.ok {n : Nat} {w : World} {x : Id2} {t : Tr} (h : TrJ n w x t) : IdOk2 w x := by
 obtain ⟨ve,vr,rfl,h⟩ := h
 cases n with
 | zero => exact h.elim
 | succ n =>
  obtain ⟨ve',vr',e,h2,h3,h4,h5,h6,h7,h8,h9⟩ := h;simp only [List.cons.injEq,and_true] at e;obtain ⟨-, -, -,rfl,rfl⟩ := e;exact ⟨plOf_ok h8 h7,plOf_ok4 h9 h6⟩
theorem TrJ.uniq {n m : Nat} {w : World} {x : Id2} {t u : Tr} (h : TrJ n w x t) (k : TrJ m w x u) : t.es = u.es ∧ t.rest = u.rest := by
 obtain ⟨ve,vr,e,h⟩ := h;obtain ⟨ve',vr',e',k⟩ := k
 cases n with
 | zero => exact h.elim
 | succ n =>
  cases m with
  | zero => exact k.elim
  | succ m =>
   obtain ⟨q1,q2,e1,_,_,_,_,h6,h7,_,_⟩ := h;obtain ⟨q1',q2',e1',_,_,_,_,k6,k7,_,_⟩ := k;simp only [List.cons.injEq,and_true] at e1 e1';obtain ⟨-, -, -,rfl,rfl⟩ := e1;obtain ⟨-, -, -,rfl,rfl⟩ := e1';rw [e] at e';simp only [Prod.mk.injEq] at e';exact ⟨pl_uniq (EnC.trQ h7) (EnC.trQ k7) e'.1,pl_uniq4 h6 k6 e'.2⟩
theorem TrW.trJ {n : Nat} {w : World} {t : Tr} {K N : Int} {S : ByteArray} {a1 a2 : Option Addr} {n1 c1 n2 c2 : Nat} (h : TrW n w (.agg #[.int .i64 K,.int .i64 N,.string S,.slice a1 n1 c1,.slice a2 n2 c2]) t) : TrJ n w (plOf (.slice a1 n1 c1),plOf (.slice a2 n2 c2)) t := by
 obtain ⟨p1,p2,p3,p4,p5⟩ := h.parts;obtain ⟨r,e,h⟩ := h
 have e1 : r = [.int .i64 K,.int .i64 N,.string S,.slice a1 n1 c1,.slice a2 n2 c2] := by simpa using congrArg (fun v => match v with | .agg a => a.toList | _ => []) e.symm
 subst e1;refine ⟨.slice a1 n1 c1,.slice a2 n2 c2,rfl,?_⟩;rw [p1,p2,p3];exact h
def KnE (W0 w : World) (b : Nat) : Prop := W0.heap.size ≤ b ∧ ∃ L : List (Id2 × ByteArray),PlMap w b (L.map fun y => (idV y.1,Value.agg #[.string y.2])) ∧ ∀ y ∈ L,∃ n t ns,TrJ n W0 y.1 t ∧ bytE n t = (ns,0) ∧ y.2 = strN ns
theorem KnE.lt {W0 w : World} {b : Nat} (h : KnE W0 w b) : b < w.heap.size := by
 obtain ⟨_,L,h1,_⟩ := h;exact h1.lt
theorem KnE.kp {S : Nat → Prop} {W0 w w1 : World} {b : Nat} (h : KnE W0 w b) (hk : Kp S w w1) (hs : ¬ S b) : KnE W0 w1 b := by
 obtain ⟨h0,L,h1,h2⟩ := h;exact ⟨h0,L,h1.kp hk hs,h2⟩
theorem KnE.below {W0 w w1 : World} {b : Nat} (h : KnE W0 w b) (hb : Below w.heap.size w w1) : KnE W0 w1 b := h.kp (S := fun _ => False) (Kp.ofBelow hb) (fun e => e)
theorem KnE.made {W0 w : World} (h : W0.heap.size ≤ w.heap.size) : KnE W0 (w.alloc (.map #[] 0)) w.heap.size := ⟨h,[],PlMap.made w,by simp⟩
theorem KnE.frame {W0 w w1 : World} {b : Nat} (h : KnE W0 w b) (h0 : Below W0.heap.size W0 w) (hk : Kp (fun q => q = b) w w1) : Below W0.heap.size W0 w1 :=
 h0.trans (hk.toBelow h0.size fun k e => by rw [e]; exact h.1)
theorem KnE.look {W0 w : World} {b n : Nat} (h : KnE W0 w b) (h0 : Below W0.heap.size W0 w) {x : Id2} {t : Tr} (hx : TrJ n W0 x t) :
  (∃ ns,(Instr.lookup 117 (.map (some b)) (idV x) true).run Tryz.prog w = .ok (.tuple #[.agg #[.string (strN ns)],.bool true]) w ∧ bytE n t = (ns,0)) ∨
  (Instr.lookup 117 (.map (some b)) (idV x) true).run Tryz.prog w = .ok (.tuple #[.agg #[.string ⟨#[]⟩],.bool false]) w := by
 obtain ⟨_,L,h1,h2⟩ := h
 have hT := told_id (L := L) (hx.cel (Cel.ofBelow h0)).ok fun y hy => by
  obtain ⟨n,t,ns,g1,g2⟩ := h2 y hy;exact (g1.cel (Cel.ofBelow h0)).ok
 rcases look_map (k := idV x) uMade zeroEd Tryz.underlying222 (fun _ _ => rfl) (ks := #[.pointer x.1.1,.int .i64 (x.1.2 : Int),.pointer x.2.1,.int .i64 (x.2.2 : Int)]) rfl (fun e => check_id w e x) h1 hT with ⟨v,hv,hr⟩ | ⟨_,hr⟩
 ·obtain ⟨y,hy,e⟩ := List.mem_map.1 hv;simp only [Prod.mk.injEq] at e;obtain ⟨e1,rfl⟩ := e;obtain ⟨m,u,ns,g1,g2,g3⟩ := h2 y hy;rw [idV_inj.1 e1] at g1;obtain ⟨u1,u2⟩ := hx.uniq g1;refine .inl ⟨ns,by rw [hr,g3],?_⟩;rw [bytE_more n m t hx.dp (g1.dp.parts u1.symm),bytE_parts u1 u2];exact g2
 ·exact .inr hr
theorem KnE.update {W0 w : World} {b n : Nat} (h : KnE W0 w b) (h0 : Below W0.heap.size W0 w) {x : Id2} {t : Tr} {ns : List Nat} (hx : TrJ n W0 x t) (hv : bytE n t = (ns,0)) :
  ∃ w',(Instr.mapUpdate 117 (.map (some b)) (idV x) (.agg #[.string (strN ns)])).run Tryz.prog w = .ok () w' ∧ KnE W0 w' b ∧ Kp (fun q => q = b) w w' := by
 have hK := h;obtain ⟨hz,L,h1,h2⟩ := h
 have hT := told_id (L := L) (hx.cel (Cel.ofBelow h0)).ok fun y hy => by
  obtain ⟨n,t,ns,g1,g2⟩ := h2 y hy;exact (g1.cel (Cel.ofBelow h0)).ok
 obtain ⟨w',L',e1,e2,e3,_,_,e4,_⟩ := update_map (k := idV x) uMade Tryz.underlying222 (fun _ _ => rfl) (ks := #[.pointer x.1.1,.int .i64 (x.1.2 : Int),.pointer x.2.1,.int .i64 (x.2.2 : Int)]) rfl (same_id 9999 x) (fun e => check_id w e x) h1 hT (.agg #[.string (strN ns)]);refine ⟨w',e1,?_,e4⟩
 have hall : ∀ p ∈ L',∃ y : Id2 × ByteArray,p = (idV y.1,Value.agg #[.string y.2]) ∧ ∃ n t ns,TrJ n W0 y.1 t ∧ bytE n t = (ns,0) ∧ y.2 = strN ns := fun p hp => by
  rcases e3 p hp with hp | rfl
  ·obtain ⟨y,hy,rfl⟩ := List.mem_map.1 hp;exact ⟨y,rfl,h2 y hy⟩
  ·exact ⟨(x,strN ns),rfl,n,t,ns,hx,hv,rfl⟩
 have hex : ∀ l : List (Value × Value),(∀ p ∈ l,∃ y : Id2 × ByteArray,p = (idV y.1,Value.agg #[.string y.2]) ∧ ∃ n t ns,TrJ n W0 y.1 t ∧ bytE n t = (ns,0) ∧ y.2 = strN ns) → ∃ M : List (Id2 × ByteArray),l = (M.map fun y => (idV y.1,Value.agg #[.string y.2])) ∧ ∀ y ∈ M,∃ n t ns,TrJ n W0 y.1 t ∧ bytE n t = (ns,0) ∧ y.2 = strN ns := fun l => by
  induction l with
  | nil => exact fun _ => ⟨[],rfl,by simp⟩
  | cons p l ih =>
   intro hl;obtain ⟨M,g1,g2⟩ := ih fun p hp => hl p (List.mem_cons_of_mem _ hp)
   obtain ⟨y,g3,g4⟩ := hl p (List.mem_cons_self ..);refine ⟨y :: M,by rw [List.map_cons,← g1,← g3],fun z hz => ?_⟩
   rcases List.mem_cons.1 hz with rfl | hz
   ·exact g4
   ·exact g2 z hz
 obtain ⟨M,g1,g2⟩ := hex L' hall;exact ⟨hz,M,g1 ▸ e2,g2⟩
theorem eplaceE_any (a : Option Addr) (N cap : Nat) (w : World) (h1 : N ≤ cap) (h2 : cap ≤ maxLen) (h3 : N = 0 ∨ ∃ g off,a = some ⟨g,off,none⟩) :
  Calls Tryz.prog 184 #[.slice a N cap] w fun e w' => e = .returned (plV (plOf (.slice a N cap))) ∧ Below w.heap.size w w' := by
 unfold maxLen at h2
 by_cases hN : N = 0
 ·subst hN
  go_enter Tryz.func184,Tryz.ntmps184
  go_wp2_with fail;refine bodyPost_ret (results_cell rfl _ _ _ ⟨w.heap.size,0,none⟩ (.agg #[.pointer none,.int .i64 0]) (by go_simp) (by go_simp)) rfl ⟨by simp [plV,plOf],bra _⟩
 ·obtain ⟨g,off,rfl⟩ : ∃ g off,a = some ⟨g,off,none⟩ := by
   rcases h3 with h | h
   ·exact absurd h hN
   ·exact h
  have hd : ((N : Int) == 0) = false := by simp; omega
  have hp : 0 < N := by omega
  go_enter Tryz.func184,Tryz.ntmps184
  go_wp2_with fail;refine bodyPost_ret (results_cell rfl _ _ _ ⟨w.heap.size,0,none⟩ (.agg #[.pointer (some ⟨g,off,none⟩),.int .i64 (N : Int)]) (by go_simp) (by go_simp)) rfl ⟨by simp [plV,plOf,hN],bra _⟩
theorem eplaceR_any (a : Option Addr) (N cap : Nat) (w : World) (h1 : N ≤ cap) (h2 : cap ≤ maxLen) (h3 : N = 0 ∨ ∃ g off,a = some ⟨g,off,none⟩) :
  Calls Tryz.prog 185 #[.slice a N cap] w fun e w' => e = .returned (plV (plOf (.slice a N cap))) ∧ Below w.heap.size w w' := by
 unfold maxLen at h2
 by_cases hN : N = 0
 ·subst hN
  go_enter Tryz.func185,Tryz.ntmps185
  go_wp2_with fail;refine bodyPost_ret (results_cell rfl _ _ _ ⟨w.heap.size,0,none⟩ (.agg #[.pointer none,.int .i64 0]) (by go_simp) (by go_simp)) rfl ⟨by simp [plV,plOf],bra _⟩
 ·obtain ⟨g,off,rfl⟩ : ∃ g off,a = some ⟨g,off,none⟩ := by
   rcases h3 with h | h
   ·exact absurd h hN
   ·exact h
  have hd : ((N : Int) == 0) = false := by simp; omega
  have hp : 0 < N := by omega
  go_enter Tryz.func185,Tryz.ntmps185
  go_wp2_with fail;refine bodyPost_ret (results_cell rfl _ _ _ ⟨w.heap.size,0,none⟩ (.agg #[.pointer (some ⟨g,off,none⟩),.int .i64 (N : Int)]) (by go_simp) (by go_simp)) rfl ⟨by simp [plV,plOf,hN],bra _⟩
theorem eidentity_any (K N : Int) (S : ByteArray) (a1 a2 : Option Addr) (n1 c1 n2 c2 : Nat) (w : World) (h1 : n1 ≤ c1) (h2 : c1 ≤ maxLen) (h3 : n1 = 0 ∨ ∃ g off,a1 = some ⟨g,off,none⟩) (h4 : n2 ≤ c2) (h5 : c2 ≤ maxLen) (h6 : n2 = 0 ∨ ∃ g off,a2 = some ⟨g,off,none⟩) :
  Calls Tryz.prog 167 #[.agg #[.int .i64 K,.int .i64 N,.string S,.slice a1 n1 c1,.slice a2 n2 c2]] w fun e w' => e = .returned (idV (plOf (.slice a1 n1 c1),plOf (.slice a2 n2 c2))) ∧ Below w.heap.size w w' := by
 obtain ⟨⟨p1,m1⟩,hp1⟩ : ∃ x,plOf (.slice a1 n1 c1) = x := ⟨_,rfl⟩;obtain ⟨⟨p2,m2⟩,hp2⟩ : ∃ x,plOf (.slice a2 n2 c2) = x := ⟨_,rfl⟩
 have HE : Hid (∀ W,Calls Tryz.prog 184 #[.slice a1 n1 c1] W fun e w' => e = .returned (.agg #[.pointer p1,.int .i64 (m1 : Int)]) ∧ Below W.heap.size W w') := fun W => by
  have := eplaceE_any a1 n1 c1 W h1 h2 h3;rw [hp1] at this;exact this
 have HR : Hid (∀ W,Calls Tryz.prog 185 #[.slice a2 n2 c2] W fun e w' => e = .returned (.agg #[.pointer p2,.int .i64 (m2 : Int)]) ∧ Below W.heap.size W w') := fun W => by
  have := eplaceR_any a2 n2 c2 W h4 h5 h6;rw [hp2] at this;exact this
 rw [hp1,hp2];clear hp1 hp2 h1 h2 h3 h4 h5 h6;have B0 : Blk ((w.alloc (Obj.cells #[.int .i64 K,.int .i64 N,.string S,.slice a1 n1 c1,.slice a2 n2 c2] 33)).alloc (Obj.cells #[.pointer none,.int .i64 0,.pointer none,.int .i64 0] 222)) w.heap.size #[.int .i64 K,.int .i64 N,.string S,.slice a1 n1 c1,.slice a2 n2 c2] 33 := (Blk.new w _ _).below (bra _)
 have B1 : Blk ((w.alloc (Obj.cells #[.int .i64 K,.int .i64 N,.string S,.slice a1 n1 c1,.slice a2 n2 c2] 33)).alloc (Obj.cells #[.pointer none,.int .i64 0,.pointer none,.int .i64 0] 222)) (w.heap.size + 1) #[.pointer none,.int .i64 0,.pointer none,.int .i64 0] 222 := by
  have := Blk.new (w.alloc (Obj.cells #[.int .i64 K,.int .i64 N,.string S,.slice a1 n1 c1,.slice a2 n2 c2] 33)) #[.pointer none,.int .i64 0,.pointer none,.int .i64 0] 222
  rwa [show (w.alloc (Obj.cells #[.int .i64 K,.int .i64 N,.string S,.slice a1 n1 c1,.slice a2 n2 c2] 33)).heap.size = w.heap.size + 1 from by simp] at this
 have hb : Below w.heap.size w ((w.alloc (Obj.cells #[.int .i64 K,.int .i64 N,.string S,.slice a1 n1 c1,.slice a2 n2 c2] 33)).alloc (Obj.cells #[.pointer none,.int .i64 0,.pointer none,.int .i64 0] 222)) := (bra _).alloc (by simp) _
 go_enter Tryz.func167,Tryz.ntmps167
 go_wp2_with fail;generalize ((w.alloc (Obj.cells #[.int .i64 K,.int .i64 N,.string S,.slice a1 n1 c1,.slice a2 n2 c2] 33)).alloc (Obj.cells #[.pointer none,.int .i64 0,.pointer none,.int .i64 0] 222)) = W0 at *;obtain ⟨b0,hb0⟩ : ∃ b,w.heap.size = b := ⟨_,rfl⟩;have HBZ : Hid (w.heap.size = b0) := hb0;rw [hb0] at B0 B1;simp only [hb0];clear hb0;have hTb : ∀ W,Below W0.heap.size W0 W → W.cell? ⟨b0,3,none⟩ = some (.slice a1 n1 c1) ∧ W.cell? ⟨b0,4,none⟩ = some (.slice a2 n2 c2) := fun W hW => ⟨(B0.below hW).cell 3,(B0.below hW).cell 4⟩
 refine M_region (T := fun W => W.cell? ⟨b0,3,none⟩ = some (.slice a1 n1 c1) ∧ W.cell? ⟨b0,4,none⟩ = some (.slice a2 n2 c2)) (m := 7) (by kernel_rfl) ?_;have hd : Below W0.heap.size W0 W0.drew := (Below.refl _ _).drew;have hS := hTb _ hd;refine M_tk 0 3 (.pointer (some ⟨b0,3,none⟩)) (fun w' hw' => ?_) hS (bts 8 1) ?_
 ·go_simp
 refine M_tk 1 4 (.slice a1 n1 c1) (fun w' hw' => ?_) hS (bts 8 3) ?_
 ·obtain ⟨f3,f4⟩ := hw'; go_simp
 refine M_tk 3 6 (.pointer (some ⟨b0,4,none⟩)) (fun w' hw' => ?_) hS (bts 8 11) ?_
 ·go_simp
 refine M_tk 4 7 (.slice a2 n2 c2) (fun w' hw' => ?_) hS (bts 8 27) ?_
 ·obtain ⟨f3,f4⟩ := hw'; go_simp
 refine M_cl 2 5 184 #[.slice a1 n1 c1] (bts 8 31) rfl (fun W => by go_simp) ?_;refine (HE.out _).mono ?_;rintro e W1 ⟨rfl,hb1⟩;have hd1 : Below W0.heap.size W0 W1 := hd.trans (hb1.mono hd.size);have hS := hTb _ hd1;refine ⟨_,rfl,hS,?_⟩;simp only [zsA,zsZ,zsS];refine M_cl 5 8 185 #[.slice a2 n2 c2] (bts 8 63) rfl (fun W => by go_simp) ?_;refine (HR.out _).mono ?_;rintro e W2 ⟨rfl,hb2⟩;have hd2 : Below W0.heap.size W0 W2 := hd1.trans (hb2.mono hd1.size);have hS := hTb _ hd2;refine ⟨_,rfl,hS,?_⟩;simp only [zsA,zsZ,zsS];refine M_tk 6 9 (.agg #[.pointer p1,.int .i64 (m1 : Int),.pointer p2,.int .i64 (m2 : Int)]) (fun w' hw' => ?_) hS (bts 8 127) ?_
 ·go_simp
 have BR := B1.below hd2;have r0 := (BR.cell 0).trans rfl;have z0 := BR.froz 0;have r1 := (BR.cell 1).trans rfl;have z1 := BR.froz 1;have r2 := (BR.cell 2).trans rfl;have z2 := BR.froz 2;have r3 := (BR.cell 3).trans rfl;have z3 := BR.froz 3;refine M_st 7 ((((W2.setCell ⟨b0 + 1,0,none⟩ (.pointer p1)).setCell ⟨b0 + 1,1,none⟩ (.int .i64 (m1 : Int))).setCell ⟨b0 + 1,2,none⟩ (.pointer p2)).setCell ⟨b0 + 1,3,none⟩ (.int .i64 (m2 : Int))) (bts 8 255) rfl (by go_simp) ?_;refine M_done (by kernel_rfl) ?_ _;have BR0 : Blk (W2.setCell ⟨b0 + 1,0,none⟩ (.pointer p1)) (b0 + 1) #[.pointer p1,.int .i64 0,.pointer none,.int .i64 0] 222 := BR.set 0 _ rfl;have BR1 : Blk ((W2.setCell ⟨b0 + 1,0,none⟩ (.pointer p1)).setCell ⟨b0 + 1,1,none⟩ (.int .i64 (m1 : Int))) (b0 + 1) #[.pointer p1,.int .i64 (m1 : Int),.pointer none,.int .i64 0] 222 := BR0.set 1 _ rfl;have BR2 : Blk (((W2.setCell ⟨b0 + 1,0,none⟩ (.pointer p1)).setCell ⟨b0 + 1,1,none⟩ (.int .i64 (m1 : Int))).setCell ⟨b0 + 1,2,none⟩ (.pointer p2)) (b0 + 1) #[.pointer p1,.int .i64 (m1 : Int),.pointer p2,.int .i64 0] 222 := BR1.set 2 _ rfl;have BR3 : Blk ((((W2.setCell ⟨b0 + 1,0,none⟩ (.pointer p1)).setCell ⟨b0 + 1,1,none⟩ (.int .i64 (m1 : Int))).setCell ⟨b0 + 1,2,none⟩ (.pointer p2)).setCell ⟨b0 + 1,3,none⟩ (.int .i64 (m2 : Int))) (b0 + 1) #[.pointer p1,.int .i64 (m1 : Int),.pointer p2,.int .i64 (m2 : Int)] 222 := BR2.set 3 _ rfl;have hbe : Below w.heap.size w W2 := hb.trans (hd2.mono hb.size);have hbe0 : Below w.heap.size w (W2.setCell ⟨b0 + 1,0,none⟩ (.pointer p1)) := Below.setCell (p := ⟨b0 + 1,0,none⟩) hbe (by have := HBZ.out; show w.heap.size ≤ b0 + 1; omega) _;have hbe1 : Below w.heap.size w ((W2.setCell ⟨b0 + 1,0,none⟩ (.pointer p1)).setCell ⟨b0 + 1,1,none⟩ (.int .i64 (m1 : Int))) := Below.setCell (p := ⟨b0 + 1,1,none⟩) hbe0 (by have := HBZ.out; show w.heap.size ≤ b0 + 1; omega) _;have hbe2 : Below w.heap.size w (((W2.setCell ⟨b0 + 1,0,none⟩ (.pointer p1)).setCell ⟨b0 + 1,1,none⟩ (.int .i64 (m1 : Int))).setCell ⟨b0 + 1,2,none⟩ (.pointer p2)) := Below.setCell (p := ⟨b0 + 1,2,none⟩) hbe1 (by have := HBZ.out; show w.heap.size ≤ b0 + 1; omega) _;have hbe3 : Below w.heap.size w ((((W2.setCell ⟨b0 + 1,0,none⟩ (.pointer p1)).setCell ⟨b0 + 1,1,none⟩ (.int .i64 (m1 : Int))).setCell ⟨b0 + 1,2,none⟩ (.pointer p2)).setCell ⟨b0 + 1,3,none⟩ (.int .i64 (m2 : Int))) := Below.setCell (p := ⟨b0 + 1,3,none⟩) hbe2 (by have := HBZ.out; show w.heap.size ≤ b0 + 1; omega) _;clear r0 z0 r1 z1 r2 z2 r3 z3 BR0 hbe0 BR1 hbe1 BR2 hbe2 BR hbe hS;generalize ((((W2.setCell ⟨b0 + 1,0,none⟩ (.pointer p1)).setCell ⟨b0 + 1,1,none⟩ (.int .i64 (m1 : Int))).setCell ⟨b0 + 1,2,none⟩ (.pointer p2)).setCell ⟨b0 + 1,3,none⟩ (.int .i64 (m2 : Int))) = W3 at *;obtain ⟨r0,r1,r2,r3⟩ := cl4 BR3;go_wp2_with fail;refine bodyPost_ret (results_cell rfl _ _ _ ⟨b0 + 1,0,none⟩ (.agg #[.pointer p1,.int .i64 (m1 : Int),.pointer p2,.int .i64 (m2 : Int)]) (by go_simp) (by go_simp)) rfl ⟨rfl,hbe3⟩
def cntV (K N : Int) (S : ByteArray) (ve vr : Value) : Value := if K = 1 then .iface 201 (.int .i64 N) else if K = 2 then .iface 202 (.string S) else .iface 203 (.agg #[.int .i64 K,.int .i64 N,.string S,ve,vr])
theorem content_any (K N : Int) (S : ByteArray) (a1 a2 : Option Addr) (n1 c1 n2 c2 : Nat) (w : World) :
  Calls Tryz.prog 150 #[.agg #[.int .i64 K,.int .i64 N,.string S,.slice a1 n1 c1,.slice a2 n2 c2]] w fun e w' => e = .returned (cntV K N S (.slice a1 n1 c1) (.slice a2 n2 c2)) ∧ Below w.heap.size w w' := by
 have al : Below w.heap.size w (w.alloc (Obj.cells #[.int .i64 K,.int .i64 N,.string S,.slice a1 n1 c1,.slice a2 n2 c2] 33)) := bra _
 by_cases h1 : K = 1
 ·subst h1
  go_enter Tryz.func150,Tryz.ntmps150
  go_wp2_with fail;go_ret;exact ⟨rfl,al⟩
 ·have d1 : (K == 1) = false := by simpa using h1
  by_cases h2 : K = 2
  ·subst h2
   go_enter Tryz.func150,Tryz.ntmps150
   go_wp2_with fail;go_ret;exact ⟨rfl,al⟩
  ·have d2 : (K == 2) = false := by simpa using h2
   have HV : Hid (cntV K N S (.slice a1 n1 c1) (.slice a2 n2 c2) = .iface 203 (.agg #[.int .i64 K,.int .i64 N,.string S,.slice a1 n1 c1,.slice a2 n2 c2])) := (by unfold cntV; rw [if_neg h1,if_neg h2] : cntV K N S (.slice a1 n1 c1) (.slice a2 n2 c2) = _);rw [HV.out];clear HV h1 h2
   go_enter Tryz.func150,Tryz.ntmps150
   go_wp2_with fail;go_ret;exact ⟨rfl,al⟩
def FldP (W0 : World) (R : Fd × Nat) (b : Nat) (w : World) (e : Ending) (w' : World) : Prop := e = .returned (.tuple #[R.1.val,.int .i64 (R.2 : Int)]) ∧ KnE W0 w' b ∧ Kp (fun q => q = b) w w'
def BytP (W0 : World) (R : List Nat × Nat) (b : Nat) (w : World) (e : Ending) (w' : World) : Prop := e = .returned (.tuple #[.string (strN R.1),.int .i64 (R.2 : Int)]) ∧ KnE W0 w' b ∧ Kp (fun q => q = b) w w'
theorem FldP.of {W0 : World} {R : Fd × Nat} {b : Nat} {w w' : World} {t k n : Int} {s : ByteArray} {e : Int} (h : R = (⟨t,k,n,s⟩,e.toNat)) (he : 0 ≤ e) (h1 : KnE W0 w' b) (h2 : Kp (fun q => q = b) w w') : FldP W0 R b w (.returned (.tuple #[.agg #[.int .i64 t,.int .i64 k,.int .i64 n,.string s],.int .i64 e])) w' := by
 subst h;refine ⟨?_,h1,h2⟩;simp only [Fd.val];rw [Int.toNat_of_nonneg he]
theorem efield_step (W0 : World) (b n : Nat) (x : Tr) (tag : Int) (K N : Int) (S : ByteArray) (a1 a2 : Option Addr) (n1 c1 n2 c2 : Nat) (w : World) (hx : TrW n W0 (.agg #[.int .i64 K,.int .i64 N,.string S,.slice a1 n1 c1,.slice a2 n2 c2]) x)
  (IB : ∀ W,Below W0.heap.size W0 W → KnE W0 W b → Calls Tryz.prog 151 #[.agg #[.map (some b)],.agg #[.int .i64 K,.int .i64 N,.string S,.slice a1 n1 c1,.slice a2 n2 c2]] W (BytP W0 (bytE n x) b W))
  (h0 : Below W0.heap.size W0 w) (hk : KnE W0 w b) :
  Calls Tryz.prog 119 #[.agg #[.map (some b)],.int .i64 tag,.agg #[.int .i64 K,.int .i64 N,.string S,.slice a1 n1 c1,.slice a2 n2 c2]] w (FldP W0 (flE (bytE n) tag x) b w) := by
 have hA : ∀ (T : TypeId) (v : Value) (W : World),T = 201 ∨ T = 202 ∨ T = 203 → (Instr.typeAssert (.iface T v) 20 T true).run Tryz.prog W = .ok (.tuple #[v,.bool true]) W := by
  rintro T v W (rfl | rfl | rfl) <;> kernel_rfl
 have hA1 : ∀ (v : Value) (W : World),(Instr.typeAssert (.iface 201 v) 20 201 true).run Tryz.prog W = .ok (.tuple #[v,.bool true]) W := fun v W => hA _ v W (.inl rfl)
 have hA2 : ∀ (v : Value) (W : World),(Instr.typeAssert (.iface 202 v) 20 202 true).run Tryz.prog W = .ok (.tuple #[v,.bool true]) W := fun v W => hA _ v W (.inr (.inl rfl))
 have hA3 : ∀ (v : Value) (W : World),(Instr.typeAssert (.iface 203 v) 20 203 true).run Tryz.prog W = .ok (.tuple #[v,.bool true]) W := fun v W => hA _ v W (.inr (.inr rfl))
 have hF2 : ∀ (v : Value) (W : World),(Instr.typeAssert (.iface 202 v) 20 201 true).run Tryz.prog W = .ok (.tuple #[.int .i64 0,.bool false]) W := fun v W => by kernel_rfl
 have hF3 : ∀ (v : Value) (W : World),(Instr.typeAssert (.iface 203 v) 20 201 true).run Tryz.prog W = .ok (.tuple #[.int .i64 0,.bool false]) W := fun v W => by kernel_rfl
 have hF4 : ∀ (v : Value) (W : World),(Instr.typeAssert (.iface 203 v) 20 202 true).run Tryz.prog W = .ok (.tuple #[.string ⟨#[]⟩,.bool false]) W := fun v W => by kernel_rfl
 obtain ⟨k1,k2,k3, -, -⟩ := hx.parts;obtain ⟨R,hR⟩ : ∃ R,flE (bytE n) tag x = R := ⟨_,rfl⟩;rw [hR];have HR : Hid (flE (bytE n) tag x = R) := hR;have HX : Hid (x.kind = K ∧ x.n = N ∧ x.s = S) := ⟨k1,k2,k3⟩;have HC : Hid (∀ W,Calls Tryz.prog 150 #[.agg #[.int .i64 K,.int .i64 N,.string S,.slice a1 n1 c1,.slice a2 n2 c2]] W fun e w' => e = .returned (cntV K N S (.slice a1 n1 c1) (.slice a2 n2 c2)) ∧ Below W.heap.size W w') := fun W => content_any K N S a1 a2 n1 c1 n2 c2 W
 have HK : Hid (KnE W0 w b) := hk;have H0 : Hid (Below W0.heap.size W0 w) := h0;have HB : Hid (∀ W,Below W0.heap.size W0 W → KnE W0 W b → Calls Tryz.prog 151 #[.agg #[.map (some b)],.agg #[.int .i64 K,.int .i64 N,.string S,.slice a1 n1 c1,.slice a2 n2 c2]] W (BytP W0 (bytE n x) b W)) := IB;have hlt := hk.lt;obtain ⟨Z,hZ⟩ : ∃ Z,Z = (((w.alloc (Obj.cells #[.map (some b)] 119)).alloc (Obj.cells #[.int .i64 K,.int .i64 N,.string S,.slice a1 n1 c1,.slice a2 n2 c2] 33)).alloc (Obj.cells #[.int .i64 0,.int .i64 0,.int .i64 0,.string ⟨#[]⟩] 61)).alloc (Obj.cells #[.int .i64 tag,.int .i64 1,.int .i64 0,.string ⟨#[]⟩] 61) := ⟨_,rfl⟩;have al1 : Below w.heap.size w (w.alloc (Obj.cells #[.map (some b)] 119)) := bra _
 have BE : Blk Z w.heap.size #[.map (some b)] 119 := by
  rw [hZ];exact (((Blk.new w _ _).below (bra _)).below (bra _)).below (bra _)
 have BT : Blk Z (w.heap.size + 1) #[.int .i64 K,.int .i64 N,.string S,.slice a1 n1 c1,.slice a2 n2 c2] 33 := by
  rw [hZ];have := Blk.new (w.alloc (Obj.cells #[.map (some b)] 119)) #[.int .i64 K,.int .i64 N,.string S,.slice a1 n1 c1,.slice a2 n2 c2] 33;rw [show (w.alloc (Obj.cells #[.map (some b)] 119)).heap.size = w.heap.size + 1 from by simp] at this;exact (this.below (bra _)).below (bra _)
 have BO : Blk Z (w.heap.size + 1 + 1) #[.int .i64 0,.int .i64 0,.int .i64 0,.string ⟨#[]⟩] 61 := by
  rw [hZ];have := Blk.new ((w.alloc (Obj.cells #[.map (some b)] 119)).alloc (Obj.cells #[.int .i64 K,.int .i64 N,.string S,.slice a1 n1 c1,.slice a2 n2 c2] 33)) #[.int .i64 0,.int .i64 0,.int .i64 0,.string ⟨#[]⟩] 61;rw [show ((w.alloc (Obj.cells #[.map (some b)] 119)).alloc (Obj.cells #[.int .i64 K,.int .i64 N,.string S,.slice a1 n1 c1,.slice a2 n2 c2] 33)).heap.size = w.heap.size + 1 + 1 from by simp] at this;exact this.below (bra _)
 have BR : Blk Z (w.heap.size + 1 + 1 + 1) #[.int .i64 tag,.int .i64 1,.int .i64 0,.string ⟨#[]⟩] 61 := by
  rw [hZ];have := Blk.new (((w.alloc (Obj.cells #[.map (some b)] 119)).alloc (Obj.cells #[.int .i64 K,.int .i64 N,.string S,.slice a1 n1 c1,.slice a2 n2 c2] 33)).alloc (Obj.cells #[.int .i64 0,.int .i64 0,.int .i64 0,.string ⟨#[]⟩] 61)) #[.int .i64 tag,.int .i64 1,.int .i64 0,.string ⟨#[]⟩] 61;rw [show (((w.alloc (Obj.cells #[.map (some b)] 119)).alloc (Obj.cells #[.int .i64 K,.int .i64 N,.string S,.slice a1 n1 c1,.slice a2 n2 c2] 33)).alloc (Obj.cells #[.int .i64 0,.int .i64 0,.int .i64 0,.string ⟨#[]⟩] 61)).heap.size = w.heap.size + 1 + 1 + 1 from by simp] at this;exact this
 have hZb : Below w.heap.size w Z := by
  rw [hZ];exact (((al1.alloc (by simp) _).alloc (by simp; omega) _).alloc (by simp; omega) _)
 clear hR k1 k2 k3 hA al1 hx h0 hk IB
 go_enter Tryz.func119,Tryz.ntmps119
 go_wp2_with fail;rw [← hZ];clear hZ;refine (HC.out _).mono ?_;rintro e w2 ⟨rfl,hb2⟩;have hbw2 : Below w.heap.size w w2 := hZb.trans (hb2.mono hZb.size);have BE2 := BE.below hb2;have BT2 := BT.below hb2;have BO2 := BO.below hb2;have BR2 := BR.below hb2;have HK2 : Hid (KnE W0 w2 b) := HK.out.below hbw2;have H02 : Hid (Below W0.heap.size W0 w2) := H0.out.trans (hbw2.mono H0.out.size);clear BE BT BO BR hb2 hZb HC Z H0 HK;obtain ⟨s,hs⟩ : ∃ s,w.heap.size = s := ⟨_,rfl⟩;have HSZ : Hid (w.heap.size = s) := hs;rw [hs] at BE2 BT2 BO2 BR2 hlt;simp only [hs];clear hs;obtain ⟨o0,o1,o2,o3⟩ := cl4 BO2;obtain ⟨r0,r1,r2,r3⟩ := cl4 BR2;have zo0 := BO2.froz 0;have zo1 := BO2.froz 1;have zo2 := BO2.froz 2;have zo3 := BO2.froz 3;have zr0 := BR2.froz 0;have zr1 := BR2.froz 1;have zr2 := BR2.froz 2;have zr3 := BR2.froz 3
 by_cases h1 : K = 1
 ·subst h1;have HRV : Hid (R = (⟨tag,0,N,⟨#[]⟩⟩,0)) := (by rw [← HR.out,flE,if_pos HX.out.1,HX.out.2.1] : R = _);simp only [cntV,if_pos];clear HR HX HB;go_wp2_with fail;refine bodyPost_ret (results_two rfl _ _ _ ⟨s + 1 + 1,0,none⟩ (.agg #[.int .i64 tag,.int .i64 0,.int .i64 N,.string ⟨#[]⟩]) (by go_simp) (by go_simp)) rfl (FldP.of HRV.out (by decide) ?_ ?_)
  ·refine KnE.kp (S := fun q => q = s + 1 + 1 ∨ q = s + 1 + 1 + 1) HK2.out ?_ (by omega);refine Kp.setCell ?_ (fun _ => by simp) _;refine Kp.setCell ?_ (fun _ => by simp) _;refine Kp.setCell ?_ (fun _ => by simp) _;refine Kp.setCell ?_ (fun _ => by simp) _;refine Kp.setCell ?_ (fun _ => by simp) _;refine Kp.setCell ?_ (fun _ => by simp) _;exact Kp.refl _ _
  ·refine Kp.setCell ?_ (fun h => absurd h (by have := HSZ.out; simp only; omega)) _;refine Kp.setCell ?_ (fun h => absurd h (by have := HSZ.out; simp only; omega)) _;refine Kp.setCell ?_ (fun h => absurd h (by have := HSZ.out; simp only; omega)) _;refine Kp.setCell ?_ (fun h => absurd h (by have := HSZ.out; simp only; omega)) _;refine Kp.setCell ?_ (fun h => absurd h (by have := HSZ.out; simp only; omega)) _;refine Kp.setCell ?_ (fun h => absurd h (by have := HSZ.out; simp only; omega)) _;exact Kp.ofBelow hbw2
 ·by_cases h2 : K = 2
  ·subst h2;simp only [cntV,if_neg (show ¬ (2 : Int) = 1 by decide),if_pos]
   by_cases h3 : 4096 < S.size
   ·have HRV : Hid (R = (⟨0,0,0,⟨#[]⟩⟩,4)) := (by rw [← HR.out,flE,if_neg (by rw [HX.out.1]; decide),if_pos HX.out.1,HX.out.2.2,if_pos h3]; rfl : R = _);clear HR HX HB;go_wp2_with fail;refine bodyPost_ret (results_two rfl _ _ _ ⟨s + 1 + 1,0,none⟩ (.agg #[.int .i64 0,.int .i64 0,.int .i64 0,.string ⟨#[]⟩]) (by go_simp) (by go_simp)) rfl (FldP.of HRV.out (by decide) ?_ ?_)
    ·refine KnE.kp (S := fun q => q = s + 1 + 1 ∨ q = s + 1 + 1 + 1) HK2.out ?_ (by omega);refine Kp.setCell ?_ (fun _ => by simp) _;refine Kp.setCell ?_ (fun _ => by simp) _;refine Kp.setCell ?_ (fun _ => by simp) _;refine Kp.setCell ?_ (fun _ => by simp) _;exact Kp.refl _ _
    ·refine Kp.setCell ?_ (fun h => absurd h (by have := HSZ.out; simp only; omega)) _;refine Kp.setCell ?_ (fun h => absurd h (by have := HSZ.out; simp only; omega)) _;refine Kp.setCell ?_ (fun h => absurd h (by have := HSZ.out; simp only; omega)) _;refine Kp.setCell ?_ (fun h => absurd h (by have := HSZ.out; simp only; omega)) _;exact Kp.ofBelow hbw2
   ·have HRV : Hid (R = (⟨tag,1,0,S⟩,0)) := (by rw [← HR.out,flE,if_neg (by rw [HX.out.1]; decide),if_pos HX.out.1,HX.out.2.2,if_neg h3] : R = _);clear HR HX HB;go_wp2_with fail;refine bodyPost_ret (results_two rfl _ _ _ ⟨s + 1 + 1,0,none⟩ (.agg #[.int .i64 tag,.int .i64 1,.int .i64 0,.string S]) (by go_simp) (by go_simp)) rfl (FldP.of HRV.out (by decide) ?_ ?_)
    ·refine KnE.kp (S := fun q => q = s + 1 + 1 ∨ q = s + 1 + 1 + 1) HK2.out ?_ (by omega);refine Kp.setCell ?_ (fun _ => by simp) _;refine Kp.setCell ?_ (fun _ => by simp) _;refine Kp.setCell ?_ (fun _ => by simp) _;refine Kp.setCell ?_ (fun _ => by simp) _;refine Kp.setCell ?_ (fun _ => by simp) _;exact Kp.refl _ _
    ·refine Kp.setCell ?_ (fun h => absurd h (by have := HSZ.out; simp only; omega)) _;refine Kp.setCell ?_ (fun h => absurd h (by have := HSZ.out; simp only; omega)) _;refine Kp.setCell ?_ (fun h => absurd h (by have := HSZ.out; simp only; omega)) _;refine Kp.setCell ?_ (fun h => absurd h (by have := HSZ.out; simp only; omega)) _;refine Kp.setCell ?_ (fun h => absurd h (by have := HSZ.out; simp only; omega)) _;exact Kp.ofBelow hbw2
  ·have HRV : Hid (R = if (bytE n x).2 ≠ 0 then (fd0,(bytE n x).2) else (⟨tag,1,0,strN (bytE n x).1⟩,0)) := (by rw [← HR.out,flE,if_neg (by rw [HX.out.1]; exact h1),if_neg (by rw [HX.out.1]; exact h2)] : R = _);simp only [cntV,if_neg h1,if_neg h2];have al3 : Below w2.heap.size w2 (w2.alloc (Obj.cells #[.int .i64 K,.int .i64 N,.string S,.slice a1 n1 c1,.slice a2 n2 c2] 203)) := bra _;have BE3 := BE2.below al3;have BO3 := BO2.below al3;have BR3 := BR2.below al3;have HK3 : Hid (KnE W0 (w2.alloc (Obj.cells #[.int .i64 K,.int .i64 N,.string S,.slice a1 n1 c1,.slice a2 n2 c2] 203)) b) := HK2.out.below al3;have H03 : Hid (Below W0.heap.size W0 (w2.alloc (Obj.cells #[.int .i64 K,.int .i64 N,.string S,.slice a1 n1 c1,.slice a2 n2 c2] 203))) := H02.out.trans (al3.mono H02.out.size);have hbw3 : Below w.heap.size w (w2.alloc (Obj.cells #[.int .i64 K,.int .i64 N,.string S,.slice a1 n1 c1,.slice a2 n2 c2] 203)) := hbw2.trans (al3.mono hbw2.size);have e0 := (BE3.cell 0).trans rfl;have HBC : Hid (Calls Tryz.prog 151 #[.agg #[.map (some b)],.agg #[.int .i64 K,.int .i64 N,.string S,.slice a1 n1 c1,.slice a2 n2 c2]] (w2.alloc (Obj.cells #[.int .i64 K,.int .i64 N,.string S,.slice a1 n1 c1,.slice a2 n2 c2] 203)) (BytP W0 (bytE n x) b (w2.alloc (Obj.cells #[.int .i64 K,.int .i64 N,.string S,.slice a1 n1 c1,.slice a2 n2 c2] 203)))) := HB.out _ H03.out HK3.out;clear HR HX HB al3 BE2 BT2 BO2 BR2 HK2 H02 hbw2 h1 h2 o0 o1 o2 o3 r0 r1 r2 r3 zo0 zo1 zo2 zo3 zr0 zr1 zr2 zr3;go_wp2_with fail;refine Calls.mono HBC.out ?_;rintro ee w4 ⟨rfl,hk4,hkp4⟩;generalize (w2.alloc (Obj.cells #[.int .i64 K,.int .i64 N,.string S,.slice a1 n1 c1,.slice a2 n2 c2] 203)) = w3 at *;have HK4 : Hid (KnE W0 w4 b) := hk4;have HKP : Hid (Kp (fun q => q = b) w w4) := (Kp.ofBelow hbw3).trans hkp4;have BO4 := BO3.kp hkp4 (by omega);have BR4 := BR3.kp hkp4 (by omega);generalize bytE n x = q at *;obtain ⟨ns,er⟩ := q;simp only at HRV ⊢;generalize strN ns = T at *;obtain ⟨o0,o1,o2,o3⟩ := cl4 BO4;obtain ⟨r0,r1,r2,r3⟩ := cl4 BR4;have zo0 := BO4.froz 0;have zo1 := BO4.froz 1;have zo2 := BO4.froz 2;have zo3 := BO4.froz 3;have zr3 := BR4.froz 3;clear hk4 hkp4 BE3 BO3 BR3 HK3 H03 hbw3 e0 HBC BO4 BR4
   by_cases he : er = 0
   ·subst he;have HRV2 : Hid (R = (⟨tag,1,0,T⟩,0)) := (by rw [HRV.out,if_neg (by simp)] : R = _);clear HRV;go_wp2_with fail;refine bodyPost_ret (results_two rfl _ _ _ ⟨s + 1 + 1,0,none⟩ (.agg #[.int .i64 tag,.int .i64 1,.int .i64 0,.string T]) (by go_simp) (by go_simp)) rfl (FldP.of HRV2.out (by decide) ?_ ?_)
    ·refine KnE.kp (S := fun q => q = s + 1 + 1 ∨ q = s + 1 + 1 + 1) HK4.out ?_ (by omega);refine Kp.setCell ?_ (fun _ => by simp) _;refine Kp.setCell ?_ (fun _ => by simp) _;refine Kp.setCell ?_ (fun _ => by simp) _;refine Kp.setCell ?_ (fun _ => by simp) _;refine Kp.setCell ?_ (fun _ => by simp) _;exact Kp.refl _ _
    ·refine Kp.setCell ?_ (fun h => absurd h (by have := HSZ.out; simp only; omega)) _;refine Kp.setCell ?_ (fun h => absurd h (by have := HSZ.out; simp only; omega)) _;refine Kp.setCell ?_ (fun h => absurd h (by have := HSZ.out; simp only; omega)) _;refine Kp.setCell ?_ (fun h => absurd h (by have := HSZ.out; simp only; omega)) _;refine Kp.setCell ?_ (fun h => absurd h (by have := HSZ.out; simp only; omega)) _;exact HKP.out
   ·have hd : ((er : Int) != 0) = true := by simp; omega
    have HRV2 : Hid (R = (⟨0,0,0,⟨#[]⟩⟩,((er : Int)).toNat)) := (by rw [HRV.out,if_pos he]; rfl : R = _);clear HRV he;go_wp2_with fail;refine bodyPost_ret (results_two rfl _ _ _ ⟨s + 1 + 1,0,none⟩ (.agg #[.int .i64 0,.int .i64 0,.int .i64 0,.string ⟨#[]⟩]) (by go_simp) (by go_simp)) rfl (FldP.of HRV2.out (by omega) ?_ ?_)
    ·refine KnE.kp (S := fun q => q = s + 1 + 1 ∨ q = s + 1 + 1 + 1) HK4.out ?_ (by omega);refine Kp.setCell ?_ (fun _ => by simp) _;refine Kp.setCell ?_ (fun _ => by simp) _;refine Kp.setCell ?_ (fun _ => by simp) _;refine Kp.setCell ?_ (fun _ => by simp) _;exact Kp.refl _ _
    ·refine Kp.setCell ?_ (fun h => absurd h (by have := HSZ.out; simp only; omega)) _;refine Kp.setCell ?_ (fun h => absurd h (by have := HSZ.out; simp only; omega)) _;refine Kp.setCell ?_ (fun h => absurd h (by have := HSZ.out; simp only; omega)) _;refine Kp.setCell ?_ (fun h => absurd h (by have := HSZ.out; simp only; omega)) _;exact HKP.out
theorem ret_boolF {a b : Bool} (h : a = b) : Ending.returned (.bool a) = .returned (.bool b) := by rw [h]
theorem checkV_any (t k n : Int) (b : ByteArray) (w : World) :
  Calls Tryz.prog 45 #[.agg #[.int .i64 t,.int .i64 k,.int .i64 n,.string b]] w fun e w' => e = .returned (.bool (okV t k n b)) ∧ Below w.heap.size w w' := by
 by_cases h1 : 1 ≤ t
 ·by_cases h2 : t ≤ 500
  ·by_cases hk : k = 0
   ·subst hk
    go_enter Tryz.func45,Tryz.ntmps45
    go_wp2_with fail
    all_goals
     go_ret;exact ⟨ret_boolF (by simp [okV,h1,h2]),bra _⟩
   ·by_cases hk1 : k = 1
    ·subst hk1
     by_cases hn : n = 0
     ·subst hn
      go_enter Tryz.func45,Tryz.ntmps45
      go_wp2_with fail
      all_goals
       go_ret;exact ⟨ret_boolF (by simp [okV,h1,h2]),bra _⟩
     ·go_enter Tryz.func45,Tryz.ntmps45
      go_wp2_with fail
      all_goals
       go_ret;exact ⟨ret_boolF (by simp [okV,hn]),bra _⟩
    ·have e0 : (k == 0) = false := by simp [hk]
     have e1 : (k == 1) = false := by simp [hk1]
     go_enter Tryz.func45,Tryz.ntmps45
     go_wp2_with fail
     all_goals
      go_ret;exact ⟨ret_boolF (by simp [okV,hk,hk1]),bra _⟩
  ·have hok : okV t k n b = false := by simp [okV]; omega
   rw [hok];clear hok
   have hd : decide (t < 1) = false := by simp; omega
   have hd5 : decide (500 < t) = true := by simp; omega
   go_enter Tryz.func45,Tryz.ntmps45
   go_wp2_with fail
   all_goals
    go_ret;exact ⟨rfl,bra _⟩
 ·have hok : okV t k n b = false := by simp [okV]; omega
  rw [hok];clear hok
  have hd : decide (t < 1) = true := by simp; omega
  go_enter Tryz.func45,Tryz.ntmps45
  go_wp2_with fail
  all_goals
   go_ret;exact ⟨rfl,bra _⟩
theorem wchk_any (r : Fd) (w : World) : Calls Tryz.prog 45 #[r.val] w fun e w' => e = .returned (.bool (okF r)) ∧ Below w.heap.size w w' := checkV_any _ _ _ _ w
theorem field_num (t : Nat) (n : Int) (b : ByteArray) (w : World) (h1 : 1 ≤ t) (h2 : t ≤ 500) (h3 : -9223372036854775808 ≤ n) (h4 : n ≤ 9223372036854775807) :
  Calls Tryz.prog 46 #[.agg #[.int .i64 (t : Int),.int .i64 0,.int .i64 n,.string b]] w fun e w' => ∃ v,e = .returned v ∧
   w'.ownsRow w.heap.size 5 1 v (digs (2 * t) ++ digs (zigN n).toNat).length (byteCells (digs (2 * t) ++ digs (zigN n).toNat)) ∧ Below w.heap.size w w' := by
 have hz := zigN_bd n h3 h4;have l1 := digs_len64 (2 * t) (by omega);obtain ⟨R,hR⟩ : ∃ R,digs (2 * t) ++ digs (zigN n).toNat = R := ⟨_,rfl⟩;rw [hR];have HR : Hid (digs (2 * t) ++ digs (zigN n).toNat = R) := hR;clear hR
 go_enter Tryz.func46,Tryz.ntmps46
 go_wp2_with fail;refine (put_nil (2 * t) _ (by omega) _ (by omega)).mono ?_;rintro e w1 ⟨g,cap,rfl,hg1,hg2,hc,hm,hh,hb⟩;have hb0 : Below w.heap.size w w1 := (below_one w _).trans (hb.mono (by simp));generalize digs (2 * t) = ds at *
 have hcell : w1.cell? ⟨w.heap.size,1,none⟩ = some (.int .i64 0) := by rw [hb.cell (by simp)]; simp
 have hcell2 : w1.cell? ⟨w.heap.size,2,none⟩ = some (.int .i64 n) := by rw [hb.cell (by simp)]; simp
 have HH : Hid (Holds w1 (some ⟨g,0,none⟩) ds) := hh;have HB : Hid (Below w.heap.size w w1) := hb0;obtain ⟨N,hN⟩ : ∃ N,ds.length = N := ⟨_,rfl⟩;rw [hN] at hc l1 ⊢;have HN : Hid (ds.length = N) := hN;clear hh hb hb0 hN;go_wp2_with fail;refine (zig_any n _ h3 h4).mono ?_;rintro e w2 ⟨rfl,rfl⟩;obtain ⟨z,hzz⟩ := Int.eq_ofNat_of_zero_le hz.1
 have HR2 : Hid (ds ++ digs z = R) := by show _ = _; rw [← HR.out,hzz,Int.toNat_natCast]
 rw [hzz] at hz ⊢;clear hzz HR;go_wp2_with fail;have hp := put_any (some ⟨g,0,none⟩) ds cap z w2 (fun h => by cases h) (by rw [HN.out]; exact hc) hm (by rw [HN.out]; omega) HH.out (by omega);rw [HN.out] at hp;refine hp.mono ?_;rintro e w3 ⟨r,rfl,ho,hb3⟩;have hws := HB.out.size
 have HO : Hid (w3.ownsRow w.heap.size 5 1 r R.length (byteCells R)) := by rw [← HR2.out]; exact own_mono ho hws
 have HB3 : Hid (Below w.heap.size w w3) := HB.out.trans (hb3.mono hws);clear hp ho hb3 HB;go_wp2_with fail;go_ret;exact ⟨_,rfl,HO.out,HB3.out⟩
theorem field_text (t : Nat) (n : Int) (b : ByteArray) (w : World) (h1 : 1 ≤ t) (h2 : t ≤ 500) (h3 : b.size ≤ 4096) :
  Calls Tryz.prog 46 #[.agg #[.int .i64 (t : Int),.int .i64 1,.int .i64 n,.string b]] w fun e w' => ∃ v,e = .returned v ∧
   w'.ownsRow w.heap.size 5 1 v (digs (2 * t + 1) ++ (digs b.size ++ bytesN b)).length (byteCells (digs (2 * t + 1) ++ (digs b.size ++ bytesN b))) ∧ Below w.heap.size w w' := by
 obtain ⟨i0,hi,hz0,hz1,hz2⟩ := info_parts infoByte;have l1 := digs_len64 (2 * t + 1) (by omega);have HL2 : Hid ((digs b.size).length ≤ 10) := (digs_len64 b.size (by omega)).2
 have HW : Hid (IntKind.u64.wrap (b.size : Int) = (b.size : Int)) := by show _ = _; rw [IntKind.wrap_u64]; omega
 obtain ⟨R,hR⟩ : ∃ R,digs (2 * t + 1) ++ (digs b.size ++ bytesN b) = R := ⟨_,rfl⟩;rw [hR];have HR : Hid (digs (2 * t + 1) ++ (digs b.size ++ bytesN b) = R) := hR;clear hR
 go_enter Tryz.func46,Tryz.ntmps46
 go_wp2_with fail;refine (put_nil (2 * t + 1) _ (by omega) _ (by omega)).mono ?_;rintro e w1 ⟨g,cap,rfl,hg1,hg2,hc,hm,hh,hb⟩;have hb0 : Below w.heap.size w w1 := (below_one w _).trans (hb.mono (by simp));generalize digs (2 * t + 1) = ds at *
 have hcell : w1.cell? ⟨w.heap.size,1,none⟩ = some (.int .i64 1) := by rw [hb.cell (by simp)]; simp
 have HC3 : Hid (w1.cell? ⟨w.heap.size,3,none⟩ = some (.string b)) := by show _ = _; rw [hb.cell (by simp)]; simp
 have HH : Hid (Holds w1 (some ⟨g,0,none⟩) ds) := hh;have HB : Hid (Below w.heap.size w w1) := hb0
 have hlt : w.heap.size < w1.heap.size := by have := hb.size; simp at this; omega
 obtain ⟨N,hN⟩ : ∃ N,ds.length = N := ⟨_,rfl⟩;rw [hN] at hc l1 ⊢;have HN : Hid (ds.length = N) := hN;clear hh hb hb0 hN;go_wp2_with fail;have hS : Below w1.heap.size w1 w1.drew := (Below.refl _ _).drew
 have HCC : Hid (∀ W,Below w1.heap.size w1 W → W.cell? ⟨w.heap.size,3,none⟩ = some (.string b)) := fun W hW => by rw [hW.cell hlt]; exact HC3.out
 refine wp_region_held_drew (S := fun w' => Below w1.heap.size w1 w') (by kernel_rfl) hS (fun hS => ?_);refine rg_tk 0 20 (.slice (some ⟨g,0,none⟩) N cap) (fun w' hw' => ?_) hS (bts 10 1) ?_
 ·go_simp
 refine rg_tk 1 21 (.pointer (some ⟨w.heap.size,3,none⟩)) (fun w' hw' => ?_) hS (bts 10 3) ?_
 ·go_simp
 refine rg_tk 2 22 (.string b) (fun w' hw' => ?_) hS (bts 10 7) ?_
 ·have hcv := HCC.out w' hw'; go_simp
 refine rg_tk 3 23 (.int .i64 (b.size : Int)) (fun w' hw' => ?_) hS (bts 10 15) ?_
 ·go_simp
 refine rg_tk 4 24 (.int .u64 (b.size : Int)) (fun w' hw' => ?_) hS (bts 10 31) ?_
 ·have hwr := HW.out; go_simp
 refine rg_tk 6 26 (.pointer (some ⟨w.heap.size,3,none⟩)) (fun w' hw' => ?_) hS (bts 10 95) ?_
 ·go_simp
 refine rg_tk 7 27 (.string b) (fun w' hw' => ?_) hS (bts 10 223) ?_
 ·have hcv := HCC.out w' hw'; go_simp
 refine rg_cl 5 25 90 #[.slice (some ⟨g,0,none⟩) N cap,.int .u64 (b.size : Int)] (bts 10 255) rfl (fun w' => ?_) ?_
 ·go_simp
 have hp := put_any (some ⟨g,0,none⟩) ds cap b.size w1.drew (fun h => by cases h) (by rw [HN.out]; exact hc) hm (by rw [HN.out]; omega) (HH.out.below hS) (by omega);rw [HN.out] at hp;refine hp.mono ?_;rintro e w3 ⟨r,rfl,ho,hb3⟩;have hS3 : Below w1.heap.size w1 w3 := hS.trans (hb3.mono hS.size);refine ⟨_,rfl,hS3,?_⟩;have ho3 := own_mono ho (Nat.le_trans HB.out.size hS.size);obtain ⟨v',w4,hr,h24,h34,_⟩ := Lib.run_append_own_string (P := Tryz.prog) w3 w.heap.size 27 9 27 5 i0 Tryz.underlying27 Tryz.underlying9 hi hz0 hz1 hz2 r _ _ ho3 b (by have := HL2.out; have := HN.out; unfold maxLen; simp; omega) (by have := HL2.out; have := HN.out; simp; omega) (Nat.le_trans HB.out.size hS3.size);have hS4 : Below w1.heap.size w1 w4 := hS3.grown h34 hS3.size (fun k hk => Nat.le_trans hS.size (ho.lt k hk).1)
 have HO4 : Hid (w4.ownsRow w.heap.size 5 1 v' R.length (byteCells R)) := by
  show World.ownsRow _ _ _ _ _ _ _
  have e : (ds ++ digs b.size).length + b.size = R.length := by rw [← HR.out]; simp [bytesN_len]; omega
  rw [strCells_bytes,← byteCells_app,List.append_assoc,HR.out,e] at h24;exact h24
 have HB4 : Hid (Below w.heap.size w w4) := HB.out.trans (hS4.mono HB.out.size);clear ho ho3 hb3 hp h24 h34;simp only [zsA,zsZ,zsS];refine rg_run 8 28 v' w4 rfl rfl (by kernel_rfl) (by rfl) (listed' := bts 10 511) (by kernel_rfl) ?_ hS4 ?_
 ·exact append_run rfl rfl rfl hr
 simp only [zsA,zsZ,zsS];have hS := hS4;refine rg_take 9 2 v' _ rfl rfl (by kernel_rfl) (by kernel_rfl) (by kernel_rfl) (fun _ _ _ h => h) (by rfl) (fun w' hw' => ?_) hS (listed' := bts 10 1023) (by kernel_rfl) rfl ?_
 ·go_simp
 simp only [zsA,zsZ,zsS];refine wpAnyH_done (by kernel_rfl) ?_ _;clear hr;go_wp2_with fail;go_ret;exact ⟨_,rfl,HO4.out,HB4.out⟩
theorem field_any (r : Fd) (w : World) (h : okF r = true) (hn : Is64 r.n) :
  Calls Tryz.prog 46 #[r.val] w fun e w' => ∃ v,e = .returned v ∧ w'.ownsRow w.heap.size 5 1 v (fieldN r).length (byteCells (fieldN r)) ∧ Below w.heap.size w w' := by
 rcases ok_cases h hn with ⟨t,n,rfl,h1,h2,h3⟩ | ⟨t,b,rfl,h1,h2,h3⟩
 ·rw [fieldN_num]; exact field_num t n _ w h1 h2 h3.1 h3.2
 ·rw [fieldN_text]; exact field_text t 0 b w h1 h2 h3
end
end Go.Proofs.YtiajaocckkghgaaGreat
