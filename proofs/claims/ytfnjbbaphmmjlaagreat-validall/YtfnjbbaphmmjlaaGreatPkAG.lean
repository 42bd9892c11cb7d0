/- Part 7 of what the proof stands on. -/
import Derived.Test.YtfnjbbaphmmjlaaGreatPkAF
namespace Go.Proofs.YtfnjbbaphmmjlaaGreat
set_option linter.unusedVariables false
set_option linter.unusedSimpArgs false
section
open Go.ChangeShapes Go.WideShapes Go.ChangeAt Go.RowKit Go.Maps
set_option maxRecDepth 20000
theorem types_told (k : Int) (s : ByteArray) (ms : List MsS) (es : List EnS) : memT (k,s) (five true true true true true ++ ms.map (fun m => (7,m.name)) ++ es.map (fun m => (6,m.name))) = typeB (ms.map MsS.name) (es.map EnS.name) k s := by
 rw [Bool.eq_iff_iff,memT_iff]
 unfold typeB
 simp only [List.mem_append,mem5,true_and,Bool.or_eq_true,Bool.and_eq_true,decide_eq_true_eq,memB_iff,List.mem_map,Prod.mk.injEq]
 constructor
 ·rintro ((h | ⟨m,hm,h1,h2⟩) | ⟨m,hm,h1,h2⟩)
  ·rcases h with ⟨h1,h2⟩ | ⟨h1,h2⟩ | ⟨h1,h2⟩ | ⟨h1,h2⟩ | ⟨h1,h2⟩ <;> exact .inl (.inl ⟨by omega,h2⟩)
  ·exact .inr ⟨h1.symm,m,hm,h2⟩
  ·exact .inl (.inr ⟨h1.symm,m,hm,h2⟩)
 ·rintro ((⟨h1,h2⟩ | ⟨h1,m,hm,h2⟩) | ⟨h1,m,hm,h2⟩)
  ·refine .inl (.inl ?_)
   have : k = 1 ∨ k = 2 ∨ k = 3 ∨ k = 4 ∨ k = 5 := by omega
   rcases this with h | h | h | h | h
   ·exact .inl ⟨h,h2⟩
   ·exact .inr (.inl ⟨h,h2⟩)
   ·exact .inr (.inr (.inl ⟨h,h2⟩))
   ·exact .inr (.inr (.inr (.inl ⟨h,h2⟩)))
   ·exact .inr (.inr (.inr (.inr ⟨h,h2⟩)))
  ·exact .inr ⟨m,hm,h1.symm,h2⟩
  ·exact .inl (.inr ⟨m,hm,h1.symm,h2⟩)
set_option maxHeartbeats 4000000 in
theorem typesof_any {w : World} {v : Value} {s : ScS} (hr : ScIn w v s) (hw : ScW s) (h1 : s.msgs.length ≤ 30000) (h2 : s.enums.length ≤ 30000) :
  Calls Tryz.prog 52 #[v] w fun e w' => (∃ bY ny T,e = .returned (.map (some bY)) ∧ w.heap.size ≤ bY ∧ SetT w' bY ny T ∧ ∀ k s',memT (k,s') T = typeB s.mn s.en k s') ∧ Below w.heap.size w w' := by
 obtain ⟨vm,ve,vt,rfl,hm,he,ht⟩ := hr
 obtain ⟨am,cm,rfl,qm1,qm2,_⟩ := hm.open
 obtain ⟨ae,ce,rfl,qe1,qe2,_⟩ := he.open
 obtain ⟨at',ct,rfl,qt1,qt2⟩ := ht.form2
 unfold maxLen at qm2 qe2
 have HM : Hid _ := hm
 have HE : Hid _ := he
 clear hm he ht
 obtain ⟨nm,ms,es,ts⟩ := s
 simp only at *
 have HM : Hid (MsIn w (.slice am ms.length cm) ms) := HM
 have HE : Hid (EnIn w (.slice ae es.length ce) es) := HE
 generalize (mtRows ts).length = T at *
 obtain ⟨M,hM⟩ : ∃ N,ms.length = N := ⟨_,rfl⟩
 obtain ⟨E,hE⟩ : ∃ N,es.length = N := ⟨_,rfl⟩
 rw [hM] at HM qm1 h1 ⊢
 rw [hE] at HE qe1 h2 ⊢
 have HNM : Hid (ms.length = M) := hM
 have HNE : Hid (es.length = E) := hE
 have HW : Hid (ScW ⟨nm,ms,es,ts⟩) := hw
 clear hM hE hw
 have hmm := @run_makeMap Tryz.prog
 go_enter Tryz.func52,Tryz.ntmps52
 go_wp2_with fail
 refine wp_region_held_drew (S := fun _ => True) (by kernel_rfl) trivial (fun hS => ?_)
 have HW0 : Hid (Below w.heap.size w (w.alloc (.cells #[.string nm,.slice am M cm,.slice ae E ce,.slice at' T ct] 26)).drew) := below_drewN 1 ((Below.refl _ _).alloc (Nat.le_refl _) _)
 have HX0 : Hid (Blk (w.alloc (.cells #[.string nm,.slice am M cm,.slice ae E ce,.slice at' T ct] 26)).drew w.heap.size #[.string nm,.slice am M cm,.slice ae E ce,.slice at' T ct] 26) := Blk.new w #[.string nm,.slice am M cm,.slice ae E ce,.slice at' T ct] 26
 generalize (w.alloc (.cells #[.string nm,.slice am M cm,.slice ae E ce,.slice at' T ct] 26)).drew = W0 at *
 clear hS
 refine rg_take 1 9 (.agg #[.int .i64 1,.string ⟨#[]⟩]) _ rfl rfl (by kernel_rfl) (by kernel_rfl) (by kernel_rfl) (fun _ _ _ h => h) (by rfl) (fun w' hw' => ?_) trivial (listed' := bts 18 2) (by kernel_rfl) rfl ?_
 ·go_simp
 simp only [zsA,zsZ,zsS]
 refine rg_take 2 10 (.agg #[]) _ rfl rfl (by kernel_rfl) (by kernel_rfl) (by kernel_rfl) (fun _ _ _ h => h) (by rfl) (fun w' hw' => ?_) trivial (listed' := bts 18 6) (by kernel_rfl) rfl ?_
 ·go_simp
 simp only [zsA,zsZ,zsS]
 refine rg_take 4 11 (.agg #[.int .i64 2,.string ⟨#[]⟩]) _ rfl rfl (by kernel_rfl) (by kernel_rfl) (by kernel_rfl) (fun _ _ _ h => h) (by rfl) (fun w' hw' => ?_) trivial (listed' := bts 18 22) (by kernel_rfl) rfl ?_
 ·go_simp
 simp only [zsA,zsZ,zsS]
 refine rg_take 5 12 (.agg #[]) _ rfl rfl (by kernel_rfl) (by kernel_rfl) (by kernel_rfl) (fun _ _ _ h => h) (by rfl) (fun w' hw' => ?_) trivial (listed' := bts 18 54) (by kernel_rfl) rfl ?_
 ·go_simp
 simp only [zsA,zsZ,zsS]
 refine rg_take 7 13 (.agg #[.int .i64 3,.string ⟨#[]⟩]) _ rfl rfl (by kernel_rfl) (by kernel_rfl) (by kernel_rfl) (fun _ _ _ h => h) (by rfl) (fun w' hw' => ?_) trivial (listed' := bts 18 182) (by kernel_rfl) rfl ?_
 ·go_simp
 simp only [zsA,zsZ,zsS]
 refine rg_take 8 14 (.agg #[]) _ rfl rfl (by kernel_rfl) (by kernel_rfl) (by kernel_rfl) (fun _ _ _ h => h) (by rfl) (fun w' hw' => ?_) trivial (listed' := bts 18 438) (by kernel_rfl) rfl ?_
 ·go_simp
 simp only [zsA,zsZ,zsS]
 refine rg_take 10 15 (.agg #[.int .i64 4,.string ⟨#[]⟩]) _ rfl rfl (by kernel_rfl) (by kernel_rfl) (by kernel_rfl) (fun _ _ _ h => h) (by rfl) (fun w' hw' => ?_) trivial (listed' := bts 18 1462) (by kernel_rfl) rfl ?_
 ·go_simp
 simp only [zsA,zsZ,zsS]
 refine rg_take 11 16 (.agg #[]) _ rfl rfl (by kernel_rfl) (by kernel_rfl) (by kernel_rfl) (fun _ _ _ h => h) (by rfl) (fun w' hw' => ?_) trivial (listed' := bts 18 3510) (by kernel_rfl) rfl ?_
 ·go_simp
 simp only [zsA,zsZ,zsS]
 refine rg_take 13 17 (.agg #[.int .i64 5,.string ⟨#[]⟩]) _ rfl rfl (by kernel_rfl) (by kernel_rfl) (by kernel_rfl) (fun _ _ _ h => h) (by rfl) (fun w' hw' => ?_) trivial (listed' := bts 18 11702) (by kernel_rfl) rfl ?_
 ·go_simp
 simp only [zsA,zsZ,zsS]
 refine rg_take 14 18 (.agg #[]) _ rfl rfl (by kernel_rfl) (by kernel_rfl) (by kernel_rfl) (fun _ _ _ h => h) (by rfl) (fun w' hw' => ?_) trivial (listed' := bts 18 28086) (by kernel_rfl) rfl ?_
 ·go_simp
 simp only [zsA,zsZ,zsS]
 refine rg_run 0 8 (.map (some W0.heap.size)) (W0.alloc (.map #[] 0)) rfl rfl (by kernel_rfl) (by rfl) (listed' := bts 18 28087) (by kernel_rfl) (by go_simp) trivial ?_
 simp only [zsA,zsZ,zsS]
 refine rg_five (b := W0.heap.size) (B := W0.heap.size) (w0 := W0) (Nat.le_refl _) rfl rfl rfl rfl rfl rfl rfl rfl rfl rfl rfl rfl rfl rfl rfl rfl rfl rfl rfl rfl rfl rfl rfl rfl rfl rfl rfl rfl rfl rfl rfl (by intro b1 b2 b3 b4 b5; cases b1 <;> cases b2 <;> cases b3 <;> cases b4 <;> cases b5 <;> kernel_rfl) ?fin 5 0 false false false false false rfl (by omega) (W0.alloc (.map #[] 0)) (by simp) ((Below.refl _ _).alloc (Nat.le_refl _) _) (SetK.made 32 W0)
 intro W1 n1 hn1 hbel1 hset1
 have HS1 : Hid (SetT W1 W0.heap.size n1 (five true true true true true)) := hset1
 clear hset1
 refine rg_take 16 19 (.map (some W0.heap.size)) _ rfl rfl (by kernel_rfl) (by kernel_rfl) (by kernel_rfl) (fun _ _ _ h => h) (by rfl) (fun w' hw' => ?_) trivial (listed' := bts 18 131071) (by kernel_rfl) rfl ?_
 ·go_simp
 simp only [zsA,zsZ,zsS]
 refine rg_take 17 3 (.map (some W0.heap.size)) _ rfl rfl (by kernel_rfl) (by kernel_rfl) (by kernel_rfl) (fun _ _ _ h => h) (by rfl) (fun w' hw' => ?_) trivial (listed' := bts 18 262143) (by kernel_rfl) rfl ?_
 ·go_simp
 simp only [zsA,zsZ,zsS]
 refine wpAnyH_done (by kernel_rfl) ?_ _
 clear hmm
 have hx0 : w.heap.size < W0.heap.size := HX0.out.lt
 obtain ⟨bY,hbY⟩ : ∃ n,W0.heap.size = n := ⟨_,rfl⟩
 rw [hbY] at HS1 hbel1 hx0 ⊢
 have HBY : Hid (W0.heap.size = bY) := hbY
 clear hbY
 have hb1 : Below W0.heap.size W0 W1 := by rw [HBY.out]; exact hbel1
 have b1 : W1.cell? ⟨w.heap.size,1,none⟩ = some (.slice am M cm) := (HX0.out.below hb1).cell 1
 clear hb1
 obtain ⟨F,hF⟩ : ∃ F,five true true true true true = F := ⟨_,rfl⟩
 rw [hF] at HS1
 have HF : Hid (five true true true true true = F) := hF
 clear hF
 have HS1' : Hid (SetT W1 bY (n1 + 0) (F ++ (ms.take 0).map fun m => (7,m.name))) := by
  show SetT _ _ _ _
  rw [List.take_zero,List.map_nil,List.append_nil]; exact HS1.out
 clear HS1
 go_wp2_with fail
 clear b1
 go_loopw [23] (fun iv wr => ∃ (k : Nat),iv = .int .i64 (k : Int) ∧ k ≤ M ∧ Hid (SetT wr bY (n1 + k) (F ++ (ms.take k).map fun m => (7,m.name))) ∧ Below bY W0 wr) (fun iv _ => M - (intOf iv).toNat)
 case atStart => exact ⟨0,rfl,by omega,HS1',hbel1⟩
 case round =>
  obtain ⟨k,rfl,hk,HS,hbel⟩ := hrel
  clear HS1'
  have hbW : Below W0.heap.size W0 wr := by rw [HBY.out]; exact hbel
  have hbw : Below w.heap.size w wr := HW0.out.trans (hbW.mono HW0.out.size)
  have hbt : bY < wr.heap.size := SetK.lt HS.out
  by_cases hlt : k < M
  ·obtain ⟨m,hm⟩ : ∃ n,ms[k]? = some n := ⟨_,List.getElem?_eq_getElem (by rw [HNM.out]; exact hlt)⟩
   obtain ⟨g,off,vf,vr,rfl,c0,c1,c2,hf,hrr⟩ := (HM.out.below hbw).get hm
   obtain ⟨a3,c3,rfl,_,_⟩ := hf.form2
   obtain ⟨a4,c4,rfl,_,_⟩ := hrr.form2
   generalize (flRows m.fields).length = nF at *
   generalize (inRows m.reserved).length = nR at *
   have hms := (HW.out.msgs m (List.mem_of_getElem? hm)).1
   have HTK : Hid ((F ++ (ms.take k).map fun m => ((7 : Int),m.name)) ++ [(7,m.name)] = F ++ (ms.take (k + 1)).map fun m => (7,m.name)) := by
    show _ = _
    rw [List.take_add_one,hm,List.map_append,List.append_assoc]; rfl
   generalize m.name = mnm at *
   clear hf hrr hm hbW hbw
   go_wp2_with fail
   clear c0 c1 c2
   have hba : Below wr.heap.size wr (wr.alloc (.cells #[.string mnm,.slice a3 nF c3,.slice a4 nR c4] 50)) := (Below.refl _ _).alloc (Nat.le_refl _) _
   refine (msgtype_any _ _).mono ?_
   rintro e w2 ⟨rfl,hb2⟩
   obtain ⟨kl,hkey⟩ := key_ty (k := 7) (s := mnm) ⟨by decide,by decide⟩ hms
   obtain ⟨D,hown,h2'⟩ := SetK.below (SetK.below HS.out hba) hb2
   have H2 : Hid _ := h2'
   clear h2'
   have hkey' := hkey
   unfold tyV at hkey'
   simp only at hkey'
   have hb3 : Below bY W0 w2 := (hbel.alloc (by omega) _).trans (hb2.mono (by simp; omega))
   have hbt2 : bY ≤ w2.heap.size := by have := hb2.size; simp at this; omega
   clear hb2 hba hbel
   go_wp2_with (first
    | (at_mapUpdate; refine wpList_mapUpdate_own _ rfl _ _ _ 98 rfl 32 120 lawT Tryz.underlying98 (unitElem (H := Unit)) bY (n1 + k) _ rfl hown (by unfold maxLen; omega) _ _ _ rfl rfl hkey' _ [] unitElem_mk ?_; intro w3 hown1 hgrow1)
    | fail)
   have HS3 : Hid (SetT w3 bY (n1 + (k + 1)) (F ++ (ms.take (k + 1)).map fun m => (7,m.name))) := by
    show SetT _ _ _ _
    rw [← HTK.out]
    have := SetK.put lawT hown.isMap H2.out hkey hown1
    unfold SetT
    rw [List.map_append]
    exact this
   have hb4 : Below bY W0 w3 := hb3.grown hgrow1 hbt2 (fun j hj => by cases hj; exact Nat.le_refl _)
   clear hown hown1 hgrow1 H2 hkey hkey' HTK HS hb3
   go_wp2_with fail
   go_roundw
   case rel => exact ⟨k + 1,by go_num,by omega,HS3,hb4⟩
   case measure => simp [intOf]; omega
  ·obtain rfl : k = M := by omega
   have b2 : wr.cell? ⟨w.heap.size,2,none⟩ = some (.slice ae E ce) := (HX0.out.below hbW).cell 2
   obtain ⟨G,hG⟩ : ∃ G,F ++ (ms.take k).map (fun m => ((7 : Int),m.name)) = G := ⟨_,rfl⟩
   rw [hG] at HS
   have HG : Hid (F ++ ms.map (fun m => ((7 : Int),m.name)) = G) := by
    show _ = _
    rw [← hG,List.take_of_length_le (by rw [HNM.out]; omega)]
   clear hG
   have HS2 : Hid (SetT wr bY (n1 + k + 0) (G ++ (es.take 0).map fun m => (6,m.name))) := by
    show SetT _ _ _ _
    rw [List.take_zero,List.map_nil,List.append_nil]; exact HS.out
   clear HS hbW hbw
   go_wp2_with fail
   clear b2
   go_loopw [36] (fun iv wr => ∃ (i : Nat),iv = .int .i64 (i : Int) ∧ i ≤ E ∧ Hid (SetT wr bY (n1 + k + i) (G ++ (es.take i).map fun m => (6,m.name))) ∧ Below bY W0 wr) (fun iv _ => E - (intOf iv).toNat)
   case atStart => exact ⟨0,rfl,by omega,HS2,hbel⟩
   case round =>
    obtain ⟨i,rfl,hi,HS,hbel⟩ := hrel
    clear HS2
    have hbW : Below W0.heap.size W0 wr := by rw [HBY.out]; exact hbel
    have hbw : Below w.heap.size w wr := HW0.out.trans (hbW.mono HW0.out.size)
    have hbt : bY < wr.heap.size := SetK.lt HS.out
    by_cases hlt : i < E
    ·obtain ⟨m,hm⟩ : ∃ n,es[i]? = some n := ⟨_,List.getElem?_eq_getElem (by rw [HNE.out]; exact hlt)⟩
     obtain ⟨g,off,vf,rfl,c0,c1,hf⟩ := (HE.out.below hbw).get hm
     obtain ⟨a3,c3,rfl,_,_⟩ := hf.form2
     generalize (nmRows m.values).length = nF at *
     have hms := (HW.out.enums m (List.mem_of_getElem? hm)).1
     have HTK : Hid ((G ++ (es.take i).map fun m => ((6 : Int),m.name)) ++ [(6,m.name)] = G ++ (es.take (i + 1)).map fun m => (6,m.name)) := by
      show _ = _
      rw [List.take_add_one,hm,List.map_append,List.append_assoc]; rfl
     generalize m.name = mnm at *
     clear hf hm hbW hbw
     have hba : Below wr.heap.size wr (wr.alloc (.cells #[.string mnm,.slice a3 nF c3] 68)) := (Below.refl _ _).alloc (Nat.le_refl _) _
     obtain ⟨kl,hkey⟩ := key_ty (k := 6) (s := mnm) ⟨by decide,by decide⟩ hms
     obtain ⟨D,hown,h2'⟩ := SetK.below HS.out hba
     have H2 : Hid _ := h2'
     clear h2'
     have hkey' := hkey
     unfold tyV at hkey'
     simp only at hkey'
     have hb3 : Below bY W0 (wr.alloc (.cells #[.string mnm,.slice a3 nF c3] 68)) := hbel.alloc (by omega) _
     have hbt2 : bY ≤ (wr.alloc (.cells #[.string mnm,.slice a3 nF c3] 68)).heap.size := by simp; omega
     clear hba hbel
     go_wp2_with (first
      | (at_mapUpdate; refine wpList_mapUpdate_own _ rfl _ _ _ 98 rfl 32 120 lawT Tryz.underlying98 (unitElem (H := Unit)) bY (n1 + k + i) _ rfl hown (by unfold maxLen; omega) _ _ _ rfl rfl hkey' _ [] unitElem_mk ?_; intro w3 hown1 hgrow1)
      | fail)
     clear c0 c1
     have HS3 : Hid (SetT w3 bY (n1 + k + (i + 1)) (G ++ (es.take (i + 1)).map fun m => (6,m.name))) := by
      show SetT _ _ _ _
      rw [← HTK.out]
      have := SetK.put lawT hown.isMap H2.out hkey hown1
      unfold SetT
      rw [List.map_append]
      exact this
     have hb4 : Below bY W0 w3 := hb3.grown hgrow1 hbt2 (fun j hj => by cases hj; exact Nat.le_refl _)
     clear hown hown1 hgrow1 H2 hkey hkey' HTK HS hb3
     go_wp2_with fail
     go_roundw
     case rel => exact ⟨i + 1,by go_num,by omega,HS3,hb4⟩
     case measure => simp [intOf]; omega
    ·go_wp2_with fail
     go_ret
     refine ⟨⟨bY,_,_,rfl,by omega,HS.out,fun k' s' => ?_⟩,hbw⟩
     rw [← HG.out,← HF.out,List.take_of_length_le (by rw [HNE.out]; omega)]
     exact types_told k' s' ms es
structure FewL (s : ScS) : Prop where
 msgs : s.msgs.length ≤ 14
 enums : s.enums.length ≤ 10
 meths : s.methods.length ≤ 10
 flds : ∀ m ∈ s.msgs,m.fields.length ≤ 20 ∧ m.reserved.length ≤ 40
 vals : ∀ e ∈ s.enums,e.values.length ≤ 24
structure MayL (s : ScS) : Prop where
 msgs : s.msgs.length ≤ 30000
 enums : s.enums.length ≤ 30000
 meths : s.methods.length ≤ 30000
 flds : ∀ m ∈ s.msgs,m.fields.length ≤ 30000 ∧ m.reserved.length ≤ 30000
 vals : ∀ e ∈ s.enums,e.values.length ≤ 30000
theorem FewL.may {s : ScS} (h : FewL s) : MayL s := ⟨Nat.le_trans h.msgs (by decide),Nat.le_trans h.enums (by decide),Nat.le_trans h.meths (by decide),fun m hm => ⟨Nat.le_trans (h.flds m hm).1 (by decide),Nat.le_trans (h.flds m hm).2 (by decide)⟩,fun e he => Nat.le_trans (h.vals e he) (by decide)⟩
theorem chkMs_err {mn en a : List ByteArray} {m : MsS} {l : List MsS} {X : Int} (hX : X = if freshB m.name a = false then 6 else chkMb mn en m) (h : X ≠ 0) : chkMs mn en a (m :: l) = X := by
 unfold chkMs
 cases hf : freshB m.name a
 ·rw [if_pos rfl]; rw [hf,if_pos rfl] at hX; exact hX.symm
 ·rw [if_neg (by decide)]; rw [hf,if_neg (by decide)] at hX; subst hX; exact orE_ne h _
theorem chkMs_on {mn en a : List ByteArray} {m : MsS} {l : List MsS} (hX : 0 = if freshB m.name a = false then 6 else chkMb mn en m) : freshB m.name a = true ∧ chkMs mn en a (m :: l) = chkMs mn en (a ++ [m.name]) l := by
 cases hf : freshB m.name a
 ·rw [hf,if_pos rfl] at hX; omega
 ·rw [hf,if_neg (by decide)] at hX
  refine ⟨rfl,?_⟩
  show (if freshB m.name a = false then 6 else orE (chkMb mn en m) (chkMs mn en (a ++ [m.name]) l)) = _
  rw [hf,if_neg (by decide),← hX,orE_zero]
theorem chkEs_err {a : List ByteArray} {m : EnS} {l : List EnS} {X : Int} (hX : X = if freshB m.name a = false then 6 else chkEb m) (h : X ≠ 0) : chkEs a (m :: l) = X := by
 unfold chkEs
 cases hf : freshB m.name a
 ·rw [if_pos rfl]; rw [hf,if_pos rfl] at hX; exact hX.symm
 ·rw [if_neg (by decide)]; rw [hf,if_neg (by decide)] at hX; subst hX; exact orE_ne h _
theorem chkEs_on {a : List ByteArray} {m : EnS} {l : List EnS} (hX : 0 = if freshB m.name a = false then 6 else chkEb m) : freshB m.name a = true ∧ chkEs a (m :: l) = chkEs (a ++ [m.name]) l := by
 cases hf : freshB m.name a
 ·rw [hf,if_pos rfl] at hX; omega
 ·rw [hf,if_neg (by decide)] at hX
  refine ⟨rfl,?_⟩
  show (if freshB m.name a = false then 6 else orE (chkEb m) (chkEs (a ++ [m.name]) l)) = _
  rw [hf,if_neg (by decide),← hX,orE_zero]
set_option maxHeartbeats 4000000 in
theorem check_may {w : World} {v : Value} {s : ScS} (hr : ScIn w v s) (hw : ScW s) (hf : MayL s) :
  Calls Tryz.prog 33 #[v] w fun e w' => e = .returned (.int .i64 (checkA s)) ∧ Below w.heap.size w w' := by
 have HSC := hr
 obtain ⟨vm,ve,vt,rfl,hm,he,ht⟩ := hr
 obtain ⟨am,cm,rfl,qm1,qm2⟩ := hm.form2
 obtain ⟨ae,ce,rfl,qe1,qe2⟩ := he.form2
 obtain ⟨at',ct,rfl,qt1,qt2⟩ := ht.form2
 have hT : (mtRows s.methods).length = s.methods.length := by simp [mtRows]
 rw [hT] at HSC ht qt1 ⊢
 clear hT
 have HWA : Hid (∀ W : World,Calls Tryz.prog 51 #[.agg #[.string s.name,.slice am s.msgs.length cm,.slice ae s.enums.length ce,.slice at' s.methods.length ct]] W fun e w' => e = .returned (.int .i64 (wholeA s)) ∧ Below W.heap.size W w') := fun W => cwhole_any s hw.name hf.msgs hf.enums hf.meths
 have HTO : Hid (∀ W : World,Below w.heap.size w W → Calls Tryz.prog 52 #[.agg #[.string s.name,.slice am s.msgs.length cm,.slice ae s.enums.length ce,.slice at' s.methods.length ct]] W fun e w' => (∃ bY ny T,e = .returned (.map (some bY)) ∧ W.heap.size ≤ bY ∧ SetT w' bY ny T ∧ ∀ k s',memT (k,s') T = typeB s.mn s.en k s') ∧ Below W.heap.size W w') := fun W hW => typesof_any (HSC.below hW) hw hf.msgs hf.enums
 have HM : Hid (MsIn w (.slice am s.msgs.length cm) s.msgs) := hm
 have HE : Hid (EnIn w (.slice ae s.enums.length ce) s.enums) := he
 have HT : Hid (RowG w (.slice at' s.methods.length ct) 3 (mtRows s.methods)) := ht
 have HMN : Hid (s.mn = s.msgs.map MsS.name) := rfl
 obtain ⟨CA,hCA⟩ : ∃ A,checkA s = A := ⟨_,rfl⟩
 obtain ⟨WA,hWA⟩ : ∃ A,wholeA s = A := ⟨_,rfl⟩
 have HCA : Hid (CA = orE WA (orE (orE (chkMs s.mn s.en [] s.msgs) (chkEs s.mn s.enums)) (chkTs s.mn [] s.methods))) := by show _ = _; rw [← hCA,← hWA]; rfl
 rw [hWA] at HWA
 rw [hCA]
 generalize s.mn = mn at *
 generalize s.en = en at *
 have HF : Hid (MayL s) := hf
 have HW : Hid (ScW s) := hw
 obtain ⟨nm,ms,es,ts⟩ := s
 simp only at *
 have HM : Hid (MsIn w (.slice am ms.length cm) ms) := HM
 have HE : Hid (EnIn w (.slice ae es.length ce) es) := HE
 obtain ⟨M,hM⟩ : ∃ N,ms.length = N := ⟨_,rfl⟩
 obtain ⟨E,hE⟩ : ∃ N,es.length = N := ⟨_,rfl⟩
 obtain ⟨T,hT⟩ : ∃ N,ts.length = N := ⟨_,rfl⟩
 have h1 := hf.msgs
 have h2 := hf.enums
 have h3 := hf.meths
 simp only at h1 h2 h3
 have HL3 : Hid (ts.length ≤ 30000) := h3
 rw [hM] at HM qm1 h1 HWA HTO ⊢
 rw [hE] at HE qe1 h2 HWA HTO ⊢
 rw [hT] at HT qt1 h3 HWA HTO ⊢
 have HNM : Hid (ms.length = M) := hM
 have HNE : Hid (es.length = E) := hE
 have HNT : Hid (ts.length = T) := hT
 clear hM hE hT hf hw HSC hm he ht hCA hWA
 have hba : Below w.heap.size w (w.alloc (.cells #[.string nm,.slice am M cm,.slice ae E ce,.slice at' T ct] 26)) := (Below.refl _ _).alloc (Nat.le_refl _) _
 have BX := Blk.new w #[.string nm,.slice am M cm,.slice ae E ce,.slice at' T ct] 26
 have hmm := @run_makeMap Tryz.prog
 by_cases hw0 : WA = 0
 ·subst hw0
  have HCA : Hid (CA = orE (orE (chkMs mn en [] ms) (chkEs mn es)) (chkTs mn [] ts)) := by show _ = _; rw [HCA.out,orE_zero]
  go_enter Tryz.func33,Tryz.ntmps33
  go_wp2_with fail
  refine (HWA.out _).mono ?_
  rintro e w1 ⟨rfl,hb1⟩
  have BX1 := BX.below hb1
  have b0 : w1.cell? ⟨w.heap.size,0,none⟩ = some (.string nm) := BX1.cell 0
  have b1 : w1.cell? ⟨w.heap.size,1,none⟩ = some (.slice am M cm) := BX1.cell 1
  have b2 : w1.cell? ⟨w.heap.size,2,none⟩ = some (.slice ae E ce) := BX1.cell 2
  have b3 : w1.cell? ⟨w.heap.size,3,none⟩ = some (.slice at' T ct) := BX1.cell 3
  have hb01 : Below w.heap.size w w1 := hba.trans (hb1.mono hba.size)
  go_wp2_with fail
  clear b0 b1 b2 b3
  refine (HTO.out w1 hb01).mono ?_
  rintro e w2 ⟨⟨bY,ny,Ty,rfl,hbY,hTy,hTt⟩,hb2⟩
  have HTy : Hid (SetT w2 bY ny Ty) := hTy
  have HTT : Hid (∀ k s',memT (k,s') Ty = typeB mn en k s') := hTt
  clear hTy hTt
  have BX2 := BX1.below hb2
  have hb02 : Below w.heap.size w w2 := hb01.trans (hb2.mono hb01.size)
  have b1 : w2.cell? ⟨w.heap.size,1,none⟩ = some (.slice am M cm) := BX2.cell 1
  have hx2 : w.heap.size < w2.heap.size := BX2.lt
  have hxY : w.heap.size < bY := Nat.lt_of_lt_of_le BX1.lt hbY
  have hYn : bY < w2.heap.size := SetK.lt HTy.out
  clear hb1 hb2 hb01 BX BX1 hba HWA HTO
  go_wp2_with fail
  clear hmm b1
  have HM0 : SetS (w2.alloc (.map #[] 0)) w2.heap.size 0 ((ms.take 0).map MsS.name) := SetK.made 9 w2
  have HTy0 : Hid (SetT (w2.alloc (.map #[] 0)) bY ny Ty) := SetK.below HTy.out ((Below.refl _ _).alloc (Nat.le_refl _) _)
  have hbel0 : Below w.heap.size w (w2.alloc (.map #[] 0)) := hb02.alloc (by omega) _
  have BX0 : Blk (w2.alloc (.map #[] 0)) w.heap.size #[.string nm,.slice am M cm,.slice ae E ce,.slice at' T ct] 26 := BX2.below ((Below.refl _ _).alloc (Nat.le_refl _) _)
  obtain ⟨bn,hbn⟩ : ∃ n,w2.heap.size = n := ⟨_,rfl⟩
  rw [hbn] at HM0 hYn hx2 ⊢
  clear hbn HTy BX2 hb02
  obtain ⟨P1,hP1⟩ : ∃ A,chkMs mn en [] ms = A := ⟨_,rfl⟩
  have HP1 : Hid (P1 = chkMs mn en ((ms.take 0).map MsS.name) (ms.drop 0)) := hP1.symm
  have HCA : Hid (CA = orE (orE P1 (chkEs mn es)) (chkTs mn [] ts)) := by show _ = _; rw [HCA.out,hP1]
  clear hP1
  go_loopw [23] (fun iv wr => ∃ (k : Nat),iv = .int .i64 (k : Int) ∧ k ≤ M ∧ Hid (P1 = chkMs mn en ((ms.take k).map MsS.name) (ms.drop k)) ∧ Hid (SetS wr bn k ((ms.take k).map MsS.name)) ∧ Hid (SetT wr bY ny Ty) ∧ Below w.heap.size w wr ∧ Blk wr w.heap.size #[.string nm,.slice am M cm,.slice ae E ce,.slice at' T ct] 26) (fun iv _ => M - (intOf iv).toNat)
  case atStart => exact ⟨0,rfl,by omega,HP1,HM0,HTy0,hbel0,BX0⟩
  case round =>
   obtain ⟨k,rfl,hk,HP,HS,HTy,hbel,BX⟩ := hrel
   clear HM0 HTy0 hbel0 BX0
   have hbw : bn < wr.heap.size := SetK.lt HS.out
   by_cases hlt : k < M
   ·obtain ⟨m,hm⟩ : ∃ n,ms[k]? = some n := ⟨_,List.getElem?_eq_getElem (by rw [HNM.out]; exact hlt)⟩
    obtain ⟨g,off,vf,vr,rfl,c0,c1,c2,hf,hrr⟩ := (HM.out.below hbel).get hm
    have HFf : Hid (RowG wr vf 5 (flRows m.fields)) := hf
    have HRr : Hid (RowG wr vr 1 (inRows m.reserved)) := hrr
    obtain ⟨a3,c3,rfl,_,_⟩ := hf.form2
    obtain ⟨a4,c4,rfl,_,_⟩ := hrr.form2
    have hmem := List.mem_of_getElem? hm
    have HWm : Hid (MsW m) := HW.out.msgs m hmem
    have HFm : Hid (m.fields.length ≤ 30000 ∧ m.reserved.length ≤ 30000) := HF.out.flds m hmem
    have HP2 : Hid (P1 = chkMs mn en ((ms.take k).map MsS.name) (m :: ms.drop (k + 1))) := by show _ = _; rw [HP.out,drop_at hm]
    have HTK : Hid ((ms.take (k + 1)).map MsS.name = (ms.take k).map MsS.name ++ [m.name]) := by show _ = _; rw [take_at hm,List.map_append]; rfl
    obtain ⟨m0,mf,mr⟩ := m
    simp only at c0 c1 c2 HTK HP2 HFm
    have HFf : Hid (RowG wr (.slice a3 (flRows mf).length c3) 5 (flRows mf)) := HFf
    have HRr : Hid (RowG wr (.slice a4 (inRows mr).length c4) 1 (inRows mr)) := HRr
    have HNF : Hid (RowG wr (.slice a3 (flRows mf).length c3) 5 (flRows mf) ∧ RowG wr (.slice a4 (inRows mr).length c4) 1 (inRows mr)) := ⟨HFf.out,HRr.out⟩
    generalize (flRows mf).length = nF at *
    generalize (inRows mr).length = nR at *
    clear hf hrr hm HP hmem HFf HRr
    go_wp2_with fail
    clear c0 c1 c2
    have hba : Below wr.heap.size wr (wr.alloc (.cells #[.string m0,.slice a3 nF c3,.slice a4 nR c4] 50)) := (Below.refl _ _).alloc (Nat.le_refl _) _
    refine (cmsg_any (HNF.out.1.below hba) (HNF.out.2.below hba) HFm.out.1 HFm.out.2 (SetK.below HS.out hba) (by omega) (SetK.below HTy.out hba) (by omega) HTT.out HWm.out).mono ?_
    rintro e w3 ⟨rfl,hs3,hk3⟩
    have HS3 : Hid _ := hs3
    clear hs3
    obtain ⟨X,hX⟩ : ∃ X,(if freshB m0 ((ms.take k).map MsS.name) = false then 6 else chkMb mn en ⟨m0,mf,mr⟩) = X := ⟨_,rfl⟩
    rw [hX]
    have HX : Hid (X = if freshB m0 ((ms.take k).map MsS.name) = false then 6 else chkMb mn en ⟨m0,mf,mr⟩) := hX.symm
    clear hX
    have hb3 : Below w.heap.size w w3 := (hbel.alloc (by omega) _).trans (hk3.toBelow (by simp; omega) (fun k e => by omega))
    by_cases hx0 : X = 0
    ·subst hx0
     obtain ⟨g1,g2⟩ := chkMs_on (m := ⟨m0,mf,mr⟩) (l := ms.drop (k + 1)) HX.out
     have HP3 : Hid (P1 = chkMs mn en ((ms.take (k + 1)).map MsS.name) (ms.drop (k + 1))) := by show _ = _; rw [HP2.out,g2,HTK.out]
     have HS4 : Hid (SetS w3 bn (k + 1) ((ms.take (k + 1)).map MsS.name)) := by show SetS _ _ _ _; rw [HTK.out]; exact HS3.out g1
     have HT4 : Hid (SetT w3 bY ny Ty) := SetK.kp (SetK.below HTy.out hba) hk3 (by omega)
     have BX4 := (BX.below hba).kp hk3 (by omega)
     clear g1 g2 HX HP2 HTK HS3 hba hk3 BX HS HTy hbel
     go_wp2_with fail
     go_roundw
     case rel => exact ⟨k + 1,by go_num,by omega,HP3,HS4,HT4,hb3,BX4⟩
     case measure => simp [intOf]; omega
    ·have hx1 : (X == 0) = false := by simpa using hx0
     have HFin : Hid (X = CA) := by
      show _ = _
      rw [HCA.out,HP2.out,chkMs_err (m := ⟨m0,mf,mr⟩) HX.out hx0,orE_ne hx0,orE_ne hx0]
     go_wp2_with fail
     go_ret
     exact ⟨ret_int HFin.out,hb3⟩
   ·obtain rfl : k = M := by omega
    have hP0 : P1 = 0 := by rw [HP.out,drop_end (by rw [HNM.out]; omega)]; rfl
    obtain ⟨P2,hP2⟩ : ∃ A,chkEs mn es = A := ⟨_,rfl⟩
    have HP2 : Hid (P2 = chkEs (mn ++ (es.take 0).map EnS.name) (es.drop 0)) := by show _ = _; rw [List.take_zero,List.map_nil,List.append_nil,List.drop_zero]; exact hP2.symm
    have HCA : Hid (CA = orE P2 (chkTs mn [] ts)) := by show _ = _; rw [HCA.out,hP0,hP2,orE_zero]
    have HS0 : Hid (SetS wr bn (k + 0) (mn ++ (es.take 0).map EnS.name)) := by
     show SetS _ _ _ _
     have := HS.out
     rw [List.take_of_length_le (by rw [HNM.out]; omega),← HMN.out] at this
     rw [List.take_zero,List.map_nil,List.append_nil]; exact this
    have b2 : wr.cell? ⟨w.heap.size,2,none⟩ = some (.slice ae E ce) := BX.cell 2
    clear HP hP0 hP2 HS HP1
    go_wp2_with fail
    clear b2
    go_loopw [38] (fun iv wr => ∃ (i : Nat),iv = .int .i64 (i : Int) ∧ i ≤ E ∧ Hid (P2 = chkEs (mn ++ (es.take i).map EnS.name) (es.drop i)) ∧ Hid (SetS wr bn (k + i) (mn ++ (es.take i).map EnS.name)) ∧ Hid (SetT wr bY ny Ty) ∧ Below w.heap.size w wr ∧ Blk wr w.heap.size #[.string nm,.slice am k cm,.slice ae E ce,.slice at' T ct] 26) (fun iv _ => E - (intOf iv).toNat)
    case atStart => exact ⟨0,rfl,by omega,HP2,HS0,HTy,hbel,BX⟩
    case round =>
     obtain ⟨i,rfl,hi,HP,HS,HTy,hbel,BX⟩ := hrel
     clear HS0 HP2
     have hbw : bn < wr.heap.size := SetK.lt HS.out
     by_cases hlt : i < E
     ·obtain ⟨m,hm⟩ : ∃ n,es[i]? = some n := ⟨_,List.getElem?_eq_getElem (by rw [HNE.out]; exact hlt)⟩
      obtain ⟨g,off,vf,rfl,c0,c1,hf⟩ := (HE.out.below hbel).get hm
      have HFf : Hid (RowG wr vf 2 (nmRows m.values)) := hf
      obtain ⟨a3,c3,rfl,_,_⟩ := hf.form2
      have hmem := List.mem_of_getElem? hm
      have HWm : Hid (EnW m) := HW.out.enums m hmem
      have HFm : Hid (m.values.length ≤ 30000) := HF.out.vals m hmem
      have HP2 : Hid (P2 = chkEs (mn ++ (es.take i).map EnS.name) (m :: es.drop (i + 1))) := by show _ = _; rw [HP.out,drop_at hm]
      have HTK : Hid (mn ++ (es.take (i + 1)).map EnS.name = (mn ++ (es.take i).map EnS.name) ++ [m.name]) := by show _ = _; rw [take_at hm,List.map_append,List.append_assoc]; rfl
      obtain ⟨m0,mf⟩ := m
      simp only at c0 c1 HTK HP2 HFm
      have HFf : Hid (RowG wr (.slice a3 (nmRows mf).length c3) 2 (nmRows mf)) := HFf
      generalize (nmRows mf).length = nF at *
      generalize mn ++ (es.take i).map EnS.name = AL at *
      clear hf hm HP hmem
      go_wp2_with fail
      clear c0 c1
      have hba : Below wr.heap.size wr (wr.alloc (.cells #[.string m0,.slice a3 nF c3] 68)) := (Below.refl _ _).alloc (Nat.le_refl _) _
      refine (cenum_any (HFf.out.below hba) HFm.out (SetK.below HS.out hba) (by omega) HWm.out).mono ?_
      rintro e w3 ⟨rfl,hs3,hk3⟩
      have HS3 : Hid _ := hs3
      clear hs3
      obtain ⟨X,hX⟩ : ∃ X,(if freshB m0 AL = false then 6 else chkEb ⟨m0,mf⟩) = X := ⟨_,rfl⟩
      rw [hX]
      have HX : Hid (X = if freshB m0 AL = false then 6 else chkEb ⟨m0,mf⟩) := hX.symm
      clear hX
      have hb3 : Below w.heap.size w w3 := (hbel.alloc (by omega) _).trans (hk3.toBelow (by simp; omega) (fun k e => by omega))
      by_cases hx0 : X = 0
      ·subst hx0
       obtain ⟨g1,g2⟩ := chkEs_on (m := ⟨m0,mf⟩) (l := es.drop (i + 1)) HX.out
       have HP3 : Hid (P2 = chkEs (mn ++ (es.take (i + 1)).map EnS.name) (es.drop (i + 1))) := by show _ = _; rw [HP2.out,g2,HTK.out]
       have HS4 : Hid (SetS w3 bn (k + (i + 1)) (mn ++ (es.take (i + 1)).map EnS.name)) := by show SetS _ _ _ _; rw [HTK.out]; exact HS3.out g1
       have HT4 : Hid (SetT w3 bY ny Ty) := SetK.kp (SetK.below HTy.out hba) hk3 (by omega)
       have BX4 := (BX.below hba).kp hk3 (by omega)
       clear g1 g2 HX HP2 HTK HS3 hba hk3 BX HS HTy hbel HFf
       go_wp2_with fail
       go_roundw
       case rel => exact ⟨i + 1,by go_num,by omega,HP3,HS4,HT4,hb3,BX4⟩
       case measure => simp [intOf]; omega
      ·have hx1 : (X == 0) = false := by simpa using hx0
       have HFin : Hid (X = CA) := by
        show _ = _
        rw [HCA.out,HP2.out,chkEs_err (m := ⟨m0,mf⟩) HX.out hx0,orE_ne hx0]
       go_wp2_with fail
       go_ret
       exact ⟨ret_int HFin.out,hb3⟩
     ·have hP0 : P2 = 0 := by rw [HP.out,drop_end (by rw [HNE.out]; omega)]; rfl
      have HFin : Hid (chkTs mn [] ts = CA) := by show _ = _; rw [HCA.out,hP0,orE_zero]
      have b3 : wr.cell? ⟨w.heap.size,3,none⟩ = some (.slice at' T ct) := BX.cell 3
      clear hP0 HP HS
      go_wp2_with fail
      clear b3
      refine (cmethods_any (HT.out.below hbel) HL3.out HTy.out HTT.out HW.out.meths).mono ?_
      rintro e w3 ⟨rfl,hb3⟩
      rw [HFin.out]
      go_wp2_with fail
      go_ret
      exact ⟨rfl,hbel.trans (hb3.mono hbel.size)⟩
 ·have hw1 : (WA == 0) = false := by simpa using hw0
  have HFin : Hid (WA = CA) := by show _ = _; rw [HCA.out,orE_ne hw0]
  go_enter Tryz.func33,Tryz.ntmps33
  go_wp2_with fail
  refine (HWA.out _).mono ?_
  rintro e w1 ⟨rfl,hb1⟩
  have hb01 : Below w.heap.size w w1 := hba.trans (hb1.mono hba.size)
  go_wp2_with fail
  go_ret
  exact ⟨ret_int HFin.out,hb01⟩
theorem check_any {w : World} {v : Value} {s : ScS} (hr : ScIn w v s) (hw : ScW s) (hf : FewL s) :
  Calls Tryz.prog 33 #[v] w fun e w' => e = .returned (.int .i64 (checkA s)) ∧ Below w.heap.size w w' := check_may hr hw hf.may
end
section
open Go.ChangeShapes Go.WideShapes Go.ChangeAt Go.RowKit
set_option maxRecDepth 20000
theorem TrW.v2 {n : Nat} {w : World} {v : Value} {t : Tr} (h : TrW n w v t) : TrV2 n w v t := by
 obtain ⟨r,h1,h2⟩ := h
 exact ⟨r,h1,h2.trQ⟩
set_option maxHeartbeats 4000000 in
theorem fits_any {s : ScS} {vs v : Value} {n : Nat} {t : Tr} {nm : ByteArray} {w : World} (hs : ScIn w vs s) (hw : ScW s) (hf : FewL s) (ht : TrW n w v t) (hn : n ≤ 60) (hc : cntN n t ≤ 1000) (hsm : SmN n t) :
  Calls Tryz.prog 12 #[vs,.string nm,v] w fun e w' => e = .returned (.int .i64 (validA n s nm t)) ∧ Below w.heap.size w w' := by
 have hmm := @run_makeMap Tryz.prog
 obtain ⟨X,hX⟩ : ∃ X,validA n s nm t = X := ⟨_,rfl⟩
 have HV : Hid (validA n s nm t = X) := hX
 rw [hX]
 obtain ⟨m,a1,c1,a2,c2, -,rfl, -⟩ := ht.open
 have hs' := hs
 obtain ⟨vm,ve,vt,rfl,hms,hen,hmt⟩ := hs
 obtain ⟨ma,mc,rfl, -⟩ := hms.open
 obtain ⟨ea,ec,rfl, -⟩ := hen.open
 obtain ⟨ta,tn,tc,rfl⟩ := row_slice hmt
 have HFL : Hid (∀ m ∈ s.msgs,m.fields.length ≤ 20 ∧ m.reserved.length ≤ 40) := hf.flds
 generalize s.msgs.length = mn at *
 generalize s.enums.length = en at *
 generalize t.es.length = n1 at *
 generalize t.rest.length = n2 at *
 obtain ⟨K,hK⟩ : ∃ z,t.kind = z := ⟨_,rfl⟩
 obtain ⟨N,hN⟩ : ∃ z,t.n = z := ⟨_,rfl⟩
 obtain ⟨S,hS⟩ : ∃ z,t.s = z := ⟨_,rfl⟩
 obtain ⟨sn,hsn⟩ : ∃ z,s.name = z := ⟨_,rfl⟩
 have HT3 : Hid (t.kind = K) := hK
 rw [hK,hN,hS] at ht ⊢
 rw [hsn] at hs' ⊢
 have HCK : Hid (∀ W,Below w.heap.size w W → Calls Tryz.prog 33 #[.agg #[.string sn,.slice ma mn mc,.slice ea en ec,.slice ta tn tc]] W fun e w' => e = .returned (.int .i64 (checkA s)) ∧ Below W.heap.size W w') := fun W hW => check_any (hs'.below hW) hw hf
 have HMG : Hid (∀ W,Below w.heap.size w W → Calls Tryz.prog 34 #[.agg #[.string sn,.slice ma mn mc,.slice ea en ec,.slice ta tn tc],.string nm] W fun e w' => ∃ vf vr,e = .returned (.tuple #[.agg #[.string ((msgOf s nm).getD zMs).name,vf,vr],.bool (msgOf s nm).isSome]) ∧ (∃ a n c,vf = .slice a n c) ∧ (∃ a n c,vr = .slice a n c) ∧ Below W.heap.size W w') := fun W hW => by
  refine (cmessage_any (hms.below hW) HFL.out).mono ?_
  rintro e w' ⟨vf,vr,rfl,h1,h2,h3⟩
  obtain ⟨a,c,rfl⟩ := own_form h1
  obtain ⟨a',c',rfl⟩ := own_form h2
  exact ⟨_,_,rfl,⟨_,_,_,rfl⟩,⟨_,_,_,rfl⟩,h3⟩
 have HVC : Hid (∀ W,Below w.heap.size w W → Calls Tryz.prog 35 #[.agg #[.int .i64 K,.int .i64 N,.string S,.slice a1 n1 c1,.slice a2 n2 c2]] W fun e w' => e = .returned (.bool (chkN n t)) ∧ Below W.heap.size W w') := fun W hW => vcheck_any n t _ W ((ht.cel (Cel.ofBelow hW)).v2) hn hc hsm
 have HME : Hid (∀ W b,Below w.heap.size w W → KnS s W b → Calls Tryz.prog 36 #[.agg #[.string sn,.slice ma mn mc,.slice ea en ec,.slice ta tn tc,.map (some b)],.string nm,.agg #[.int .i64 K,.int .i64 N,.string S,.slice a1 n1 c1,.slice a2 n2 c2]] W (MesP s (msgV n s nm t) b W)) := fun W b hW hk => message_any s sn ma ea ta mn mc en ec tn tc b HFL.out n t nm _ W (ht.cel (Cel.ofBelow hW)) hk (hs'.below hW)
 have BS : Blk ((w.alloc (Obj.cells #[.string sn,.slice ma mn mc,.slice ea en ec,.slice ta tn tc] 26)).alloc (Obj.cells #[.int .i64 K,.int .i64 N,.string S,.slice a1 n1 c1,.slice a2 n2 c2] 30)) w.heap.size #[.string sn,.slice ma mn mc,.slice ea en ec,.slice ta tn tc] 26 := (Blk.new w _ _).below ((Below.refl _ _).alloc (Nat.le_refl _) _)
 have BT : Blk ((w.alloc (Obj.cells #[.string sn,.slice ma mn mc,.slice ea en ec,.slice ta tn tc] 26)).alloc (Obj.cells #[.int .i64 K,.int .i64 N,.string S,.slice a1 n1 c1,.slice a2 n2 c2] 30)) (w.heap.size + 1) #[.int .i64 K,.int .i64 N,.string S,.slice a1 n1 c1,.slice a2 n2 c2] 30 := by
  have := Blk.new (w.alloc (Obj.cells #[.string sn,.slice ma mn mc,.slice ea en ec,.slice ta tn tc] 26)) #[.int .i64 K,.int .i64 N,.string S,.slice a1 n1 c1,.slice a2 n2 c2] 30
  rwa [show (w.alloc (Obj.cells #[.string sn,.slice ma mn mc,.slice ea en ec,.slice ta tn tc] 26)).heap.size = w.heap.size + 1 from by simp] at this
 have hbw : Below w.heap.size w ((w.alloc (Obj.cells #[.string sn,.slice ma mn mc,.slice ea en ec,.slice ta tn tc] 26)).alloc (Obj.cells #[.int .i64 K,.int .i64 N,.string S,.slice a1 n1 c1,.slice a2 n2 c2] 30)) := ((Below.refl _ _).alloc (Nat.le_refl _) _).alloc (by simp) _
 clear hX hK hN hS hsn hs' hms hen hmt ht hw hf hn hc hsm
 go_enter Tryz.func12,Tryz.ntmps12
 go_wp2_with fail
 refine (HCK.out _ hbw).mono ?_
 rintro ee w1 ⟨rfl,hb1⟩
 have hbw1 : Below w.heap.size w w1 := hbw.trans (hb1.mono hbw.size)
 have BS1 := BS.below hb1
 have BT1 := BT.below hb1
 clear hb1 hbw BS BT HCK
 obtain ⟨A,hA⟩ : ∃ z,checkA s = z := ⟨_,rfl⟩
 have HA : Hid (checkA s = A) := hA
 rw [hA]
 clear hA
 by_cases hA0 : A = 0
 rotate_left
 ·have d : (A != 0) = true := by simpa using hA0
  have HX1 : Hid (1 = X) := (by rw [← HV.out,validA,HA.out,if_pos hA0] : 1 = X)
  clear hA0
  go_wp2_with fail
  go_ret
  exact ⟨congrArg (fun z => Ending.returned (Value.int .i64 z)) HX1.out,hbw1⟩
 ·subst hA0
  have f0 := (BS1.cell 0).trans rfl
  have f1 := (BS1.cell 1).trans rfl
  have f2 := (BS1.cell 2).trans rfl
  have f3 := (BS1.cell 3).trans rfl
  go_wp2_with fail
  refine (HMG.out _ hbw1).mono ?_
  rintro ee w2 ⟨vf,vr,rfl,⟨fa,fl,fc,rfl⟩,⟨ra,rl,rc,rfl⟩,hb2⟩
  obtain ⟨mnm,hmnm⟩ : ∃ z,((msgOf s nm).getD zMs).name = z := ⟨_,rfl⟩
  obtain ⟨ok,hok⟩ : ∃ z,(msgOf s nm).isSome = z := ⟨_,rfl⟩
  have HOK : Hid ((msgOf s nm).isSome = ok) := hok
  rw [hmnm,hok]
  have al3 : Below w2.heap.size w2 (w2.alloc (Obj.cells #[.string mnm,.slice fa fl fc,.slice ra rl rc] 50)) := (Below.refl _ _).alloc (Nat.le_refl _) _
  have hbw2 : Below w.heap.size w w2 := hbw1.trans (hb2.mono hbw1.size)
  have hbw3 : Below w.heap.size w (w2.alloc (Obj.cells #[.string mnm,.slice fa fl fc,.slice ra rl rc] 50)) := hbw2.trans (al3.mono hbw2.size)
  have BS3 := (BS1.below hb2).below al3
  have BT3 := (BT1.below hb2).below al3
  have HVC3 : Hid (Calls Tryz.prog 35 #[.agg #[.int .i64 K,.int .i64 N,.string S,.slice a1 n1 c1,.slice a2 n2 c2]] (w2.alloc (Obj.cells #[.string mnm,.slice fa fl fc,.slice ra rl rc] 50)) fun e w' => e = .returned (.bool (chkN n t)) ∧ Below (w2.alloc (Obj.cells #[.string mnm,.slice fa fl fc,.slice ra rl rc] 50)).heap.size (w2.alloc (Obj.cells #[.string mnm,.slice fa fl fc,.slice ra rl rc] 50)) w') := HVC.out _ hbw3
  clear f0 f1 f2 f3 hmnm hok hb2 hbw1 hbw2 al3 BS1 BT1
  cases ok with
  | false =>
   have HX1 : Hid (14 = X) := (by rw [← HV.out,validA,HA.out,if_neg (by simp),if_pos HOK.out] : 14 = X)
   go_wp2_with fail
   go_ret
   exact ⟨congrArg (fun z => Ending.returned (Value.int .i64 z)) HX1.out,hbw3⟩
  | true =>
   have t0 := (BT3.cell 0).trans rfl
   have t1 := (BT3.cell 1).trans rfl
   have t2 := (BT3.cell 2).trans rfl
   have t3 := (BT3.cell 3).trans rfl
   have t4 := (BT3.cell 4).trans rfl
   go_wp2_with fail
   refine HVC3.out.mono ?_
   rintro ee w4 ⟨rfl,hb4⟩
   have hbw4 : Below w.heap.size w w4 := hbw3.trans (hb4.mono hbw3.size)
   have BS4 := BS3.below hb4
   have BT4 := BT3.below hb4
   clear t0 t1 t2 t3 t4 hb4 hbw3 BS3 BT3 HVC3
   have t0 := (BT4.cell 0).trans rfl
   obtain ⟨C,hC⟩ : ∃ z,chkN n t = z := ⟨_,rfl⟩
   have HC : Hid (chkN n t = C) := hC
   rw [hC]
   clear hC
   cases C with
   | false =>
    have HX1 : Hid (1 = X) := (by rw [← HV.out,validA,HA.out,if_neg (by simp),if_neg (by rw [HOK.out]; simp),if_pos (.inl HC.out)] : 1 = X)
    go_wp2_with fail
    go_ret
    exact ⟨congrArg (fun z => Ending.returned (Value.int .i64 z)) HX1.out,hbw4⟩
   | true =>
    by_cases hK3 : K = 3
    rotate_left
    ·have d : (K != 3) = true := by simpa using hK3
     have HX1 : Hid (1 = X) := (by rw [← HV.out,validA,HA.out,if_neg (by simp),if_neg (by rw [HOK.out]; simp),if_pos (.inr (by rw [HT3.out]; exact hK3))] : 1 = X)
     clear hK3
     go_wp2_with fail
     go_ret
     exact ⟨congrArg (fun z => Ending.returned (Value.int .i64 z)) HX1.out,hbw4⟩
    ·have d : (K != 3) = false := by simpa using hK3
     have HX1 : Hid (msgV n s nm t = X) := (by rw [← HV.out,validA,HA.out,if_neg (by simp),if_neg (by rw [HOK.out]; simp),if_neg (by rw [HC.out,HT3.out]; simp [hK3])] : msgV n s nm t = X)
     have alm : Below w4.heap.size w4 (w4.alloc (.map #[] 0)) := (Below.refl _ _).alloc (Nat.le_refl _) _
     have hbw5 : Below w.heap.size w (w4.alloc (.map #[] 0)) := hbw4.trans (alm.mono hbw4.size)
     have HM5 : Hid (Calls Tryz.prog 36 #[.agg #[.string sn,.slice ma mn mc,.slice ea en ec,.slice ta tn tc,.map (some w4.heap.size)],.string nm,.agg #[.int .i64 K,.int .i64 N,.string S,.slice a1 n1 c1,.slice a2 n2 c2]] (w4.alloc (.map #[] 0)) (MesP s X w4.heap.size (w4.alloc (.map #[] 0)))) := (by
      have h1 := HME.out (w4.alloc (.map #[] 0)) w4.heap.size hbw5 (KnS.made s w4)
      rw [HX1.out] at h1
      exact h1 : Calls Tryz.prog _ _ _ _)
     have BT5 := BT4.below alm
     have f0 := (BS4.cell 0).trans rfl
     have f1 := (BS4.cell 1).trans rfl
     have f2 := (BS4.cell 2).trans rfl
     have f3 := (BS4.cell 3).trans rfl
     have u0 := (BT5.cell 0).trans rfl
     have u1 := (BT5.cell 1).trans rfl
     have u2 := (BT5.cell 2).trans rfl
     have u3 := (BT5.cell 3).trans rfl
     have u4 := (BT5.cell 4).trans rfl
     have HLE : Hid (w.heap.size ≤ w4.heap.size) := hbw4.size
     clear hK3 HX1 HME HMG HVC BS4 BT4 BT5 alm hbw4
     go_wp2_with fail
     refine Calls.mono HM5.out ?_
     rintro ee w6 ⟨rfl,hk6, -⟩
     have hbe : Below w.heap.size w w6 := hbw5.trans (hk6.toBelow hbw5.size (fun q e => by rw [e]; exact HLE.out))
     clear hk6 hbw5 f0 f1 f2 f3 u0 u1 u2 u3 u4 HM5
     go_wp2_with fail
     go_ret
     exact ⟨rfl,hbe⟩
theorem RowG.blk {w : World} {b : Nat} {cs : Array Value} {t : TypeId} {size n : Nat} {rs : List (List Value)} (h : Blk w b cs t) (hc : cs.toList = rs.flatten) (hl : ∀ r ∈ rs,r.length = size) (hn : rs.length = n) (hm : n ≤ 1000000) : RowG w (.slice (some ⟨b,0,none⟩) n n) size rs := by
 subst hn
 refine ⟨some ⟨b,0,none⟩,rs.length,rfl,Nat.le_refl _,by unfold maxLen; omega,(fun e => by cases e),fun _ => ⟨b,0,rfl,fun i c u j hi hj => ?_⟩⟩
 rw [h.cell,← Array.getElem?_toList,hc,Nat.zero_add]
 exact flat_get rs hl i c hi j u hj
theorem Blk.newAt {w : World} {b : Nat} {cs : Array Value} {t : TypeId} (h : w.heap.size = b) : Blk (w.alloc (.cells cs t)) b cs t := by subst h; exact Blk.new w cs t
theorem Blk.up {w : World} {b : Nat} {cs : Array Value} {t : TypeId} (h : Blk w b cs t) (o : Obj) : Blk (w.alloc o) b cs t := h.below ((Below.refl _ _).alloc (Nat.le_refl _) _)
end
end Go.Proofs.YtfnjbbaphmmjlaaGreat
