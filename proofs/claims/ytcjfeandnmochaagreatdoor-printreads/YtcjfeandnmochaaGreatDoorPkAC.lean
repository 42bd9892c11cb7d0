/- Part 3 of what the proof stands on. -/
import Derived.Test.YtcjfeandnmochaaGreatDoorPkAB
import Derived.Maps.AppendAt
namespace Go.Proofs.YtcjfeandnmochaaGreatDoor
open Go.ChangeShapes Go.WideShapes Go.ChangeAt Go.RowKit Go.Maps
set_option linter.unusedVariables false
set_option linter.unusedSimpArgs false
set_option maxRecDepth 20000
theorem types_told (k : Int) (s : ByteArray) (ms : List MsS) (es : List EnS) : memT (k, s) (five true true true true true ++ ms.map (fun m => (7, m.name)) ++ es.map (fun m => (6, m.name))) = typeB (ms.map MsS.name) (es.map EnS.name) k s := by
 rw [Bool.eq_iff_iff, memT_iff]
 unfold typeB
 simp only [List.mem_append, mem5, true_and, Bool.or_eq_true, Bool.and_eq_true, decide_eq_true_eq, memB_iff, List.mem_map, Prod.mk.injEq]
 constructor
 ·rintro ((h | ⟨m, hm, h1, h2⟩) | ⟨m, hm, h1, h2⟩)
  ·rcases h with ⟨h1, h2⟩ | ⟨h1, h2⟩ | ⟨h1, h2⟩ | ⟨h1, h2⟩ | ⟨h1, h2⟩ <;> exact .inl (.inl ⟨by omega, h2⟩)
  ·exact .inr ⟨h1.symm, m, hm, h2⟩
  ·exact .inl (.inr ⟨h1.symm, m, hm, h2⟩)
 ·rintro ((⟨h1, h2⟩ | ⟨h1, m, hm, h2⟩) | ⟨h1, m, hm, h2⟩)
  ·refine .inl (.inl ?_)
   have : k = 1 ∨ k = 2 ∨ k = 3 ∨ k = 4 ∨ k = 5 := by omega
   rcases this with h | h | h | h | h
   ·exact .inl ⟨h, h2⟩
   ·exact .inr (.inl ⟨h, h2⟩)
   ·exact .inr (.inr (.inl ⟨h, h2⟩))
   ·exact .inr (.inr (.inr (.inl ⟨h, h2⟩)))
   ·exact .inr (.inr (.inr (.inr ⟨h, h2⟩)))
  ·exact .inr ⟨m, hm, h1.symm, h2⟩
  ·exact .inl (.inr ⟨m, hm, h1.symm, h2⟩)
set_option maxHeartbeats 4000000 in
theorem typesof_any {w : World} {v : Value} {s : ScS} (hr : ScIn w v s) (hw : ScW s) (h1 : s.msgs.length ≤ 30000) (h2 : s.enums.length ≤ 30000) :
  Calls Tryz.prog 27 #[v] w fun e w' => (∃ bY ny T, e = .returned (.map (some bY)) ∧ w.heap.size ≤ bY ∧ SetT w' bY ny T ∧ ∀ k s', memT (k, s') T = typeB s.mn s.en k s') ∧ Below w.heap.size w w' := by
 obtain ⟨vm, ve, vt, rfl, hm, he, ht⟩ := hr
 obtain ⟨am, cm, rfl, qm1, qm2, _⟩ := hm.open
 obtain ⟨ae, ce, rfl, qe1, qe2, _⟩ := he.open
 obtain ⟨at', ct, rfl, qt1, qt2⟩ := ht.form2
 unfold maxLen at qm2 qe2
 have HM : Hid _ := hm
 have HE : Hid _ := he
 clear hm he ht
 obtain ⟨nm, ms, es, ts⟩ := s
 simp only at *
 have HM : Hid (MsIn w (.slice am ms.length cm) ms) := HM
 have HE : Hid (EnIn w (.slice ae es.length ce) es) := HE
 generalize (mtRows ts).length = T at *
 obtain ⟨M, hM⟩ : ∃ N, ms.length = N := ⟨_, rfl⟩
 obtain ⟨E, hE⟩ : ∃ N, es.length = N := ⟨_, rfl⟩
 rw [hM] at HM qm1 h1 ⊢
 rw [hE] at HE qe1 h2 ⊢
 have HNM : Hid (ms.length = M) := hM
 have HNE : Hid (es.length = E) := hE
 have HW : Hid (ScW ⟨nm, ms, es, ts⟩) := hw
 clear hM hE hw
 have hmm := @run_makeMap Tryz.prog
 go_enter Tryz.func27, Tryz.ntmps27
 go_wp2_with fail
 refine wp_region_held_drew (S := fun _ => True) (by kernel_rfl) trivial (fun hS => ?_)
 have HW0 : Hid (Below w.heap.size w (w.alloc (.cells #[.string nm, .slice am M cm, .slice ae E ce, .slice at' T ct] 27)).drew) := below_drewN 1 ((Below.refl _ _).alloc (Nat.le_refl _) _)
 have HX0 : Hid (Blk (w.alloc (.cells #[.string nm, .slice am M cm, .slice ae E ce, .slice at' T ct] 27)).drew w.heap.size #[.string nm, .slice am M cm, .slice ae E ce, .slice at' T ct] 27) := Blk.new w #[.string nm, .slice am M cm, .slice ae E ce, .slice at' T ct] 27
 generalize (w.alloc (.cells #[.string nm, .slice am M cm, .slice ae E ce, .slice at' T ct] 27)).drew = W0 at *
 clear hS
 refine rg_take 1 9 (.agg #[.int .i64 1, .string ⟨#[]⟩]) _ rfl rfl (by kernel_rfl) (by kernel_rfl) (by kernel_rfl) (fun _ _ _ h => h) (by rfl) (fun w' hw' => ?_) trivial (listed' := #[false, true, false, false, false, false, false, false, false, false, false, false, false, false, false, false, false, false]) (by kernel_rfl) rfl ?_
 ·go_simp
 simp only [List.setIfInBounds_toArray, List.set_cons_zero, List.set_cons_succ]
 refine rg_take 2 10 (.agg #[]) _ rfl rfl (by kernel_rfl) (by kernel_rfl) (by kernel_rfl) (fun _ _ _ h => h) (by rfl) (fun w' hw' => ?_) trivial (listed' := #[false, true, true, false, false, false, false, false, false, false, false, false, false, false, false, false, false, false]) (by kernel_rfl) rfl ?_
 ·go_simp
 simp only [List.setIfInBounds_toArray, List.set_cons_zero, List.set_cons_succ]
 refine rg_take 4 11 (.agg #[.int .i64 2, .string ⟨#[]⟩]) _ rfl rfl (by kernel_rfl) (by kernel_rfl) (by kernel_rfl) (fun _ _ _ h => h) (by rfl) (fun w' hw' => ?_) trivial (listed' := #[false, true, true, false, true, false, false, false, false, false, false, false, false, false, false, false, false, false]) (by kernel_rfl) rfl ?_
 ·go_simp
 simp only [List.setIfInBounds_toArray, List.set_cons_zero, List.set_cons_succ]
 refine rg_take 5 12 (.agg #[]) _ rfl rfl (by kernel_rfl) (by kernel_rfl) (by kernel_rfl) (fun _ _ _ h => h) (by rfl) (fun w' hw' => ?_) trivial (listed' := #[false, true, true, false, true, true, false, false, false, false, false, false, false, false, false, false, false, false]) (by kernel_rfl) rfl ?_
 ·go_simp
 simp only [List.setIfInBounds_toArray, List.set_cons_zero, List.set_cons_succ]
 refine rg_take 7 13 (.agg #[.int .i64 3, .string ⟨#[]⟩]) _ rfl rfl (by kernel_rfl) (by kernel_rfl) (by kernel_rfl) (fun _ _ _ h => h) (by rfl) (fun w' hw' => ?_) trivial (listed' := #[false, true, true, false, true, true, false, true, false, false, false, false, false, false, false, false, false, false]) (by kernel_rfl) rfl ?_
 ·go_simp
 simp only [List.setIfInBounds_toArray, List.set_cons_zero, List.set_cons_succ]
 refine rg_take 8 14 (.agg #[]) _ rfl rfl (by kernel_rfl) (by kernel_rfl) (by kernel_rfl) (fun _ _ _ h => h) (by rfl) (fun w' hw' => ?_) trivial (listed' := #[false, true, true, false, true, true, false, true, true, false, false, false, false, false, false, false, false, false]) (by kernel_rfl) rfl ?_
 ·go_simp
 simp only [List.setIfInBounds_toArray, List.set_cons_zero, List.set_cons_succ]
 refine rg_take 10 15 (.agg #[.int .i64 4, .string ⟨#[]⟩]) _ rfl rfl (by kernel_rfl) (by kernel_rfl) (by kernel_rfl) (fun _ _ _ h => h) (by rfl) (fun w' hw' => ?_) trivial (listed' := #[false, true, true, false, true, true, false, true, true, false, true, false, false, false, false, false, false, false]) (by kernel_rfl) rfl ?_
 ·go_simp
 simp only [List.setIfInBounds_toArray, List.set_cons_zero, List.set_cons_succ]
 refine rg_take 11 16 (.agg #[]) _ rfl rfl (by kernel_rfl) (by kernel_rfl) (by kernel_rfl) (fun _ _ _ h => h) (by rfl) (fun w' hw' => ?_) trivial (listed' := #[false, true, true, false, true, true, false, true, true, false, true, true, false, false, false, false, false, false]) (by kernel_rfl) rfl ?_
 ·go_simp
 simp only [List.setIfInBounds_toArray, List.set_cons_zero, List.set_cons_succ]
 refine rg_take 13 17 (.agg #[.int .i64 5, .string ⟨#[]⟩]) _ rfl rfl (by kernel_rfl) (by kernel_rfl) (by kernel_rfl) (fun _ _ _ h => h) (by rfl) (fun w' hw' => ?_) trivial (listed' := #[false, true, true, false, true, true, false, true, true, false, true, true, false, true, false, false, false, false]) (by kernel_rfl) rfl ?_
 ·go_simp
 simp only [List.setIfInBounds_toArray, List.set_cons_zero, List.set_cons_succ]
 refine rg_take 14 18 (.agg #[]) _ rfl rfl (by kernel_rfl) (by kernel_rfl) (by kernel_rfl) (fun _ _ _ h => h) (by rfl) (fun w' hw' => ?_) trivial (listed' := #[false, true, true, false, true, true, false, true, true, false, true, true, false, true, true, false, false, false]) (by kernel_rfl) rfl ?_
 ·go_simp
 simp only [List.setIfInBounds_toArray, List.set_cons_zero, List.set_cons_succ]
 refine rg_run 0 8 (.map (some W0.heap.size)) (W0.alloc (.map #[] 0)) rfl rfl (by kernel_rfl) (by rfl) (listed' := #[true, true, true, false, true, true, false, true, true, false, true, true, false, true, true, false, false, false]) (by kernel_rfl) (by go_simp) trivial ?_
 simp only [List.setIfInBounds_toArray, List.set_cons_zero, List.set_cons_succ]
 refine rg_five (b := W0.heap.size) (B := W0.heap.size) (w0 := W0) (Nat.le_refl _) rfl rfl rfl rfl rfl rfl rfl rfl rfl rfl rfl rfl rfl rfl rfl rfl rfl rfl rfl rfl rfl rfl rfl rfl rfl rfl rfl rfl rfl rfl rfl (by intro b1 b2 b3 b4 b5; cases b1 <;> cases b2 <;> cases b3 <;> cases b4 <;> cases b5 <;> kernel_rfl) ?fin 5 0 false false false false false rfl (by omega) (W0.alloc (.map #[] 0)) (by simp) ((Below.refl _ _).alloc (Nat.le_refl _) _) (SetK.made 88 W0)
 intro W1 n1 hn1 hbel1 hset1
 have HS1 : Hid (SetT W1 W0.heap.size n1 (five true true true true true)) := hset1
 clear hset1
 refine rg_take 16 19 (.map (some W0.heap.size)) _ rfl rfl (by kernel_rfl) (by kernel_rfl) (by kernel_rfl) (fun _ _ _ h => h) (by rfl) (fun w' hw' => ?_) trivial (listed' := #[true, true, true, true, true, true, true, true, true, true, true, true, true, true, true, true, true, false]) (by kernel_rfl) rfl ?_
 ·go_simp
 simp only [List.setIfInBounds_toArray, List.set_cons_zero, List.set_cons_succ]
 refine rg_take 17 3 (.map (some W0.heap.size)) _ rfl rfl (by kernel_rfl) (by kernel_rfl) (by kernel_rfl) (fun _ _ _ h => h) (by rfl) (fun w' hw' => ?_) trivial (listed' := #[true, true, true, true, true, true, true, true, true, true, true, true, true, true, true, true, true, true]) (by kernel_rfl) rfl ?_
 ·go_simp
 simp only [List.setIfInBounds_toArray, List.set_cons_zero, List.set_cons_succ]
 refine wpAnyH_done (by kernel_rfl) ?_ _
 clear hmm
 have hx0 : w.heap.size < W0.heap.size := HX0.out.lt
 obtain ⟨bY, hbY⟩ : ∃ n, W0.heap.size = n := ⟨_, rfl⟩
 rw [hbY] at HS1 hbel1 hx0 ⊢
 have HBY : Hid (W0.heap.size = bY) := hbY
 clear hbY
 have hb1 : Below W0.heap.size W0 W1 := by rw [HBY.out]; exact hbel1
 have b1 : W1.cell? ⟨w.heap.size, 1, none⟩ = some (.slice am M cm) := (HX0.out.below hb1).cell 1
 clear hb1
 obtain ⟨F, hF⟩ : ∃ F, five true true true true true = F := ⟨_, rfl⟩
 rw [hF] at HS1
 have HF : Hid (five true true true true true = F) := hF
 clear hF
 have HS1' : Hid (SetT W1 bY (n1 + 0) (F ++ (ms.take 0).map fun m => (7, m.name))) := by
  show SetT _ _ _ _
  rw [List.take_zero, List.map_nil, List.append_nil]; exact HS1.out
 clear HS1
 go_wp2_with fail
 clear b1
 go_loopw [23] (fun iv wr => ∃ (k : Nat), iv = .int .i64 (k : Int) ∧ k ≤ M ∧ Hid (SetT wr bY (n1 + k) (F ++ (ms.take k).map fun m => (7, m.name))) ∧ Below bY W0 wr) (fun iv _ => M - (intOf iv).toNat)
 case atStart => exact ⟨0, rfl, by omega, HS1', hbel1⟩
 case round =>
  obtain ⟨k, rfl, hk, HS, hbel⟩ := hrel
  clear HS1'
  have hbW : Below W0.heap.size W0 wr := by rw [HBY.out]; exact hbel
  have hbw : Below w.heap.size w wr := HW0.out.trans (hbW.mono HW0.out.size)
  have hbt : bY < wr.heap.size := SetK.lt HS.out
  by_cases hlt : k < M
  ·obtain ⟨m, hm⟩ : ∃ n, ms[k]? = some n := ⟨_, List.getElem?_eq_getElem (by rw [HNM.out]; exact hlt)⟩
   obtain ⟨g, off, vf, vr, rfl, c0, c1, c2, hf, hrr⟩ := (HM.out.below hbw).get hm
   obtain ⟨a3, c3, rfl, _, _⟩ := hf.form2
   obtain ⟨a4, c4, rfl, _, _⟩ := hrr.form2
   generalize (flRows m.fields).length = nF at *
   generalize (inRows m.reserved).length = nR at *
   have hms := (HW.out.msgs m (List.mem_of_getElem? hm)).1
   have HTK : Hid ((F ++ (ms.take k).map fun m => ((7 : Int), m.name)) ++ [(7, m.name)] = F ++ (ms.take (k + 1)).map fun m => (7, m.name)) := by
    show _ = _
    rw [List.take_add_one, hm, List.map_append, List.append_assoc]; rfl
   generalize m.name = mnm at *
   clear hf hrr hm hbW hbw
   go_wp2_with fail
   clear c0 c1 c2
   have hba : Below wr.heap.size wr (wr.alloc (.cells #[.string mnm, .slice a3 nF c3, .slice a4 nR c4] 40)) := (Below.refl _ _).alloc (Nat.le_refl _) _
   refine (msgtype_any _ _).mono ?_
   rintro e w2 ⟨rfl, hb2⟩
   obtain ⟨kl, hkey⟩ := key_ty (k := 7) (s := mnm) ⟨by decide, by decide⟩ hms
   obtain ⟨D, hown, h2'⟩ := SetK.below (SetK.below HS.out hba) hb2
   have H2 : Hid _ := h2'
   clear h2'
   have hkey' := hkey
   unfold tyV at hkey'
   simp only at hkey'
   have hb3 : Below bY W0 w2 := (hbel.alloc (by omega) _).trans (hb2.mono (by simp; omega))
   have hbt2 : bY ≤ w2.heap.size := by have := hb2.size; simp at this; omega
   clear hb2 hba hbel
   go_wp2_with (first
    | (at_mapUpdate; refine wpList_mapUpdate_own _ rfl _ _ _ 66 rfl 88 118 lawT Tryz.underlying66 (unitElem (H := Unit)) bY (n1 + k) _ rfl hown (by unfold maxLen; omega) _ _ _ rfl rfl hkey' _ [] unitElem_mk ?_; intro w3 hown1 hgrow1)
    | fail)
   have HS3 : Hid (SetT w3 bY (n1 + (k + 1)) (F ++ (ms.take (k + 1)).map fun m => (7, m.name))) := by
    show SetT _ _ _ _
    rw [← HTK.out]
    have := SetK.put lawT hown.isMap H2.out hkey hown1
    unfold SetT
    rw [List.map_append]
    exact this
   have hb4 : Below bY W0 w3 := hb3.grown hgrow1 hbt2 (fun j hj => by cases hj; exact Nat.le_refl _)
   clear hown hown1 hgrow1 H2 hkey hkey' HTK HS hb3
   go_wp2_with fail
   go_roundw
   case rel => exact ⟨k + 1, by go_num, by omega, HS3, hb4⟩
   case measure => simp [intOf]; omega
  ·obtain rfl : k = M := by omega
   have b2 : wr.cell? ⟨w.heap.size, 2, none⟩ = some (.slice ae E ce) := (HX0.out.below hbW).cell 2
   obtain ⟨G, hG⟩ : ∃ G, F ++ (ms.take k).map (fun m => ((7 : Int), m.name)) = G := ⟨_, rfl⟩
   rw [hG] at HS
   have HG : Hid (F ++ ms.map (fun m => ((7 : Int), m.name)) = G) := by
    show _ = _
    rw [← hG, List.take_of_length_le (by rw [HNM.out]; omega)]
   clear hG
   have HS2 : Hid (SetT wr bY (n1 + k + 0) (G ++ (es.take 0).map fun m => (6, m.name))) := by
    show SetT _ _ _ _
    rw [List.take_zero, List.map_nil, List.append_nil]; exact HS.out
   clear HS hbW hbw
   go_wp2_with fail
   clear b2
   go_loopw [36] (fun iv wr => ∃ (i : Nat), iv = .int .i64 (i : Int) ∧ i ≤ E ∧ Hid (SetT wr bY (n1 + k + i) (G ++ (es.take i).map fun m => (6, m.name))) ∧ Below bY W0 wr) (fun iv _ => E - (intOf iv).toNat)
   case atStart => exact ⟨0, rfl, by omega, HS2, hbel⟩
   case round =>
    obtain ⟨i, rfl, hi, HS, hbel⟩ := hrel
    clear HS2
    have hbW : Below W0.heap.size W0 wr := by rw [HBY.out]; exact hbel
    have hbw : Below w.heap.size w wr := HW0.out.trans (hbW.mono HW0.out.size)
    have hbt : bY < wr.heap.size := SetK.lt HS.out
    by_cases hlt : i < E
    ·obtain ⟨m, hm⟩ : ∃ n, es[i]? = some n := ⟨_, List.getElem?_eq_getElem (by rw [HNE.out]; exact hlt)⟩
     obtain ⟨g, off, vf, rfl, c0, c1, hf⟩ := (HE.out.below hbw).get hm
     obtain ⟨a3, c3, rfl, _, _⟩ := hf.form2
     generalize (nmRows m.values).length = nF at *
     have hms := (HW.out.enums m (List.mem_of_getElem? hm)).1
     have HTK : Hid ((G ++ (es.take i).map fun m => ((6 : Int), m.name)) ++ [(6, m.name)] = G ++ (es.take (i + 1)).map fun m => (6, m.name)) := by
      show _ = _
      rw [List.take_add_one, hm, List.map_append, List.append_assoc]; rfl
     generalize m.name = mnm at *
     clear hf hm hbW hbw
     have hba : Below wr.heap.size wr (wr.alloc (.cells #[.string mnm, .slice a3 nF c3] 44)) := (Below.refl _ _).alloc (Nat.le_refl _) _
     obtain ⟨kl, hkey⟩ := key_ty (k := 6) (s := mnm) ⟨by decide, by decide⟩ hms
     obtain ⟨D, hown, h2'⟩ := SetK.below HS.out hba
     have H2 : Hid _ := h2'
     clear h2'
     have hkey' := hkey
     unfold tyV at hkey'
     simp only at hkey'
     have hb3 : Below bY W0 (wr.alloc (.cells #[.string mnm, .slice a3 nF c3] 44)) := hbel.alloc (by omega) _
     have hbt2 : bY ≤ (wr.alloc (.cells #[.string mnm, .slice a3 nF c3] 44)).heap.size := by simp; omega
     clear hba hbel
     go_wp2_with (first
      | (at_mapUpdate; refine wpList_mapUpdate_own _ rfl _ _ _ 66 rfl 88 118 lawT Tryz.underlying66 (unitElem (H := Unit)) bY (n1 + k + i) _ rfl hown (by unfold maxLen; omega) _ _ _ rfl rfl hkey' _ [] unitElem_mk ?_; intro w3 hown1 hgrow1)
      | fail)
     clear c0 c1
     have HS3 : Hid (SetT w3 bY (n1 + k + (i + 1)) (G ++ (es.take (i + 1)).map fun m => (6, m.name))) := by
      show SetT _ _ _ _
      rw [← HTK.out]
      have := SetK.put lawT hown.isMap H2.out hkey hown1
      unfold SetT
      rw [List.map_append]
      exact this
     have hb4 : Below bY W0 w3 := hb3.grown hgrow1 hbt2 (fun j hj => by cases hj; exact Nat.le_refl _)
     clear hown hown1 hgrow1 H2 hkey hkey' HTK HS hb3
     go_wp2_with fail
     go_roundw
     case rel => exact ⟨i + 1, by go_num, by omega, HS3, hb4⟩
     case measure => simp [intOf]; omega
    ·go_wp2_with fail
     go_ret
     refine ⟨⟨bY, _, _, rfl, by omega, HS.out, fun k' s' => ?_⟩, hbw⟩
     rw [← HG.out, ← HF.out, List.take_of_length_le (by rw [HNE.out]; omega)]
     exact types_told k' s' ms es
structure FewL (s : ScS) : Prop where
 msgs : s.msgs.length ≤ 14
 enums : s.enums.length ≤ 10
 meths : s.methods.length ≤ 10
 flds : ∀ m ∈ s.msgs, m.fields.length ≤ 20 ∧ m.reserved.length ≤ 40
 vals : ∀ e ∈ s.enums, e.values.length ≤ 24
structure MayL (s : ScS) : Prop where
 msgs : s.msgs.length ≤ 30000
 enums : s.enums.length ≤ 30000
 meths : s.methods.length ≤ 30000
 flds : ∀ m ∈ s.msgs, m.fields.length ≤ 30000 ∧ m.reserved.length ≤ 30000
 vals : ∀ e ∈ s.enums, e.values.length ≤ 30000
theorem FewL.may {s : ScS} (h : FewL s) : MayL s := ⟨Nat.le_trans h.msgs (by decide), Nat.le_trans h.enums (by decide), Nat.le_trans h.meths (by decide), fun m hm => ⟨Nat.le_trans (h.flds m hm).1 (by decide), Nat.le_trans (h.flds m hm).2 (by decide)⟩, fun e he => Nat.le_trans (h.vals e he) (by decide)⟩
theorem chkMs_err {mn en a : List ByteArray} {m : MsS} {l : List MsS} {X : Int} (hX : X = if freshB m.name a = false then 6 else chkMb mn en m) (h : X ≠ 0) : chkMs mn en a (m :: l) = X := by
 unfold chkMs
 cases hf : freshB m.name a
 ·rw [if_pos rfl]; rw [hf, if_pos rfl] at hX; exact hX.symm
 ·rw [if_neg (by decide)]; rw [hf, if_neg (by decide)] at hX; subst hX; exact orE_ne h _
theorem chkMs_on {mn en a : List ByteArray} {m : MsS} {l : List MsS} (hX : 0 = if freshB m.name a = false then 6 else chkMb mn en m) : freshB m.name a = true ∧ chkMs mn en a (m :: l) = chkMs mn en (a ++ [m.name]) l := by
 cases hf : freshB m.name a
 ·rw [hf, if_pos rfl] at hX; omega
 ·rw [hf, if_neg (by decide)] at hX
  refine ⟨rfl, ?_⟩
  show (if freshB m.name a = false then 6 else orE (chkMb mn en m) (chkMs mn en (a ++ [m.name]) l)) = _
  rw [hf, if_neg (by decide), ← hX, orE_zero]
theorem chkEs_err {a : List ByteArray} {m : EnS} {l : List EnS} {X : Int} (hX : X = if freshB m.name a = false then 6 else chkEb m) (h : X ≠ 0) : chkEs a (m :: l) = X := by
 unfold chkEs
 cases hf : freshB m.name a
 ·rw [if_pos rfl]; rw [hf, if_pos rfl] at hX; exact hX.symm
 ·rw [if_neg (by decide)]; rw [hf, if_neg (by decide)] at hX; subst hX; exact orE_ne h _
theorem chkEs_on {a : List ByteArray} {m : EnS} {l : List EnS} (hX : 0 = if freshB m.name a = false then 6 else chkEb m) : freshB m.name a = true ∧ chkEs a (m :: l) = chkEs (a ++ [m.name]) l := by
 cases hf : freshB m.name a
 ·rw [hf, if_pos rfl] at hX; omega
 ·rw [hf, if_neg (by decide)] at hX
  refine ⟨rfl, ?_⟩
  show (if freshB m.name a = false then 6 else orE (chkEb m) (chkEs (a ++ [m.name]) l)) = _
  rw [hf, if_neg (by decide), ← hX, orE_zero]
set_option maxHeartbeats 4000000 in
theorem check_may {w : World} {v : Value} {s : ScS} (hr : ScIn w v s) (hw : ScW s) (hf : MayL s) :
  Calls Tryz.prog 11 #[v] w fun e w' => e = .returned (.int .i64 (checkA s)) ∧ Below w.heap.size w w' := by
 have HSC := hr
 obtain ⟨vm, ve, vt, rfl, hm, he, ht⟩ := hr
 obtain ⟨am, cm, rfl, qm1, qm2⟩ := hm.form2
 obtain ⟨ae, ce, rfl, qe1, qe2⟩ := he.form2
 obtain ⟨at', ct, rfl, qt1, qt2⟩ := ht.form2
 have hT : (mtRows s.methods).length = s.methods.length := by simp [mtRows]
 rw [hT] at HSC ht qt1 ⊢
 clear hT
 have HWA : Hid (∀ W : World, Calls Tryz.prog 26 #[.agg #[.string s.name, .slice am s.msgs.length cm, .slice ae s.enums.length ce, .slice at' s.methods.length ct]] W fun e w' => e = .returned (.int .i64 (wholeA s)) ∧ Below W.heap.size W w') := fun W => cwhole_any s hw.name hf.msgs hf.enums hf.meths
 have HTO : Hid (∀ W : World, Below w.heap.size w W → Calls Tryz.prog 27 #[.agg #[.string s.name, .slice am s.msgs.length cm, .slice ae s.enums.length ce, .slice at' s.methods.length ct]] W fun e w' => (∃ bY ny T, e = .returned (.map (some bY)) ∧ W.heap.size ≤ bY ∧ SetT w' bY ny T ∧ ∀ k s', memT (k, s') T = typeB s.mn s.en k s') ∧ Below W.heap.size W w') := fun W hW => typesof_any (HSC.below hW) hw hf.msgs hf.enums
 have HM : Hid (MsIn w (.slice am s.msgs.length cm) s.msgs) := hm
 have HE : Hid (EnIn w (.slice ae s.enums.length ce) s.enums) := he
 have HT : Hid (RowG w (.slice at' s.methods.length ct) 3 (mtRows s.methods)) := ht
 have HMN : Hid (s.mn = s.msgs.map MsS.name) := rfl
 obtain ⟨CA, hCA⟩ : ∃ A, checkA s = A := ⟨_, rfl⟩
 obtain ⟨WA, hWA⟩ : ∃ A, wholeA s = A := ⟨_, rfl⟩
 have HCA : Hid (CA = orE WA (orE (orE (chkMs s.mn s.en [] s.msgs) (chkEs s.mn s.enums)) (chkTs s.mn [] s.methods))) := by show _ = _; rw [← hCA, ← hWA]; rfl
 rw [hWA] at HWA
 rw [hCA]
 generalize s.mn = mn at *
 generalize s.en = en at *
 have HF : Hid (MayL s) := hf
 have HW : Hid (ScW s) := hw
 obtain ⟨nm, ms, es, ts⟩ := s
 simp only at *
 have HM : Hid (MsIn w (.slice am ms.length cm) ms) := HM
 have HE : Hid (EnIn w (.slice ae es.length ce) es) := HE
 obtain ⟨M, hM⟩ : ∃ N, ms.length = N := ⟨_, rfl⟩
 obtain ⟨E, hE⟩ : ∃ N, es.length = N := ⟨_, rfl⟩
 obtain ⟨T, hT⟩ : ∃ N, ts.length = N := ⟨_, rfl⟩
 have h1 := hf.msgs
 have h2 := hf.enums
 have h3 := hf.meths
 simp only at h1 h2 h3
 have HL3 : Hid (ts.length ≤ 30000) := h3
 rw [hM] at HM qm1 h1 HWA HTO ⊢
 rw [hE] at HE qe1 h2 HWA HTO ⊢
 rw [hT] at HT qt1 h3 HWA HTO ⊢
 have HNM : Hid (ms.length = M) := hM
 have HNE : Hid (es.length = E) := hE
 have HNT : Hid (ts.length = T) := hT
 clear hM hE hT hf hw HSC hm he ht hCA hWA
 have hba : Below w.heap.size w (w.alloc (.cells #[.string nm, .slice am M cm, .slice ae E ce, .slice at' T ct] 27)) := (Below.refl _ _).alloc (Nat.le_refl _) _
 have BX := Blk.new w #[.string nm, .slice am M cm, .slice ae E ce, .slice at' T ct] 27
 have hmm := @run_makeMap Tryz.prog
 by_cases hw0 : WA = 0
 ·subst hw0
  have HCA : Hid (CA = orE (orE (chkMs mn en [] ms) (chkEs mn es)) (chkTs mn [] ts)) := by show _ = _; rw [HCA.out, orE_zero]
  go_enter Tryz.func11, Tryz.ntmps11
  go_wp2_with fail
  refine (HWA.out _).mono ?_
  rintro e w1 ⟨rfl, hb1⟩
  have BX1 := BX.below hb1
  have b0 : w1.cell? ⟨w.heap.size, 0, none⟩ = some (.string nm) := BX1.cell 0
  have b1 : w1.cell? ⟨w.heap.size, 1, none⟩ = some (.slice am M cm) := BX1.cell 1
  have b2 : w1.cell? ⟨w.heap.size, 2, none⟩ = some (.slice ae E ce) := BX1.cell 2
  have b3 : w1.cell? ⟨w.heap.size, 3, none⟩ = some (.slice at' T ct) := BX1.cell 3
  have hb01 : Below w.heap.size w w1 := hba.trans (hb1.mono hba.size)
  go_wp2_with fail
  clear b0 b1 b2 b3
  refine (HTO.out w1 hb01).mono ?_
  rintro e w2 ⟨⟨bY, ny, Ty, rfl, hbY, hTy, hTt⟩, hb2⟩
  have HTy : Hid (SetT w2 bY ny Ty) := hTy
  have HTT : Hid (∀ k s', memT (k, s') Ty = typeB mn en k s') := hTt
  clear hTy hTt
  have BX2 := BX1.below hb2
  have hb02 : Below w.heap.size w w2 := hb01.trans (hb2.mono hb01.size)
  have b1 : w2.cell? ⟨w.heap.size, 1, none⟩ = some (.slice am M cm) := BX2.cell 1
  have hx2 : w.heap.size < w2.heap.size := BX2.lt
  have hxY : w.heap.size < bY := Nat.lt_of_lt_of_le BX1.lt hbY
  have hYn : bY < w2.heap.size := SetK.lt HTy.out
  clear hb1 hb2 hb01 BX BX1 hba HWA HTO
  go_wp2_with fail
  clear hmm b1
  have HM0 : SetS (w2.alloc (.map #[] 0)) w2.heap.size 0 ((ms.take 0).map MsS.name) := SetK.made 9 w2
  have HTy0 : Hid (SetT (w2.alloc (.map #[] 0)) bY ny Ty) := SetK.below HTy.out ((Below.refl _ _).alloc (Nat.le_refl _) _)
  have hbel0 : Below w.heap.size w (w2.alloc (.map #[] 0)) := hb02.alloc (by omega) _
  have BX0 : Blk (w2.alloc (.map #[] 0)) w.heap.size #[.string nm, .slice am M cm, .slice ae E ce, .slice at' T ct] 27 := BX2.below ((Below.refl _ _).alloc (Nat.le_refl _) _)
  obtain ⟨bn, hbn⟩ : ∃ n, w2.heap.size = n := ⟨_, rfl⟩
  rw [hbn] at HM0 hYn hx2 ⊢
  clear hbn HTy BX2 hb02
  obtain ⟨P1, hP1⟩ : ∃ A, chkMs mn en [] ms = A := ⟨_, rfl⟩
  have HP1 : Hid (P1 = chkMs mn en ((ms.take 0).map MsS.name) (ms.drop 0)) := hP1.symm
  have HCA : Hid (CA = orE (orE P1 (chkEs mn es)) (chkTs mn [] ts)) := by show _ = _; rw [HCA.out, hP1]
  clear hP1
  go_loopw [23] (fun iv wr => ∃ (k : Nat), iv = .int .i64 (k : Int) ∧ k ≤ M ∧ Hid (P1 = chkMs mn en ((ms.take k).map MsS.name) (ms.drop k)) ∧ Hid (SetS wr bn k ((ms.take k).map MsS.name)) ∧ Hid (SetT wr bY ny Ty) ∧ Below w.heap.size w wr ∧ Blk wr w.heap.size #[.string nm, .slice am M cm, .slice ae E ce, .slice at' T ct] 27) (fun iv _ => M - (intOf iv).toNat)
  case atStart => exact ⟨0, rfl, by omega, HP1, HM0, HTy0, hbel0, BX0⟩
  case round =>
   obtain ⟨k, rfl, hk, HP, HS, HTy, hbel, BX⟩ := hrel
   clear HM0 HTy0 hbel0 BX0
   have hbw : bn < wr.heap.size := SetK.lt HS.out
   by_cases hlt : k < M
   ·obtain ⟨m, hm⟩ : ∃ n, ms[k]? = some n := ⟨_, List.getElem?_eq_getElem (by rw [HNM.out]; exact hlt)⟩
    obtain ⟨g, off, vf, vr, rfl, c0, c1, c2, hf, hrr⟩ := (HM.out.below hbel).get hm
    have HFf : Hid (RowG wr vf 5 (flRows m.fields)) := hf
    have HRr : Hid (RowG wr vr 1 (inRows m.reserved)) := hrr
    obtain ⟨a3, c3, rfl, _, _⟩ := hf.form2
    obtain ⟨a4, c4, rfl, _, _⟩ := hrr.form2
    have hmem := List.mem_of_getElem? hm
    have HWm : Hid (MsW m) := HW.out.msgs m hmem
    have HFm : Hid (m.fields.length ≤ 30000 ∧ m.reserved.length ≤ 30000) := HF.out.flds m hmem
    have HP2 : Hid (P1 = chkMs mn en ((ms.take k).map MsS.name) (m :: ms.drop (k + 1))) := by show _ = _; rw [HP.out, drop_at hm]
    have HTK : Hid ((ms.take (k + 1)).map MsS.name = (ms.take k).map MsS.name ++ [m.name]) := by show _ = _; rw [take_at hm, List.map_append]; rfl
    obtain ⟨m0, mf, mr⟩ := m
    simp only at c0 c1 c2 HTK HP2 HFm
    have HFf : Hid (RowG wr (.slice a3 (flRows mf).length c3) 5 (flRows mf)) := HFf
    have HRr : Hid (RowG wr (.slice a4 (inRows mr).length c4) 1 (inRows mr)) := HRr
    have HNF : Hid (RowG wr (.slice a3 (flRows mf).length c3) 5 (flRows mf) ∧ RowG wr (.slice a4 (inRows mr).length c4) 1 (inRows mr)) := ⟨HFf.out, HRr.out⟩
    generalize (flRows mf).length = nF at *
    generalize (inRows mr).length = nR at *
    clear hf hrr hm HP hmem HFf HRr
    go_wp2_with fail
    clear c0 c1 c2
    have hba : Below wr.heap.size wr (wr.alloc (.cells #[.string m0, .slice a3 nF c3, .slice a4 nR c4] 40)) := (Below.refl _ _).alloc (Nat.le_refl _) _
    refine (cmsg_any (HNF.out.1.below hba) (HNF.out.2.below hba) HFm.out.1 HFm.out.2 (SetK.below HS.out hba) (by omega) (SetK.below HTy.out hba) (by omega) HTT.out HWm.out).mono ?_
    rintro e w3 ⟨rfl, hs3, hk3⟩
    have HS3 : Hid _ := hs3
    clear hs3
    obtain ⟨X, hX⟩ : ∃ X, (if freshB m0 ((ms.take k).map MsS.name) = false then 6 else chkMb mn en ⟨m0, mf, mr⟩) = X := ⟨_, rfl⟩
    rw [hX]
    have HX : Hid (X = if freshB m0 ((ms.take k).map MsS.name) = false then 6 else chkMb mn en ⟨m0, mf, mr⟩) := hX.symm
    clear hX
    have hb3 : Below w.heap.size w w3 := (hbel.alloc (by omega) _).trans (hk3.toBelow (by simp; omega) (fun k e => by omega))
    by_cases hx0 : X = 0
    ·subst hx0
     obtain ⟨g1, g2⟩ := chkMs_on (m := ⟨m0, mf, mr⟩) (l := ms.drop (k + 1)) HX.out
     have HP3 : Hid (P1 = chkMs mn en ((ms.take (k + 1)).map MsS.name) (ms.drop (k + 1))) := by show _ = _; rw [HP2.out, g2, HTK.out]
     have HS4 : Hid (SetS w3 bn (k + 1) ((ms.take (k + 1)).map MsS.name)) := by show SetS _ _ _ _; rw [HTK.out]; exact HS3.out g1
     have HT4 : Hid (SetT w3 bY ny Ty) := SetK.kp (SetK.below HTy.out hba) hk3 (by omega)
     have BX4 := (BX.below hba).kp hk3 (by omega)
     clear g1 g2 HX HP2 HTK HS3 hba hk3 BX HS HTy hbel
     go_wp2_with fail
     go_roundw
     case rel => exact ⟨k + 1, by go_num, by omega, HP3, HS4, HT4, hb3, BX4⟩
     case measure => simp [intOf]; omega
    ·have hx1 : (X == 0) = false := by simpa using hx0
     have HFin : Hid (X = CA) := by
      show _ = _
      rw [HCA.out, HP2.out, chkMs_err (m := ⟨m0, mf, mr⟩) HX.out hx0, orE_ne hx0, orE_ne hx0]
     go_wp2_with fail
     go_ret
     exact ⟨ret_int HFin.out, hb3⟩
   ·obtain rfl : k = M := by omega
    have hP0 : P1 = 0 := by rw [HP.out, drop_end (by rw [HNM.out]; omega)]; rfl
    obtain ⟨P2, hP2⟩ : ∃ A, chkEs mn es = A := ⟨_, rfl⟩
    have HP2 : Hid (P2 = chkEs (mn ++ (es.take 0).map EnS.name) (es.drop 0)) := by show _ = _; rw [List.take_zero, List.map_nil, List.append_nil, List.drop_zero]; exact hP2.symm
    have HCA : Hid (CA = orE P2 (chkTs mn [] ts)) := by show _ = _; rw [HCA.out, hP0, hP2, orE_zero]
    have HS0 : Hid (SetS wr bn (k + 0) (mn ++ (es.take 0).map EnS.name)) := by
     show SetS _ _ _ _
     have := HS.out
     rw [List.take_of_length_le (by rw [HNM.out]; omega), ← HMN.out] at this
     rw [List.take_zero, List.map_nil, List.append_nil]; exact this
    have b2 : wr.cell? ⟨w.heap.size, 2, none⟩ = some (.slice ae E ce) := BX.cell 2
    clear HP hP0 hP2 HS HP1
    go_wp2_with fail
    clear b2
    go_loopw [38] (fun iv wr => ∃ (i : Nat), iv = .int .i64 (i : Int) ∧ i ≤ E ∧ Hid (P2 = chkEs (mn ++ (es.take i).map EnS.name) (es.drop i)) ∧ Hid (SetS wr bn (k + i) (mn ++ (es.take i).map EnS.name)) ∧ Hid (SetT wr bY ny Ty) ∧ Below w.heap.size w wr ∧ Blk wr w.heap.size #[.string nm, .slice am k cm, .slice ae E ce, .slice at' T ct] 27) (fun iv _ => E - (intOf iv).toNat)
    case atStart => exact ⟨0, rfl, by omega, HP2, HS0, HTy, hbel, BX⟩
    case round =>
     obtain ⟨i, rfl, hi, HP, HS, HTy, hbel, BX⟩ := hrel
     clear HS0 HP2
     have hbw : bn < wr.heap.size := SetK.lt HS.out
     by_cases hlt : i < E
     ·obtain ⟨m, hm⟩ : ∃ n, es[i]? = some n := ⟨_, List.getElem?_eq_getElem (by rw [HNE.out]; exact hlt)⟩
      obtain ⟨g, off, vf, rfl, c0, c1, hf⟩ := (HE.out.below hbel).get hm
      have HFf : Hid (RowG wr vf 2 (nmRows m.values)) := hf
      obtain ⟨a3, c3, rfl, _, _⟩ := hf.form2
      have hmem := List.mem_of_getElem? hm
      have HWm : Hid (EnW m) := HW.out.enums m hmem
      have HFm : Hid (m.values.length ≤ 30000) := HF.out.vals m hmem
      have HP2 : Hid (P2 = chkEs (mn ++ (es.take i).map EnS.name) (m :: es.drop (i + 1))) := by show _ = _; rw [HP.out, drop_at hm]
      have HTK : Hid (mn ++ (es.take (i + 1)).map EnS.name = (mn ++ (es.take i).map EnS.name) ++ [m.name]) := by show _ = _; rw [take_at hm, List.map_append, List.append_assoc]; rfl
      obtain ⟨m0, mf⟩ := m
      simp only at c0 c1 HTK HP2 HFm
      have HFf : Hid (RowG wr (.slice a3 (nmRows mf).length c3) 2 (nmRows mf)) := HFf
      generalize (nmRows mf).length = nF at *
      generalize mn ++ (es.take i).map EnS.name = AL at *
      clear hf hm HP hmem
      go_wp2_with fail
      clear c0 c1
      have hba : Below wr.heap.size wr (wr.alloc (.cells #[.string m0, .slice a3 nF c3] 44)) := (Below.refl _ _).alloc (Nat.le_refl _) _
      refine (cenum_any (HFf.out.below hba) HFm.out (SetK.below HS.out hba) (by omega) HWm.out).mono ?_
      rintro e w3 ⟨rfl, hs3, hk3⟩
      have HS3 : Hid _ := hs3
      clear hs3
      obtain ⟨X, hX⟩ : ∃ X, (if freshB m0 AL = false then 6 else chkEb ⟨m0, mf⟩) = X := ⟨_, rfl⟩
      rw [hX]
      have HX : Hid (X = if freshB m0 AL = false then 6 else chkEb ⟨m0, mf⟩) := hX.symm
      clear hX
      have hb3 : Below w.heap.size w w3 := (hbel.alloc (by omega) _).trans (hk3.toBelow (by simp; omega) (fun k e => by omega))
      by_cases hx0 : X = 0
      ·subst hx0
       obtain ⟨g1, g2⟩ := chkEs_on (m := ⟨m0, mf⟩) (l := es.drop (i + 1)) HX.out
       have HP3 : Hid (P2 = chkEs (mn ++ (es.take (i + 1)).map EnS.name) (es.drop (i + 1))) := by show _ = _; rw [HP2.out, g2, HTK.out]
       have HS4 : Hid (SetS w3 bn (k + (i + 1)) (mn ++ (es.take (i + 1)).map EnS.name)) := by show SetS _ _ _ _; rw [HTK.out]; exact HS3.out g1
       have HT4 : Hid (SetT w3 bY ny Ty) := SetK.kp (SetK.below HTy.out hba) hk3 (by omega)
       have BX4 := (BX.below hba).kp hk3 (by omega)
       clear g1 g2 HX HP2 HTK HS3 hba hk3 BX HS HTy hbel HFf
       go_wp2_with fail
       go_roundw
       case rel => exact ⟨i + 1, by go_num, by omega, HP3, HS4, HT4, hb3, BX4⟩
       case measure => simp [intOf]; omega
      ·have hx1 : (X == 0) = false := by simpa using hx0
       have HFin : Hid (X = CA) := by
        show _ = _
        rw [HCA.out, HP2.out, chkEs_err (m := ⟨m0, mf⟩) HX.out hx0, orE_ne hx0]
       go_wp2_with fail
       go_ret
       exact ⟨ret_int HFin.out, hb3⟩
     ·have hP0 : P2 = 0 := by rw [HP.out, drop_end (by rw [HNE.out]; omega)]; rfl
      have HFin : Hid (chkTs mn [] ts = CA) := by show _ = _; rw [HCA.out, hP0, orE_zero]
      have b3 : wr.cell? ⟨w.heap.size, 3, none⟩ = some (.slice at' T ct) := BX.cell 3
      clear hP0 HP HS
      go_wp2_with fail
      clear b3
      refine (cmethods_any (HT.out.below hbel) HL3.out HTy.out HTT.out HW.out.meths).mono ?_
      rintro e w3 ⟨rfl, hb3⟩
      rw [HFin.out]
      go_wp2_with fail
      go_ret
      exact ⟨rfl, hbel.trans (hb3.mono hbel.size)⟩
 ·have hw1 : (WA == 0) = false := by simpa using hw0
  have HFin : Hid (WA = CA) := by show _ = _; rw [HCA.out, orE_ne hw0]
  go_enter Tryz.func11, Tryz.ntmps11
  go_wp2_with fail
  refine (HWA.out _).mono ?_
  rintro e w1 ⟨rfl, hb1⟩
  have hb01 : Below w.heap.size w w1 := hba.trans (hb1.mono hba.size)
  go_wp2_with fail
  go_ret
  exact ⟨ret_int HFin.out, hb01⟩
end Go.Proofs.YtcjfeandnmochaaGreatDoor
namespace Go.Proofs.YtcjfeandnmochaaGreatDoor
open Go.ChangeShapes Go.WideShapes Go.ChangeAt Go.RowKit
set_option linter.unusedVariables false
set_option linter.unusedSimpArgs false
set_option maxRecDepth 20000
def blkOf (n : Nat) : Code → Option Code
 | .block i b => if i = n then some b else blkOf n b
 | .seq a b => (blkOf n a).orElse fun _ => blkOf n b
 | .cond _ a b => (blkOf n a).orElse fun _ => blkOf n b
 | .loop b => blkOf n b
 | .scope b => blkOf n b
 | _ => none
set_option maxHeartbeats 40000000 in
theorem loopF {K K1 K2 K3 : Act → World → Prop} {post : Ending → World → Prop} (c : Code) (hc : Tryz.f15.body.bind (blkOf 2) = some c) {m0 : ByteArray} {a3 a4 : Option Addr} {c3 c4 nF nR bm bx : Nat} {mf : List FlS} {tz0 tz1 tz2 tz3 tz4 tz8 tz9 tz10 tz11 tz12 tz13 tz14 tz15 tz16 tz17 tz18 tz19 tz20 tz21 tz22 tz23 tz24 tz25 tz26 tz27 tz28 tz29 tz30 tz31 tz32 tz33 tz34 tz35 tz36 tz37 tz38 tz39 tz40 tz41 tz42 tz43 tz44 tz45 tz46 tz47 tz48 tz49 tz50 tz51 tz52 tz53 tz54 tz55 tz56 tz57 tz58 tz59 tz60 tz61 tz62 tz63 tz64 tz65 tz66 tz67 tz68 tz69 tz70 tz71 tz72 tz73 tz74 tz75 tz76 tz77 tz78 tz79 tz80 tz81 tz82 tz83 tz84 tz85 tz86 tz87 tz88 tz89 tz90 tz91 tz92 tz93 tz94 tz95 tz96 tz97 tz98 tz99 tz100 tz101 tz102 tz103 tz104 tz105 tz106 tz107 tz108 tz109 tz110 tz111 tz112 tz113 tz114 tz115 tz116 tz117 tz118 tz119 tz120 tz121 tz122 tz123 tz124 tz125 tz126 tz127 tz128 tz129 tz130 tz131 tz132 tz133 tz134 tz135 tz136 tz137 tz138 tz139 tz140 tz141 tz142 tz143 tz144 tz145 tz146 tz147 tz148 tz149 tz150 tz151 tz152 tz153 tz154 tz155 tz156 tz157 tz158 tz159 tz160 tz161 tz162 tz163 tz164 tz165 tz166 tz167 tz168 tz169 tz170 tz171 tz172 tz173 tz174 tz175 tz176 tz177 tz178 tz179 tz180 tz181 tz182 tz183 tz184 tz185 tz186 tz187 tz188 tz189 tz190 tz191 tz192 tz193 tz194 tz195 tz196 tz197 tz198 tz199 tz200 tz201 tz202 tz203 tz204 tz205 tz206 tz207 tz208 tz209 tz210 tz211 tz212 tz213 tz214 tz215 tz216 tz217 tz218 tz219 tz220 tz221 tz222 tz223 tz224 tz225 tz226 tz227 tz228 tz229 tz230 tz231 tz232 tz233 tz234 tz235 tz236 tz237 tz238 tz239 tz240 tz241 tz242 tz243 tz244 tz245 tz246 tz247 tz248 tz249 tz250 tz251 : Value} {WB wr : World} (BM0 : Blk WB bm #[.string m0, .slice a3 nF c3, .slice a4 nR c4] 40) (HF0 : Hid (RowG WB (.slice a3 nF c3) 5 (flRows mf))) (HBX : Hid (WB.heap.size = bx)) (HNF : Hid (mf.length = nF)) (hnF20 : nF ≤ 20) (BZ : Blk wr bx #[.string m0, .slice none 0 0, .slice none 0 0] 40) (HBW : Hid (Below WB.heap.size WB wr)) (HQ : Hid (∀ (fa : Option Addr) (fc : Nat) (wq : World) (ty7 ty8 ty36 ty37 ty38 ty39 ty40 ty41 ty42 ty43 ty44 ty45 ty46 ty47 ty48 ty49 ty50 ty51 ty52 ty53 ty54 ty55 ty56 ty57 ty58 ty59 ty60 ty61 ty62 ty63 ty64 ty65 ty66 ty67 ty68 ty69 ty70 ty71 ty72 ty73 ty74 ty75 ty76 ty77 ty78 ty79 ty80 ty81 ty82 ty83 ty84 ty85 ty86 ty87 ty88 ty89 ty90 ty91 ty92 ty93 ty94 ty95 ty96 : Value), Hid (wq.ownsRow (bx + 1) 90 5 (.slice fa nF fc) nF (flRows (srtF FlS.tag mf)).flatten) → Blk wq bx #[.string m0, .slice fa nF fc, .slice none 0 0] 40 → Hid (Below WB.heap.size WB wq) → K { tmps := List.toArray (tz0 :: tz1 :: tz2 :: tz3 :: tz4 :: Value.pointer (some ⟨bm, 0, none⟩) :: Value.pointer (some ⟨bx, 0, none⟩) :: ty7 :: ty8 :: tz9 :: tz10 :: tz11 :: tz12 :: tz13 :: tz14 :: tz15 :: tz16 :: tz17 :: tz18 :: tz19 :: tz20 :: tz21 :: tz22 :: tz23 :: tz24 :: tz25 :: tz26 :: tz27 :: tz28 :: tz29 :: tz30 :: tz31 :: tz32 :: tz33 :: tz34 :: tz35 :: ty36 :: ty37 :: ty38 :: ty39 :: ty40 :: ty41 :: ty42 :: ty43 :: ty44 :: ty45 :: ty46 :: ty47 :: ty48 :: ty49 :: ty50 :: ty51 :: ty52 :: ty53 :: ty54 :: ty55 :: ty56 :: ty57 :: ty58 :: ty59 :: ty60 :: ty61 :: ty62 :: ty63 :: ty64 :: ty65 :: ty66 :: ty67 :: ty68 :: ty69 :: ty70 :: ty71 :: ty72 :: ty73 :: ty74 :: ty75 :: ty76 :: ty77 :: ty78 :: ty79 :: ty80 :: ty81 :: ty82 :: ty83 :: ty84 :: ty85 :: ty86 :: ty87 :: ty88 :: ty89 :: ty90 :: ty91 :: ty92 :: ty93 :: ty94 :: ty95 :: ty96 :: tz97 :: tz98 :: tz99 :: tz100 :: tz101 :: tz102 :: tz103 :: tz104 :: tz105 :: tz106 :: tz107 :: tz108 :: tz109 :: tz110 :: tz111 :: tz112 :: tz113 :: tz114 :: tz115 :: tz116 :: tz117 :: tz118 :: tz119 :: tz120 :: tz121 :: tz122 :: tz123 :: tz124 :: tz125 :: tz126 :: tz127 :: tz128 :: tz129 :: tz130 :: tz131 :: tz132 :: tz133 :: tz134 :: tz135 :: tz136 :: tz137 :: tz138 :: tz139 :: tz140 :: tz141 :: tz142 :: tz143 :: tz144 :: tz145 :: tz146 :: tz147 :: tz148 :: tz149 :: tz150 :: tz151 :: tz152 :: tz153 :: tz154 :: tz155 :: tz156 :: tz157 :: tz158 :: tz159 :: tz160 :: tz161 :: tz162 :: tz163 :: tz164 :: tz165 :: tz166 :: tz167 :: tz168 :: tz169 :: tz170 :: tz171 :: tz172 :: tz173 :: tz174 :: tz175 :: tz176 :: tz177 :: tz178 :: tz179 :: tz180 :: tz181 :: tz182 :: tz183 :: tz184 :: tz185 :: tz186 :: tz187 :: tz188 :: tz189 :: tz190 :: tz191 :: tz192 :: tz193 :: tz194 :: tz195 :: tz196 :: tz197 :: tz198 :: tz199 :: tz200 :: tz201 :: tz202 :: tz203 :: tz204 :: tz205 :: tz206 :: tz207 :: tz208 :: tz209 :: tz210 :: tz211 :: tz212 :: tz213 :: tz214 :: tz215 :: tz216 :: tz217 :: tz218 :: tz219 :: tz220 :: tz221 :: tz222 :: tz223 :: tz224 :: tz225 :: tz226 :: tz227 :: tz228 :: tz229 :: tz230 :: tz231 :: tz232 :: tz233 :: tz234 :: tz235 :: tz236 :: tz237 :: tz238 :: tz239 :: tz240 :: tz241 :: tz242 :: tz243 :: tz244 :: tz245 :: tz246 :: tz247 :: tz248 :: tz249 :: tz250 :: tz251 :: []), defers := [] } wq)) :
  Code.wp Tryz.prog c (Exit.inBlock 2 (Exit.then K (Exit.inBlock 1 (Exit.then K1 (Exit.then K2 (Exit.inBlock 0 (Exit.then K3 (bodyPost Tryz.prog Tryz.f15 post)))))))) { tmps := List.toArray (tz0 :: tz1 :: tz2 :: tz3 :: tz4 :: Value.pointer (some ⟨bm, 0, none⟩) :: Value.pointer (some ⟨bx, 0, none⟩) :: Value.int .i64 0 :: tz8 :: tz9 :: tz10 :: tz11 :: tz12 :: tz13 :: tz14 :: tz15 :: tz16 :: tz17 :: tz18 :: tz19 :: tz20 :: tz21 :: tz22 :: tz23 :: tz24 :: tz25 :: tz26 :: tz27 :: tz28 :: tz29 :: tz30 :: tz31 :: tz32 :: tz33 :: tz34 :: tz35 :: tz36 :: tz37 :: tz38 :: tz39 :: tz40 :: tz41 :: tz42 :: tz43 :: tz44 :: tz45 :: tz46 :: tz47 :: tz48 :: tz49 :: tz50 :: tz51 :: tz52 :: tz53 :: tz54 :: tz55 :: tz56 :: tz57 :: tz58 :: tz59 :: tz60 :: tz61 :: tz62 :: tz63 :: tz64 :: tz65 :: tz66 :: tz67 :: tz68 :: tz69 :: tz70 :: tz71 :: tz72 :: tz73 :: tz74 :: tz75 :: tz76 :: tz77 :: tz78 :: tz79 :: tz80 :: tz81 :: tz82 :: tz83 :: tz84 :: tz85 :: tz86 :: tz87 :: tz88 :: tz89 :: tz90 :: tz91 :: tz92 :: tz93 :: tz94 :: tz95 :: tz96 :: tz97 :: tz98 :: tz99 :: tz100 :: tz101 :: tz102 :: tz103 :: tz104 :: tz105 :: tz106 :: tz107 :: tz108 :: tz109 :: tz110 :: tz111 :: tz112 :: tz113 :: tz114 :: tz115 :: tz116 :: tz117 :: tz118 :: tz119 :: tz120 :: tz121 :: tz122 :: tz123 :: tz124 :: tz125 :: tz126 :: tz127 :: tz128 :: tz129 :: tz130 :: tz131 :: tz132 :: tz133 :: tz134 :: tz135 :: tz136 :: tz137 :: tz138 :: tz139 :: tz140 :: tz141 :: tz142 :: tz143 :: tz144 :: tz145 :: tz146 :: tz147 :: tz148 :: tz149 :: tz150 :: tz151 :: tz152 :: tz153 :: tz154 :: tz155 :: tz156 :: tz157 :: tz158 :: tz159 :: tz160 :: tz161 :: tz162 :: tz163 :: tz164 :: tz165 :: tz166 :: tz167 :: tz168 :: tz169 :: tz170 :: tz171 :: tz172 :: tz173 :: tz174 :: tz175 :: tz176 :: tz177 :: tz178 :: tz179 :: tz180 :: tz181 :: tz182 :: tz183 :: tz184 :: tz185 :: tz186 :: tz187 :: tz188 :: tz189 :: tz190 :: tz191 :: tz192 :: tz193 :: tz194 :: tz195 :: tz196 :: tz197 :: tz198 :: tz199 :: tz200 :: tz201 :: tz202 :: tz203 :: tz204 :: tz205 :: tz206 :: tz207 :: tz208 :: tz209 :: tz210 :: tz211 :: tz212 :: tz213 :: tz214 :: tz215 :: tz216 :: tz217 :: tz218 :: tz219 :: tz220 :: tz221 :: tz222 :: tz223 :: tz224 :: tz225 :: tz226 :: tz227 :: tz228 :: tz229 :: tz230 :: tz231 :: tz232 :: tz233 :: tz234 :: tz235 :: tz236 :: tz237 :: tz238 :: tz239 :: tz240 :: tz241 :: tz242 :: tz243 :: tz244 :: tz245 :: tz246 :: tz247 :: tz248 :: tz249 :: tz250 :: tz251 :: []), defers := [] } wr := by
 conv at hc => lhs; whnf
 obtain rfl := Option.some.inj hc
 clear hc
 go_loopw [7] (fun jv wr => ∃ (j : Nat) (fa : Option Addr) (fc : Nat), jv = .int .i64 (j : Int) ∧ j ≤ nF ∧ Hid (wr.ownsRow (bx + 1) 90 5 (.slice fa j fc) j (flRows (srtF FlS.tag (mf.take j))).flatten) ∧ Blk wr bx #[.string m0, .slice fa j fc, .slice none 0 0] 40 ∧ Hid (Below WB.heap.size WB wr)) (fun jv _ => nF - (intOf jv).toNat)
 case atStart => exact ⟨0, none, 0, rfl, by omega, World.ownsRow_nil _ _ _ _, BZ, HBW⟩
 case round =>
  clear BZ HBW
  obtain ⟨j, fa, fc, rfl, hj, HO, BZ, HBW⟩ := hrel
  have x1 : wr.cell? ⟨bm, 1, none⟩ = some (.slice a3 nF c3) := (BM0.below HBW.out).cell 1
  by_cases hlt : j < nF
  ·have hltz : (j : Int) < (nF : Int) := by omega
   obtain ⟨f, hf⟩ : ∃ x, mf[j]? = some x := ⟨_, List.getElem?_eq_getElem (by rw [HNF.out]; exact hlt)⟩
   obtain ⟨g2, o2, hga, hcs⟩ := HF0.out.get (fl_get hf)
   subst hga
   have HFJ : Hid (mf[j]? = some f) := hf
   obtain ⟨f0, f1, f2, f3, f4⟩ := f
   have HCW : Hid (∀ W : World, Below WB.heap.size WB W → W.cell? ⟨bm, 1, none⟩ = some (.slice (some ⟨g2, o2, none⟩) nF c3) ∧ W.cell? ⟨g2, o2 + j * 5, none⟩ = some (.string f0) ∧ W.cell? ⟨g2, o2 + j * 5 + 1, none⟩ = some (.int .i64 f1) ∧ W.cell? ⟨g2, o2 + j * 5 + 2, none⟩ = some (.int .i64 f2) ∧ W.cell? ⟨g2, o2 + j * 5 + 3, none⟩ = some (.int .i64 f3) ∧ W.cell? ⟨g2, o2 + j * 5 + 4, none⟩ = some (.string f4)) := fun W hW => by
    have k0 : WB.cell? ⟨g2, o2 + j * 5, none⟩ = some (.string f0) := by have := hcs 0 _ rfl; rwa [Nat.add_zero] at this
    have k1 : WB.cell? ⟨g2, o2 + j * 5 + 1, none⟩ = some (.int .i64 f1) := hcs 1 _ rfl
    have k2 : WB.cell? ⟨g2, o2 + j * 5 + 2, none⟩ = some (.int .i64 f2) := hcs 2 _ rfl
    have k3 : WB.cell? ⟨g2, o2 + j * 5 + 3, none⟩ = some (.int .i64 f3) := hcs 3 _ rfl
    have k4 : WB.cell? ⟨g2, o2 + j * 5 + 4, none⟩ = some (.string f4) := hcs 4 _ rfl
    exact ⟨(BM0.below hW).cell 1, (hW.cell (World.block_lt_of_cell? _ _ k0)).trans k0, (hW.cell (World.block_lt_of_cell? _ _ k1)).trans k1, (hW.cell (World.block_lt_of_cell? _ _ k2)).trans k2, (hW.cell (World.block_lt_of_cell? _ _ k3)).trans k3, (hW.cell (World.block_lt_of_cell? _ _ k4)).trans k4⟩
   clear hcs hf
   go_wp2_with fail
   clear x1
   refine M_region (T := fun W => W.cell? ⟨bx, 1, none⟩ = some (.slice fa j fc) ∧ W.cell? ⟨bm, 1, none⟩ = some (.slice (some ⟨g2, o2, none⟩) nF c3) ∧ W.cell? ⟨g2, o2 + j * 5, none⟩ = some (.string f0) ∧ W.cell? ⟨g2, o2 + j * 5 + 1, none⟩ = some (.int .i64 f1) ∧ W.cell? ⟨g2, o2 + j * 5 + 2, none⟩ = some (.int .i64 f2) ∧ W.cell? ⟨g2, o2 + j * 5 + 3, none⟩ = some (.int .i64 f3) ∧ W.cell? ⟨g2, o2 + j * 5 + 4, none⟩ = some (.string f4)) (m := 10) (by kernel_rfl) ?_
   have hb0 : Below wr.heap.size wr wr.drew := below_drewN 1 (Below.refl _ _)
   generalize wr.drew = V0 at *
   have HBV : Hid (Below WB.heap.size WB V0) := HBW.out.trans (hb0.mono HBW.out.size)
   have BZ0 := BZ.below hb0
   have HO0 : Hid (V0.ownsRow (bx + 1) 90 5 (.slice fa j fc) j (flRows (srtF FlS.tag (mf.take j))).flatten) := own_below HO.out hb0
   have hbxV : bx < V0.heap.size := BZ0.lt
   have hTW : ∀ W : World, Below V0.heap.size V0 W → (fun W => W.cell? ⟨bx, 1, none⟩ = some (.slice fa j fc) ∧ W.cell? ⟨bm, 1, none⟩ = some (.slice (some ⟨g2, o2, none⟩) nF c3) ∧ W.cell? ⟨g2, o2 + j * 5, none⟩ = some (.string f0) ∧ W.cell? ⟨g2, o2 + j * 5 + 1, none⟩ = some (.int .i64 f1) ∧ W.cell? ⟨g2, o2 + j * 5 + 2, none⟩ = some (.int .i64 f2) ∧ W.cell? ⟨g2, o2 + j * 5 + 3, none⟩ = some (.int .i64 f3) ∧ W.cell? ⟨g2, o2 + j * 5 + 4, none⟩ = some (.string f4)) W := fun W hW => ⟨(BZ0.below hW).cell 1, HCW.out W (HBV.out.trans (hW.mono HBV.out.size))⟩
   have hT := hTW V0 (Below.refl _ _)
   clear HO BZ hb0 HBW
   refine M_take 0 43 (.pointer (some ⟨bx, 1, none⟩)) _ rfl rfl (by kernel_rfl) (by kernel_rfl) (by kernel_rfl) (by kernel_rfl) (by kernel_rfl) (fun _ _ _ h => h) (by rfl) (fun w' hw' => ?_) hT (listed' := #[true, false, false, false, false, false, false, false, false, false, false]) (by kernel_rfl) rfl ?_
   ·obtain ⟨g10, g11, g12, g13, g14, g15, g16⟩ := hw'; go_simp
   simp only [List.setIfInBounds_toArray, List.set_cons_zero, List.set_cons_succ]
   refine M_take 2 45 (.pointer (some ⟨bm, 1, none⟩)) _ rfl rfl (by kernel_rfl) (by kernel_rfl) (by kernel_rfl) (by kernel_rfl) (by kernel_rfl) (fun _ _ _ h => h) (by rfl) (fun w' hw' => ?_) hT (listed' := #[true, false, true, false, false, false, false, false, false, false, false]) (by kernel_rfl) rfl ?_
   ·obtain ⟨g10, g11, g12, g13, g14, g15, g16⟩ := hw'; go_simp
   simp only [List.setIfInBounds_toArray, List.set_cons_zero, List.set_cons_succ]
   refine M_take 4 47 (.int .i64 (j : Int)) _ rfl rfl (by kernel_rfl) (by kernel_rfl) (by kernel_rfl) (by kernel_rfl) (by kernel_rfl) (fun _ _ _ h => h) (by rfl) (fun w' hw' => ?_) hT (listed' := #[true, false, true, false, true, false, false, false, false, false, false]) (by kernel_rfl) rfl ?_
   ·obtain ⟨g10, g11, g12, g13, g14, g15, g16⟩ := hw'; go_simp
   simp only [List.setIfInBounds_toArray, List.set_cons_zero, List.set_cons_succ]
   refine M_take 1 44 (.slice fa j fc) _ rfl rfl (by kernel_rfl) (by kernel_rfl) (by kernel_rfl) (by kernel_rfl) (by kernel_rfl) (fun _ _ _ h => h) (by rfl) (fun w' hw' => ?_) hT (listed' := #[true, true, true, false, true, false, false, false, false, false, false]) (by kernel_rfl) rfl ?_
   ·obtain ⟨g10, g11, g12, g13, g14, g15, g16⟩ := hw'; go_simp
   simp only [List.setIfInBounds_toArray, List.set_cons_zero, List.set_cons_succ]
   refine M_take 3 46 (.slice (some ⟨g2, o2, none⟩) nF c3) _ rfl rfl (by kernel_rfl) (by kernel_rfl) (by kernel_rfl) (by kernel_rfl) (by kernel_rfl) (fun _ _ _ h => h) (by rfl) (fun w' hw' => ?_) hT (listed' := #[true, true, true, true, true, false, false, false, false, false, false]) (by kernel_rfl) rfl ?_
   ·obtain ⟨g10, g11, g12, g13, g14, g15, g16⟩ := hw'; go_simp
   simp only [List.setIfInBounds_toArray, List.set_cons_zero, List.set_cons_succ]
   refine M_take 5 48 (.pointer (some ⟨g2, o2 + j * 5, none⟩)) _ rfl rfl (by kernel_rfl) (by kernel_rfl) (by kernel_rfl) (by kernel_rfl) (by kernel_rfl) (fun _ _ _ h => h) (by rfl) (fun w' hw' => ?_) hT (listed' := #[true, true, true, true, true, true, false, false, false, false, false]) (by kernel_rfl) rfl ?_
   ·obtain ⟨g10, g11, g12, g13, g14, g15, g16⟩ := hw'; go_simp
   simp only [List.setIfInBounds_toArray, List.set_cons_zero, List.set_cons_succ]
   refine M_take 6 49 (.agg #[.string f0, .int .i64 f1, .int .i64 f2, .int .i64 f3, .string f4]) _ rfl rfl (by kernel_rfl) (by kernel_rfl) (by kernel_rfl) (by kernel_rfl) (by kernel_rfl) (fun _ _ _ h => h) (by rfl) (fun w' hw' => ?_) hT (listed' := #[true, true, true, true, true, true, true, false, false, false, false]) (by kernel_rfl) rfl ?_
   ·obtain ⟨g10, g11, g12, g13, g14, g15, g16⟩ := hw'; go_simp
   simp only [List.setIfInBounds_toArray, List.set_cons_zero, List.set_cons_succ]
   have hal : Below V0.heap.size V0 (V0.alloc (.cells #[.string f0, .int .i64 f1, .int .i64 f2, .int .i64 f3, .string f4] 90)) := (Below.refl _ _).alloc (Nat.le_refl _) _
   have BE := Blk.new V0 #[.string f0, .int .i64 f1, .int .i64 f2, .int .i64 f3, .string f4] 90
   obtain ⟨bz, hbz⟩ : ∃ n, V0.heap.size = n := ⟨_, rfl⟩
   refine M_run 7 50 (.slice (some ⟨V0.heap.size, 0, none⟩) 1 1) (V0.alloc (.cells #[.string f0, .int .i64 f1, .int .i64 f2, .int .i64 f3, .string f4] 90)) rfl rfl (by kernel_rfl) (by rfl) (listed' := #[true, true, true, true, true, true, true, true, false, false, false]) (by kernel_rfl) (by go_simp) (hTW _ hal) ?_
   simp only [List.setIfInBounds_toArray, List.set_cons_zero, List.set_cons_succ]
   rw [hbz] at BE ⊢
   have HO1 : Hid ((V0.alloc (.cells #[.string f0, .int .i64 f1, .int .i64 f2, .int .i64 f3, .string f4] 90)).ownsRow (bx + 1) 90 5 (.slice fa j fc) j (flRows (srtF FlS.tag (mf.take j))).flatten) := own_below HO0.out hal
   have BZ1 := BZ0.below hal
   have HB1 : Hid (Below WB.heap.size WB (V0.alloc (.cells #[.string f0, .int .i64 f1, .int .i64 f2, .int .i64 f3, .string f4] 90))) := HBV.out.trans (hal.mono HBV.out.size)
   have hsz1 := hal.size
   generalize (V0.alloc (.cells #[.string f0, .int .i64 f1, .int .i64 f2, .int .i64 f3, .string f4] 90)) = V1 at *
   clear hbz hal hTW hT HO0 BZ0 HBV
   obtain ⟨i0, hi0, hz0, hz1, hz2⟩ := info_parts infoFl
   obtain ⟨v', V2, r1, r2, r3, _⟩ := run_append_own V1 (bx + 1) 37 37 90 i0 _ 5 56 Tryz.underlying37 hi0 hz0 hz1 hz2 rfl (by decide) (.slice fa j fc) j _ HO1.out ⟨bz, 0, none⟩ 1 1 [.string f0, .int .i64 f1, .int .i64 f2, .int .i64 f3, .string f4] rfl (fun k u hu => by
    have := BE.cell k
    rw [Addr.add_lit, Nat.zero_add, this]
    simpa using hu) (fun u hu => by
    simp only [List.mem_cons, List.not_mem_nil, or_false] at hu
    rcases hu with rfl | rfl | rfl | rfl | rfl <;> rfl) (by unfold maxLen; omega) (by omega) (by omega)
   have HRUN : Hid _ := r1
   have KA : Kp (fun q => (Value.slice fa j fc).ownBlock = some q) V1 V2 := (Kp.refl _ _).grown r3 (fun q hq _ => hq)
   obtain ⟨q, nc, hv', _, _, hq1, _⟩ := own_addr r2 (by omega)
   subst hv'
   obtain ⟨L, hL⟩ : ∃ L, srtF FlS.tag (mf.take j) = L := ⟨_, rfl⟩
   have HL : Hid (srtF FlS.tag (mf.take j) = L) := hL
   have HLn : Hid (L.length = j) := by show _ = _; rw [← hL, srtF_len, List.length_take, HNF.out]; omega
   have HO2 : Hid (V2.ownsRow (bx + 1) 90 5 (.slice (some ⟨q, 0, none⟩) (j + 1) nc) (j + 1) (flRows (insL L (⟨f0, f1, f2, f3, f4⟩ : FlS) j)).flatten) := by
    show World.ownsRow _ _ _ _ _ _ _
    rw [insL_end _ _ _ HLn.out, ← hL]
    have e1 : (flRows (srtF FlS.tag (mf.take j) ++ [(⟨f0, f1, f2, f3, f4⟩ : FlS)])).flatten = (flRows (srtF FlS.tag (mf.take j))).flatten ++ [.string f0, .int .i64 f1, .int .i64 f2, .int .i64 f3, .string f4] := by simp [flRows, FlS.cells]
    rw [e1]; exact r2
   clear hL
   have hnob : ¬ (Value.slice fa j fc).ownBlock = some bx := fun hq => by have := (HO1.out.lt bx hq).1; omega
   have BZ2 := BZ1.kp KA hnob
   have HB2 : Hid (Below WB.heap.size WB V2) := HB1.out.grown r3 HB1.out.size (fun q hq => by have := (HO1.out.lt q hq).1; have := HBX.out; omega)
   have hTm : (fun W => W.cell? ⟨bx, 1, none⟩ = some (.slice fa j fc) ∧ W.cell? ⟨bm, 1, none⟩ = some (.slice (some ⟨g2, o2, none⟩) nF c3) ∧ W.cell? ⟨g2, o2 + j * 5, none⟩ = some (.string f0) ∧ W.cell? ⟨g2, o2 + j * 5 + 1, none⟩ = some (.int .i64 f1) ∧ W.cell? ⟨g2, o2 + j * 5 + 2, none⟩ = some (.int .i64 f2) ∧ W.cell? ⟨g2, o2 + j * 5 + 3, none⟩ = some (.int .i64 f3) ∧ W.cell? ⟨g2, o2 + j * 5 + 4, none⟩ = some (.string f4)) V2 := ⟨BZ2.cell 1, HCW.out V2 HB2.out⟩
   clear r1 r2 r3 HO1 BZ1 HB1 KA hnob BE
   refine M_run 8 51 (.slice (some ⟨q, 0, none⟩) (j + 1) nc) (V2) rfl rfl (by kernel_rfl) (by rfl) (listed' := #[true, true, true, true, true, true, true, true, true, false, false]) (by kernel_rfl) (append_run rfl rfl rfl HRUN.out) hTm ?_
   simp only [List.setIfInBounds_toArray, List.set_cons_zero, List.set_cons_succ]
   clear HRUN
   have hT := hTm
   refine M_take 9 52 (.pointer (some ⟨bx, 1, none⟩)) _ rfl rfl (by kernel_rfl) (by kernel_rfl) (by kernel_rfl) (by kernel_rfl) (by kernel_rfl) (fun _ _ _ h => h) (by rfl) (fun w' hw' => ?_) hT (listed' := #[true, true, true, true, true, true, true, true, true, true, false]) (by kernel_rfl) rfl ?_
   ·obtain ⟨g10, g11, g12, g13, g14, g15, g16⟩ := hw'; go_simp
   simp only [List.setIfInBounds_toArray, List.set_cons_zero, List.set_cons_succ]
   have y1 := (BZ2.cell 1).trans rfl
   have z1 := BZ2.froz 1
   refine M_store 10 (V2.setCell ⟨bx, 1, none⟩ (.slice (some ⟨q, 0, none⟩) (j + 1) nc)) rfl rfl (by kernel_rfl) (by rfl) (listed' := #[true, true, true, true, true, true, true, true, true, true, true]) (by kernel_rfl) (by go_simp) (by kernel_rfl) ?_
   refine M_done (by kernel_rfl) ?_ _
   have KS : Kp (fun q => q = bx) V2 (V2.setCell ⟨bx, 1, none⟩ (.slice (some ⟨q, 0, none⟩) (j + 1) nc)) := by
    refine Kp.setCell ?_ (fun _ => by simp) _
    exact Kp.refl _ _
   have BZ3 : Blk (V2.setCell ⟨bx, 1, none⟩ (.slice (some ⟨q, 0, none⟩) (j + 1) nc)) bx #[.string m0, .slice (some ⟨q, 0, none⟩) (j + 1) nc, .slice none 0 0] 40 := BZ2.set 1 _ rfl
   have HO3 : Hid ((V2.setCell ⟨bx, 1, none⟩ (.slice (some ⟨q, 0, none⟩) (j + 1) nc)).ownsRow (bx + 1) 90 5 (.slice (some ⟨q, 0, none⟩) (j + 1) nc) (j + 1) (flRows (insL L (⟨f0, f1, f2, f3, f4⟩ : FlS) j)).flatten) := own_blk HO2.out BZ2 (by decide) KS
   have HB3 : Hid (Below WB.heap.size WB (V2.setCell ⟨bx, 1, none⟩ (.slice (some ⟨q, 0, none⟩) (j + 1) nc))) := HB2.out.trans (KS.toBelow HB2.out.size (fun k e => by have := HBX.out; omega))
   generalize (V2.setCell ⟨bx, 1, none⟩ (.slice (some ⟨q, 0, none⟩) (j + 1) nc)) = V3 at *
   clear y1 z1 KS BZ2 HO2 HB2 hT hTm hsz1 hbxV
   obtain ⟨N, hN⟩ : ∃ N, j + 1 = N := ⟨_, rfl⟩
   have HNN : Hid (j + 1 = N) := hN
   rw [hN] at HO3 BZ3 ⊢
   have hNz : (N : Int) - 1 = (j : Int) := by omega
   have hjw : IntKind.i64.wrap (j : Int) = (j : Int) := wrapN _ (by omega) (by omega)
   have hjN : j < N := by omega
   clear hN
   have hqb : ¬ q = bx := by omega
   have hbq : ¬ bx = q := by omega
   have x3 : V3.cell? ⟨bx, 1, none⟩ = some (.slice (some ⟨q, 0, none⟩) N nc) := BZ3.cell 1
   go_wp2_with fail
   clear x3
   go_loopw [8] (fun iv wr => ∃ i : Nat, iv = .int .i64 (i : Int) ∧ i ≤ j ∧ Hid (∀ y ∈ L.drop i, FlS.tag (⟨f0, f1, f2, f3, f4⟩ : FlS) < FlS.tag y) ∧ Hid (wr.ownsRow (bx + 1) 90 5 (.slice (some ⟨q, 0, none⟩) N nc) N (flRows (insL L (⟨f0, f1, f2, f3, f4⟩ : FlS) i)).flatten) ∧ Blk wr bx #[.string m0, .slice (some ⟨q, 0, none⟩) N nc, .slice none 0 0] 40 ∧ Hid (Below WB.heap.size WB wr)) (fun iv _ => (intOf iv).toNat)
   case atStart => exact ⟨j, rfl, by omega, (by show ∀ y ∈ L.drop j, _; intro y hy; rw [List.drop_of_length_le (by rw [HLn.out]; omega)] at hy; cases hy), HO3, BZ3, HB3⟩
   case round =>
    clear HO3 BZ3 HB3
    obtain ⟨i, rfl, hi, HGT, HO, BZ, HBW⟩ := hrel
    have x1 : wr.cell? ⟨bx, 1, none⟩ = some (.slice (some ⟨q, 0, none⟩) N nc) := BZ.cell 1
    rcases i with _ | p
    ·have HEND : Hid (wr.ownsRow (bx + 1) 90 5 (.slice (some ⟨q, 0, none⟩) N nc) N (flRows (srtF FlS.tag (mf.take N))).flatten) := by
      show World.ownsRow _ _ _ _ _ _ _
      have eq : srtF FlS.tag (mf.take N) = insL L (⟨f0, f1, f2, f3, f4⟩ : FlS) 0 := by
       rw [← HNN.out, srt_more HFJ.out (Nat.zero_le _) (by rw [HNF.out]; omega) (by rw [HL.out]; exact HGT.out) (.inl rfl), HL.out]
      rw [eq]
      exact HO.out
     have hz0 : decide ((0 : Int) < ((0 : Nat) : Int)) = false := by decide
     go_wp2_with fail
     go_quiet (fail)
     go_wp2_with fail
     have HBN : Hid (Below WB.heap.size WB (wr.drewN nq)) := below_drewN nq HBW.out
     have HON : Hid ((wr.drewN nq).ownsRow (bx + 1) 90 5 (.slice (some ⟨q, 0, none⟩) N nc) N (flRows (srtF FlS.tag (mf.take N))).flatten) := own_below HEND.out (below_drewN nq (Below.refl _ _))
     have BZN := BZ.below (below_drewN nq (Below.refl _ _))
     go_roundw
     case rel => exact ⟨j + 1, _, _, by go_num, by omega, by rw [HNN.out]; exact HON, by rw [HNN.out]; exact BZN, HBN⟩
     case measure => simp [intOf]; omega
    ·obtain ⟨i, hpi⟩ : ∃ i, p + 1 = i := ⟨_, rfl⟩
     obtain ⟨y, hy⟩ : ∃ y, L[p]? = some y := ⟨_, List.getElem?_eq_getElem (by rw [HLn.out]; omega)⟩
     obtain ⟨s1, s2, s3⟩ := insL_step (x := (⟨f0, f1, f2, f3, f4⟩ : FlS)) hy
     have HYP : Hid (L[p]? = some y) := hy
     have HPI : Hid (p + 1 = i) := hpi
     rw [hpi] at s1 s2 s3 HO HGT hi ⊢
     have hipz : (i : Int) - 1 = (p : Int) := by omega
     have hpw : IntKind.i64.wrap (p : Int) = (p : Int) := wrapN _ (by omega) (by omega)
     have hiN : (i : Int) < (N : Int) := by omega
     have hpN : (p : Int) < (N : Int) := by omega
     have hi0 : decide ((0 : Int) < (i : Int)) = true := decide_eq_true (by omega)
     have hi0' : 0 < i := by omega
     have hi0d : decide (0 < i) = true := decide_eq_true hi0'
     have hiL : i < (insL L (⟨f0, f1, f2, f3, f4⟩ : FlS) i).length := by rw [insL_len _ _ _ (by rw [HLn.out]; omega), HLn.out]; omega
     have hpL : p < (insL L (⟨f0, f1, f2, f3, f4⟩ : FlS) i).length := by omega
     have HS3 : Hid (((insL L (⟨f0, f1, f2, f3, f4⟩ : FlS) i).set i y).set p (⟨f0, f1, f2, f3, f4⟩ : FlS) = insL L (⟨f0, f1, f2, f3, f4⟩ : FlS) p) := s3
     clear hpi hy s3
     obtain ⟨y0, y1, y2, y3, y4⟩ := y
     have r1 := fl_get s1
     have r2 := fl_get s2
     have cc0 := own_at (fl_len _) HO.out r1 (j := 0) rfl
     have dd0 := own_at (fl_len _) HO.out r2 (j := 0) rfl
     rw [Nat.add_zero] at cc0 dd0
     have cc1 := own_at (fl_len _) HO.out r1 (j := 1) rfl
     have dd1 := own_at (fl_len _) HO.out r2 (j := 1) rfl
     have cc2 := own_at (fl_len _) HO.out r1 (j := 2) rfl
     have dd2 := own_at (fl_len _) HO.out r2 (j := 2) rfl
     have cc3 := own_at (fl_len _) HO.out r1 (j := 3) rfl
     have dd3 := own_at (fl_len _) HO.out r2 (j := 3) rfl
     have cc4 := own_at (fl_len _) HO.out r1 (j := 4) rfl
     have dd4 := own_at (fl_len _) HO.out r2 (j := 4) rfl
     by_cases hlv : f1 < y1
     ·have hlb : decide (f1 < y1) = true := decide_eq_true hlv
      have HG2 : Hid (∀ z ∈ L.drop p, FlS.tag (⟨f0, f1, f2, f3, f4⟩ : FlS) < FlS.tag z) := more_step HYP.out (by rw [HPI.out]; exact HGT.out) hlv
      go_wp2_with fail
      go_quiet (fail)
      have hdr := below_drewN nq (Below.refl wr.heap.size wr)
      have hd : (wr.drewN nq).ownsRow (bx + 1) 90 5 (.slice (some ⟨q, 0, none⟩) N nc) N (flRows (insL L (⟨f0, f1, f2, f3, f4⟩ : FlS) i)).flatten := own_below HO.out hdr
      have BD := BZ.below hdr
      have HBD : Hid (Below WB.heap.size WB (wr.drewN nq)) := HBW.out.trans (hdr.mono HBW.out.size)
      clear cc0 dd0 cc1 dd1 cc2 dd2 cc3 dd3 cc4 dd4 x1 HO BZ HBW hdr HGT
      generalize wr.drewN nq = wd at *
      go_wp2_with fail
      have x1 : wd.cell? ⟨bx, 1, none⟩ = some (.slice (some ⟨q, 0, none⟩) N nc) := BD.cell 1
      have cc0 := own_at (fl_len _) hd r1 (j := 0) rfl
      have dd0 := own_at (fl_len _) hd r2 (j := 0) rfl
      rw [Nat.add_zero] at cc0 dd0
      have v0 : wd.frozen? ⟨q, i * 5, none⟩ = false := own_froz hd _
      have t0 : wd.frozen? ⟨q, p * 5, none⟩ = false := own_froz hd _
      have cc1 := own_at (fl_len _) hd r1 (j := 1) rfl
      have dd1 := own_at (fl_len _) hd r2 (j := 1) rfl
      have v1 : wd.frozen? ⟨q, i * 5 + 1, none⟩ = false := own_froz hd _
      have t1 : wd.frozen? ⟨q, p * 5 + 1, none⟩ = false := own_froz hd _
      have cc2 := own_at (fl_len _) hd r1 (j := 2) rfl
      have dd2 := own_at (fl_len _) hd r2 (j := 2) rfl
      have v2 : wd.frozen? ⟨q, i * 5 + 2, none⟩ = false := own_froz hd _
      have t2 : wd.frozen? ⟨q, p * 5 + 2, none⟩ = false := own_froz hd _
      have cc3 := own_at (fl_len _) hd r1 (j := 3) rfl
      have dd3 := own_at (fl_len _) hd r2 (j := 3) rfl
      have v3 : wd.frozen? ⟨q, i * 5 + 3, none⟩ = false := own_froz hd _
      have t3 : wd.frozen? ⟨q, p * 5 + 3, none⟩ = false := own_froz hd _
      have cc4 := own_at (fl_len _) hd r1 (j := 4) rfl
      have dd4 := own_at (fl_len _) hd r2 (j := 4) rfl
      have v4 : wd.frozen? ⟨q, i * 5 + 4, none⟩ = false := own_froz hd _
      have t4 : wd.frozen? ⟨q, p * 5 + 4, none⟩ = false := own_froz hd _
      have KT : Kp (fun x => x = q) wd ((((((((((wd.setCell ⟨q, i * 5, none⟩ (.string y0)).setCell ⟨q, i * 5 + 1, none⟩ (.int .i64 y1)).setCell ⟨q, i * 5 + 2, none⟩ (.int .i64 y2)).setCell ⟨q, i * 5 + 3, none⟩ (.int .i64 y3)).setCell ⟨q, i * 5 + 4, none⟩ (.string y4)).setCell ⟨q, p * 5, none⟩ (.string f0)).setCell ⟨q, p * 5 + 1, none⟩ (.int .i64 f1)).setCell ⟨q, p * 5 + 2, none⟩ (.int .i64 f2)).setCell ⟨q, p * 5 + 3, none⟩ (.int .i64 f3)).setCell ⟨q, p * 5 + 4, none⟩ (.string f4)).drew := by
       refine Kp.trans ?_ (Kp.ofBelow (below_drewN 1 (Below.refl _ _)))
       refine Kp.setCell ?_ (fun _ => by simp) _
       refine Kp.setCell ?_ (fun _ => by simp) _
       refine Kp.setCell ?_ (fun _ => by simp) _
       refine Kp.setCell ?_ (fun _ => by simp) _
       refine Kp.setCell ?_ (fun _ => by simp) _
       refine Kp.setCell ?_ (fun _ => by simp) _
       refine Kp.setCell ?_ (fun _ => by simp) _
       refine Kp.setCell ?_ (fun _ => by simp) _
       refine Kp.setCell ?_ (fun _ => by simp) _
       refine Kp.setCell ?_ (fun _ => by simp) _
       exact Kp.refl _ _
      have HON : Hid (((((((((((wd.setCell ⟨q, i * 5, none⟩ (.string y0)).setCell ⟨q, i * 5 + 1, none⟩ (.int .i64 y1)).setCell ⟨q, i * 5 + 2, none⟩ (.int .i64 y2)).setCell ⟨q, i * 5 + 3, none⟩ (.int .i64 y3)).setCell ⟨q, i * 5 + 4, none⟩ (.string y4)).setCell ⟨q, p * 5, none⟩ (.string f0)).setCell ⟨q, p * 5 + 1, none⟩ (.int .i64 f1)).setCell ⟨q, p * 5 + 2, none⟩ (.int .i64 f2)).setCell ⟨q, p * 5 + 3, none⟩ (.int .i64 f3)).setCell ⟨q, p * 5 + 4, none⟩ (.string f4)).drew.ownsRow (bx + 1) 90 5 (.slice (some ⟨q, 0, none⟩) N nc) N (flRows (insL L (⟨f0, f1, f2, f3, f4⟩ : FlS) p)).flatten) := by
       have h1 := own_putF hd hiL (⟨y0, y1, y2, y3, y4⟩ : FlS)
       have h2 := own_putF h1 (i := p) (by rw [List.length_set]; exact hpL) (⟨f0, f1, f2, f3, f4⟩ : FlS)
       rw [HS3.out] at h2
       exact own_below h2 (below_drewN 1 (Below.refl _ _))
      have BZN := BD.kp KT hbq
      have HBN : Hid (Below WB.heap.size WB ((((((((((wd.setCell ⟨q, i * 5, none⟩ (.string y0)).setCell ⟨q, i * 5 + 1, none⟩ (.int .i64 y1)).setCell ⟨q, i * 5 + 2, none⟩ (.int .i64 y2)).setCell ⟨q, i * 5 + 3, none⟩ (.int .i64 y3)).setCell ⟨q, i * 5 + 4, none⟩ (.string y4)).setCell ⟨q, p * 5, none⟩ (.string f0)).setCell ⟨q, p * 5 + 1, none⟩ (.int .i64 f1)).setCell ⟨q, p * 5 + 2, none⟩ (.int .i64 f2)).setCell ⟨q, p * 5 + 3, none⟩ (.int .i64 f3)).setCell ⟨q, p * 5 + 4, none⟩ (.string f4)).drew) := HBD.out.trans (KT.toBelow HBD.out.size (fun k e => by have := HBX.out; omega))
      clear r1 r2 s1 s2 hd KT BD hiL hpL
      have mixed : Tryz.prog.follows Departure.mixedOrders = true := by kernel_rfl
      go_big_region_o
      all_goals go_wp2_with fail
      go_roundw
      case rel => exact ⟨p, by go_num, by omega, HG2, HON, BZN, HBN⟩
      case measure => simp [intOf]; omega
     ·have hlb : decide (f1 < y1) = false := decide_eq_false hlv
      have HEND : Hid (wr.ownsRow (bx + 1) 90 5 (.slice (some ⟨q, 0, none⟩) N nc) N (flRows (srtF FlS.tag (mf.take N))).flatten) := by
       show World.ownsRow _ _ _ _ _ _ _
       have eq : srtF FlS.tag (mf.take N) = insL L (⟨f0, f1, f2, f3, f4⟩ : FlS) i := by
        rw [← HNN.out, srt_more HFJ.out hi (by rw [HNF.out]; omega) (by rw [HL.out]; exact HGT.out) (.inr ⟨(⟨y0, y1, y2, y3, y4⟩ : FlS), by rw [HL.out, ← HPI.out]; exact HYP.out, hlv⟩), HL.out]
       rw [eq]
       exact HO.out
      go_wp2_with fail
      go_quiet (fail)
      go_wp2_with fail
      have HBN : Hid (Below WB.heap.size WB (wr.drewN nq)) := below_drewN nq HBW.out
      have HON : Hid ((wr.drewN nq).ownsRow (bx + 1) 90 5 (.slice (some ⟨q, 0, none⟩) N nc) N (flRows (srtF FlS.tag (mf.take N))).flatten) := own_below HEND.out (below_drewN nq (Below.refl _ _))
      have BZN := BZ.below (below_drewN nq (Below.refl _ _))
      go_roundw
      case rel => exact ⟨j + 1, _, _, by go_num, by omega, by rw [HNN.out]; exact HON, by rw [HNN.out]; exact BZN, HBN⟩
      case measure => simp [intOf]; omega
  ·obtain rfl : nF = j := by omega
   have hltz : ¬ (nF : Int) < (nF : Int) := by omega
   have HOE : Hid (wr.ownsRow (bx + 1) 90 5 (.slice fa nF fc) nF (flRows (srtF FlS.tag mf)).flatten) := by
    have := HO.out
    rw [List.take_of_length_le (by rw [HNF.out]; omega)] at this
    exact this
   clear HO
   go_wp2_with fail
   exact HQ.out _ _ _ _ _ _ _ _ _ _ _ _ _ _ _ _ _ _ _ _ _ _ _ _ _ _ _ _ _ _ _ _ _ _ _ _ _ _ _ _ _ _ _ _ _ _ _ _ _ _ _ _ _ _ _ _ _ _ _ _ _ _ _ _ _ _ HOE BZ HBW
set_option maxHeartbeats 40000000 in
theorem loopR {K K1 K2 K3 : Act → World → Prop} {post : Ending → World → Prop} (c : Code) (hc : Tryz.f15.body.bind (blkOf 6) = some c) {m0 : ByteArray} {a3 a4 xa : Option Addr} {c3 c4 nF nR bm bx xc : Nat} {mf : List FlS} {mr : List Int} {tz0 tz1 tz2 tz3 tz4 tz7 tz8 tz10 tz11 tz12 tz13 tz14 tz15 tz16 tz17 tz18 tz19 tz20 tz21 tz22 tz23 tz24 tz25 tz26 tz27 tz28 tz29 tz30 tz31 tz32 tz33 tz34 tz35 tz36 tz37 tz38 tz39 tz40 tz41 tz42 tz43 tz44 tz45 tz46 tz47 tz48 tz49 tz50 tz51 tz52 tz53 tz54 tz55 tz56 tz57 tz58 tz59 tz60 tz61 tz62 tz63 tz64 tz65 tz66 tz67 tz68 tz69 tz70 tz71 tz72 tz73 tz74 tz75 tz76 tz77 tz78 tz79 tz80 tz81 tz82 tz83 tz84 tz85 tz86 tz87 tz88 tz89 tz90 tz91 tz92 tz93 tz94 tz95 tz96 tz97 tz98 tz99 tz100 tz101 tz102 tz103 tz104 tz105 tz106 tz107 tz108 tz109 tz110 tz111 tz112 tz113 tz114 tz115 tz116 tz117 tz118 tz119 tz120 tz121 tz122 tz123 tz124 tz125 tz126 tz127 tz128 tz129 tz130 tz131 tz132 tz133 tz134 tz135 tz136 tz137 tz138 tz139 tz140 tz141 tz142 tz143 tz144 tz145 tz146 tz147 tz148 tz149 tz150 tz151 tz152 tz153 tz154 tz155 tz156 tz157 tz158 tz159 tz160 tz161 tz162 tz163 tz164 tz165 tz166 tz167 tz168 tz169 tz170 tz171 tz172 tz173 tz174 tz175 tz176 tz177 tz178 tz179 tz180 tz181 tz182 tz183 tz184 tz185 tz186 tz187 tz188 tz189 tz190 tz191 tz192 tz193 tz194 tz195 tz196 tz197 tz198 tz199 tz200 tz201 tz202 tz203 tz204 tz205 tz206 tz207 tz208 tz209 tz210 tz211 tz212 tz213 tz214 tz215 tz216 tz217 tz218 tz219 tz220 tz221 tz222 tz223 tz224 tz225 tz226 tz227 tz228 tz229 tz230 tz231 tz232 tz233 tz234 tz235 tz236 tz237 tz238 tz239 tz240 tz241 tz242 tz243 tz244 tz245 tz246 tz247 tz248 tz249 tz250 tz251 : Value} {WB wr : World} (BM0 : Blk WB bm #[.string m0, .slice a3 nF c3, .slice a4 nR c4] 40) (HR0 : Hid (RowG WB (.slice a4 nR c4) 1 (inRows mr))) (HBX : Hid (WB.heap.size = bx)) (HNR : Hid (mr.length = nR)) (hnR40 : nR ≤ 40) (BZ : Blk wr bx #[.string m0, .slice xa nF xc, .slice none 0 0] 40) (HX : Hid (wr.ownsRow (bx + 1) 90 5 (.slice xa nF xc) nF (flRows (srtF FlS.tag mf)).flatten)) (HBW : Hid (Below WB.heap.size WB wr)) (HQ : Hid (∀ (fa : Option Addr) (fc : Nat) (wq : World) (ty9 ty10 ty97 ty98 ty99 ty100 ty101 ty102 ty103 ty104 ty105 ty106 ty107 ty108 ty109 ty110 ty111 ty112 ty113 ty114 ty115 ty116 ty117 ty118 ty119 ty120 ty121 ty122 ty123 ty124 ty125 ty126 ty127 ty128 ty129 ty130 ty131 ty132 ty133 ty134 ty135 ty136 ty137 ty138 ty139 ty140 ty141 ty142 ty143 ty144 ty145 ty146 ty147 ty148 ty149 ty150 ty151 ty152 ty153 ty154 ty155 : Value), Hid (wq.ownsRow (bx + 1) 3 1 (.slice fa nR fc) nR (inRows (srtF (fun x => x) mr)).flatten) → Blk wq bx #[.string m0, .slice xa nF xc, .slice fa nR fc] 40 → Hid (wq.ownsRow (bx + 1) 90 5 (.slice xa nF xc) nF (flRows (srtF FlS.tag mf)).flatten) → Hid (Below WB.heap.size WB wq) → K { tmps := List.toArray (tz0 :: tz1 :: tz2 :: tz3 :: tz4 :: Value.pointer (some ⟨bm, 0, none⟩) :: Value.pointer (some ⟨bx, 0, none⟩) :: tz7 :: tz8 :: ty9 :: ty10 :: tz11 :: tz12 :: tz13 :: tz14 :: tz15 :: tz16 :: tz17 :: tz18 :: tz19 :: tz20 :: tz21 :: tz22 :: tz23 :: tz24 :: tz25 :: tz26 :: tz27 :: tz28 :: tz29 :: tz30 :: tz31 :: tz32 :: tz33 :: tz34 :: tz35 :: tz36 :: tz37 :: tz38 :: tz39 :: tz40 :: tz41 :: tz42 :: tz43 :: tz44 :: tz45 :: tz46 :: tz47 :: tz48 :: tz49 :: tz50 :: tz51 :: tz52 :: tz53 :: tz54 :: tz55 :: tz56 :: tz57 :: tz58 :: tz59 :: tz60 :: tz61 :: tz62 :: tz63 :: tz64 :: tz65 :: tz66 :: tz67 :: tz68 :: tz69 :: tz70 :: tz71 :: tz72 :: tz73 :: tz74 :: tz75 :: tz76 :: tz77 :: tz78 :: tz79 :: tz80 :: tz81 :: tz82 :: tz83 :: tz84 :: tz85 :: tz86 :: tz87 :: tz88 :: tz89 :: tz90 :: tz91 :: tz92 :: tz93 :: tz94 :: tz95 :: tz96 :: ty97 :: ty98 :: ty99 :: ty100 :: ty101 :: ty102 :: ty103 :: ty104 :: ty105 :: ty106 :: ty107 :: ty108 :: ty109 :: ty110 :: ty111 :: ty112 :: ty113 :: ty114 :: ty115 :: ty116 :: ty117 :: ty118 :: ty119 :: ty120 :: ty121 :: ty122 :: ty123 :: ty124 :: ty125 :: ty126 :: ty127 :: ty128 :: ty129 :: ty130 :: ty131 :: ty132 :: ty133 :: ty134 :: ty135 :: ty136 :: ty137 :: ty138 :: ty139 :: ty140 :: ty141 :: ty142 :: ty143 :: ty144 :: ty145 :: ty146 :: ty147 :: ty148 :: ty149 :: ty150 :: ty151 :: ty152 :: ty153 :: ty154 :: ty155 :: tz156 :: tz157 :: tz158 :: tz159 :: tz160 :: tz161 :: tz162 :: tz163 :: tz164 :: tz165 :: tz166 :: tz167 :: tz168 :: tz169 :: tz170 :: tz171 :: tz172 :: tz173 :: tz174 :: tz175 :: tz176 :: tz177 :: tz178 :: tz179 :: tz180 :: tz181 :: tz182 :: tz183 :: tz184 :: tz185 :: tz186 :: tz187 :: tz188 :: tz189 :: tz190 :: tz191 :: tz192 :: tz193 :: tz194 :: tz195 :: tz196 :: tz197 :: tz198 :: tz199 :: tz200 :: tz201 :: tz202 :: tz203 :: tz204 :: tz205 :: tz206 :: tz207 :: tz208 :: tz209 :: tz210 :: tz211 :: tz212 :: tz213 :: tz214 :: tz215 :: tz216 :: tz217 :: tz218 :: tz219 :: tz220 :: tz221 :: tz222 :: tz223 :: tz224 :: tz225 :: tz226 :: tz227 :: tz228 :: tz229 :: tz230 :: tz231 :: tz232 :: tz233 :: tz234 :: tz235 :: tz236 :: tz237 :: tz238 :: tz239 :: tz240 :: tz241 :: tz242 :: tz243 :: tz244 :: tz245 :: tz246 :: tz247 :: tz248 :: tz249 :: tz250 :: tz251 :: []), defers := [] } wq)) :
  Code.wp Tryz.prog c (Exit.inBlock 6 (Exit.then K (Exit.inBlock 1 (Exit.then K1 (Exit.then K2 (Exit.inBlock 0 (Exit.then K3 (bodyPost Tryz.prog Tryz.f15 post)))))))) { tmps := List.toArray (tz0 :: tz1 :: tz2 :: tz3 :: tz4 :: Value.pointer (some ⟨bm, 0, none⟩) :: Value.pointer (some ⟨bx, 0, none⟩) :: tz7 :: tz8 :: Value.int .i64 0 :: tz10 :: tz11 :: tz12 :: tz13 :: tz14 :: tz15 :: tz16 :: tz17 :: tz18 :: tz19 :: tz20 :: tz21 :: tz22 :: tz23 :: tz24 :: tz25 :: tz26 :: tz27 :: tz28 :: tz29 :: tz30 :: tz31 :: tz32 :: tz33 :: tz34 :: tz35 :: tz36 :: tz37 :: tz38 :: tz39 :: tz40 :: tz41 :: tz42 :: tz43 :: tz44 :: tz45 :: tz46 :: tz47 :: tz48 :: tz49 :: tz50 :: tz51 :: tz52 :: tz53 :: tz54 :: tz55 :: tz56 :: tz57 :: tz58 :: tz59 :: tz60 :: tz61 :: tz62 :: tz63 :: tz64 :: tz65 :: tz66 :: tz67 :: tz68 :: tz69 :: tz70 :: tz71 :: tz72 :: tz73 :: tz74 :: tz75 :: tz76 :: tz77 :: tz78 :: tz79 :: tz80 :: tz81 :: tz82 :: tz83 :: tz84 :: tz85 :: tz86 :: tz87 :: tz88 :: tz89 :: tz90 :: tz91 :: tz92 :: tz93 :: tz94 :: tz95 :: tz96 :: tz97 :: tz98 :: tz99 :: tz100 :: tz101 :: tz102 :: tz103 :: tz104 :: tz105 :: tz106 :: tz107 :: tz108 :: tz109 :: tz110 :: tz111 :: tz112 :: tz113 :: tz114 :: tz115 :: tz116 :: tz117 :: tz118 :: tz119 :: tz120 :: tz121 :: tz122 :: tz123 :: tz124 :: tz125 :: tz126 :: tz127 :: tz128 :: tz129 :: tz130 :: tz131 :: tz132 :: tz133 :: tz134 :: tz135 :: tz136 :: tz137 :: tz138 :: tz139 :: tz140 :: tz141 :: tz142 :: tz143 :: tz144 :: tz145 :: tz146 :: tz147 :: tz148 :: tz149 :: tz150 :: tz151 :: tz152 :: tz153 :: tz154 :: tz155 :: tz156 :: tz157 :: tz158 :: tz159 :: tz160 :: tz161 :: tz162 :: tz163 :: tz164 :: tz165 :: tz166 :: tz167 :: tz168 :: tz169 :: tz170 :: tz171 :: tz172 :: tz173 :: tz174 :: tz175 :: tz176 :: tz177 :: tz178 :: tz179 :: tz180 :: tz181 :: tz182 :: tz183 :: tz184 :: tz185 :: tz186 :: tz187 :: tz188 :: tz189 :: tz190 :: tz191 :: tz192 :: tz193 :: tz194 :: tz195 :: tz196 :: tz197 :: tz198 :: tz199 :: tz200 :: tz201 :: tz202 :: tz203 :: tz204 :: tz205 :: tz206 :: tz207 :: tz208 :: tz209 :: tz210 :: tz211 :: tz212 :: tz213 :: tz214 :: tz215 :: tz216 :: tz217 :: tz218 :: tz219 :: tz220 :: tz221 :: tz222 :: tz223 :: tz224 :: tz225 :: tz226 :: tz227 :: tz228 :: tz229 :: tz230 :: tz231 :: tz232 :: tz233 :: tz234 :: tz235 :: tz236 :: tz237 :: tz238 :: tz239 :: tz240 :: tz241 :: tz242 :: tz243 :: tz244 :: tz245 :: tz246 :: tz247 :: tz248 :: tz249 :: tz250 :: tz251 :: []), defers := [] } wr := by
 conv at hc => lhs; whnf
 obtain rfl := Option.some.inj hc
 clear hc
 go_loopw [9] (fun jv wr => ∃ (j : Nat) (fa : Option Addr) (fc : Nat), jv = .int .i64 (j : Int) ∧ j ≤ nR ∧ Hid (wr.ownsRow (bx + 1) 3 1 (.slice fa j fc) j (inRows (srtF (fun x => x) (mr.take j))).flatten) ∧ Blk wr bx #[.string m0, .slice xa nF xc, .slice fa j fc] 40 ∧ Hid (wr.ownsRow (bx + 1) 90 5 (.slice xa nF xc) nF (flRows (srtF FlS.tag mf)).flatten) ∧ Hid (Below WB.heap.size WB wr)) (fun jv _ => nR - (intOf jv).toNat)
 case atStart => exact ⟨0, none, 0, rfl, by omega, World.ownsRow_nil _ _ _ _, BZ, HX, HBW⟩
 case round =>
  clear BZ HBW HX
  obtain ⟨j, fa, fc, rfl, hj, HO, BZ, HX, HBW⟩ := hrel
  have x1 : wr.cell? ⟨bm, 2, none⟩ = some (.slice a4 nR c4) := (BM0.below HBW.out).cell 2
  by_cases hlt : j < nR
  ·have hltz : (j : Int) < (nR : Int) := by omega
   obtain ⟨f, hf⟩ : ∃ x, mr[j]? = some x := ⟨_, List.getElem?_eq_getElem (by rw [HNR.out]; exact hlt)⟩
   obtain ⟨g2, o2, hga, hcs⟩ := HR0.out.get (in_get hf)
   subst hga
   have HFJ : Hid (mr[j]? = some f) := hf
   have HCW : Hid (∀ W : World, Below WB.heap.size WB W → W.cell? ⟨bm, 2, none⟩ = some (.slice (some ⟨g2, o2, none⟩) nR c4) ∧ W.cell? ⟨g2, o2 + j, none⟩ = some (.int .i64 f)) := fun W hW => by
    have k0 : WB.cell? ⟨g2, o2 + j, none⟩ = some (.int .i64 f) := by have := hcs 0 _ rfl; rwa [Nat.mul_one, Nat.add_zero] at this
    exact ⟨(BM0.below hW).cell 2, (hW.cell (World.block_lt_of_cell? _ _ k0)).trans k0⟩
   clear hcs hf
   go_wp2_with fail
   clear x1
   refine M_region (T := fun W => W.cell? ⟨bx, 2, none⟩ = some (.slice fa j fc) ∧ W.cell? ⟨bm, 2, none⟩ = some (.slice (some ⟨g2, o2, none⟩) nR c4) ∧ W.cell? ⟨g2, o2 + j, none⟩ = some (.int .i64 f)) (m := 10) (by kernel_rfl) ?_
   have hb0 : Below wr.heap.size wr wr.drew := below_drewN 1 (Below.refl _ _)
   generalize wr.drew = V0 at *
   have HBV : Hid (Below WB.heap.size WB V0) := HBW.out.trans (hb0.mono HBW.out.size)
   have BZ0 := BZ.below hb0
   have HO0 : Hid (V0.ownsRow (bx + 1) 3 1 (.slice fa j fc) j (inRows (srtF (fun x => x) (mr.take j))).flatten) := own_below HO.out hb0
   have HX0 : Hid (V0.ownsRow (bx + 1) 90 5 (.slice xa nF xc) nF (flRows (srtF FlS.tag mf)).flatten) := own_below HX.out hb0
   have hbxV : bx < V0.heap.size := BZ0.lt
   have hTW : ∀ W : World, Below V0.heap.size V0 W → (fun W => W.cell? ⟨bx, 2, none⟩ = some (.slice fa j fc) ∧ W.cell? ⟨bm, 2, none⟩ = some (.slice (some ⟨g2, o2, none⟩) nR c4) ∧ W.cell? ⟨g2, o2 + j, none⟩ = some (.int .i64 f)) W := fun W hW => ⟨(BZ0.below hW).cell 2, HCW.out W (HBV.out.trans (hW.mono HBV.out.size))⟩
   have hT := hTW V0 (Below.refl _ _)
   clear HO BZ HX hb0 HBW
   refine M_take 0 104 (.pointer (some ⟨bx, 2, none⟩)) _ rfl rfl (by kernel_rfl) (by kernel_rfl) (by kernel_rfl) (by kernel_rfl) (by kernel_rfl) (fun _ _ _ h => h) (by rfl) (fun w' hw' => ?_) hT (listed' := #[true, false, false, false, false, false, false, false, false, false, false]) (by kernel_rfl) rfl ?_
   ·obtain ⟨g10, g11, g12⟩ := hw'; go_simp
   simp only [List.setIfInBounds_toArray, List.set_cons_zero, List.set_cons_succ]
   refine M_take 2 106 (.pointer (some ⟨bm, 2, none⟩)) _ rfl rfl (by kernel_rfl) (by kernel_rfl) (by kernel_rfl) (by kernel_rfl) (by kernel_rfl) (fun _ _ _ h => h) (by rfl) (fun w' hw' => ?_) hT (listed' := #[true, false, true, false, false, false, false, false, false, false, false]) (by kernel_rfl) rfl ?_
   ·obtain ⟨g10, g11, g12⟩ := hw'; go_simp
   simp only [List.setIfInBounds_toArray, List.set_cons_zero, List.set_cons_succ]
   refine M_take 4 108 (.int .i64 (j : Int)) _ rfl rfl (by kernel_rfl) (by kernel_rfl) (by kernel_rfl) (by kernel_rfl) (by kernel_rfl) (fun _ _ _ h => h) (by rfl) (fun w' hw' => ?_) hT (listed' := #[true, false, true, false, true, false, false, false, false, false, false]) (by kernel_rfl) rfl ?_
   ·obtain ⟨g10, g11, g12⟩ := hw'; go_simp
   simp only [List.setIfInBounds_toArray, List.set_cons_zero, List.set_cons_succ]
   refine M_take 1 105 (.slice fa j fc) _ rfl rfl (by kernel_rfl) (by kernel_rfl) (by kernel_rfl) (by kernel_rfl) (by kernel_rfl) (fun _ _ _ h => h) (by rfl) (fun w' hw' => ?_) hT (listed' := #[true, true, true, false, true, false, false, false, false, false, false]) (by kernel_rfl) rfl ?_
   ·obtain ⟨g10, g11, g12⟩ := hw'; go_simp
   simp only [List.setIfInBounds_toArray, List.set_cons_zero, List.set_cons_succ]
   refine M_take 3 107 (.slice (some ⟨g2, o2, none⟩) nR c4) _ rfl rfl (by kernel_rfl) (by kernel_rfl) (by kernel_rfl) (by kernel_rfl) (by kernel_rfl) (fun _ _ _ h => h) (by rfl) (fun w' hw' => ?_) hT (listed' := #[true, true, true, true, true, false, false, false, false, false, false]) (by kernel_rfl) rfl ?_
   ·obtain ⟨g10, g11, g12⟩ := hw'; go_simp
   simp only [List.setIfInBounds_toArray, List.set_cons_zero, List.set_cons_succ]
   refine M_take 5 109 (.pointer (some ⟨g2, o2 + j, none⟩)) _ rfl rfl (by kernel_rfl) (by kernel_rfl) (by kernel_rfl) (by kernel_rfl) (by kernel_rfl) (fun _ _ _ h => h) (by rfl) (fun w' hw' => ?_) hT (listed' := #[true, true, true, true, true, true, false, false, false, false, false]) (by kernel_rfl) rfl ?_
   ·obtain ⟨g10, g11, g12⟩ := hw'; go_simp
   simp only [List.setIfInBounds_toArray, List.set_cons_zero, List.set_cons_succ]
   refine M_take 6 110 (.int .i64 f) _ rfl rfl (by kernel_rfl) (by kernel_rfl) (by kernel_rfl) (by kernel_rfl) (by kernel_rfl) (fun _ _ _ h => h) (by rfl) (fun w' hw' => ?_) hT (listed' := #[true, true, true, true, true, true, true, false, false, false, false]) (by kernel_rfl) rfl ?_
   ·obtain ⟨g10, g11, g12⟩ := hw'; go_simp
   simp only [List.setIfInBounds_toArray, List.set_cons_zero, List.set_cons_succ]
   have hal : Below V0.heap.size V0 (V0.alloc (.cells #[.int .i64 f] 3)) := (Below.refl _ _).alloc (Nat.le_refl _) _
   have BE := Blk.new V0 #[.int .i64 f] 3
   obtain ⟨bz, hbz⟩ : ∃ n, V0.heap.size = n := ⟨_, rfl⟩
   refine M_run 7 111 (.slice (some ⟨V0.heap.size, 0, none⟩) 1 1) (V0.alloc (.cells #[.int .i64 f] 3)) rfl rfl (by kernel_rfl) (by rfl) (listed' := #[true, true, true, true, true, true, true, true, false, false, false]) (by kernel_rfl) (by go_simp) (hTW _ hal) ?_
   simp only [List.setIfInBounds_toArray, List.set_cons_zero, List.set_cons_succ]
   rw [hbz] at BE ⊢
   have HO1 : Hid ((V0.alloc (.cells #[.int .i64 f] 3)).ownsRow (bx + 1) 3 1 (.slice fa j fc) j (inRows (srtF (fun x => x) (mr.take j))).flatten) := own_below HO0.out hal
   have HX1 : Hid ((V0.alloc (.cells #[.int .i64 f] 3)).ownsRow (bx + 1) 90 5 (.slice xa nF xc) nF (flRows (srtF FlS.tag mf)).flatten) := own_below HX0.out hal
   have BZ1 := BZ0.below hal
   have HB1 : Hid (Below WB.heap.size WB (V0.alloc (.cells #[.int .i64 f] 3))) := HBV.out.trans (hal.mono HBV.out.size)
   have hsz1 := hal.size
   generalize (V0.alloc (.cells #[.int .i64 f] 3)) = V1 at *
   clear hbz hal hTW hT HO0 BZ0 HBV HX0
   obtain ⟨i0, hi0, hz0, hz1, hz2⟩ := info_parts infoIn
   obtain ⟨v', V2, r1, r2, r3, _⟩ := run_append_own V1 (bx + 1) 38 38 3 i0 _ 1 8 Tryz.underlying38 hi0 hz0 hz1 hz2 rfl (by decide) (.slice fa j fc) j _ HO1.out ⟨bz, 0, none⟩ 1 1 [.int .i64 f] rfl (fun k u hu => by
    have := BE.cell k
    rw [Addr.add_lit, Nat.zero_add, this]
    simpa using hu) (fun u hu => by
    simp only [List.mem_cons, List.not_mem_nil, or_false] at hu
    rw [hu]; rfl) (by unfold maxLen; omega) (by omega) (by omega)
   have HRUN : Hid _ := r1
   have KA : Kp (fun q => (Value.slice fa j fc).ownBlock = some q) V1 V2 := (Kp.refl _ _).grown r3 (fun q hq _ => hq)
   obtain ⟨q, nc, hv', _, _, hq1, _⟩ := own_addr r2 (by omega)
   subst hv'
   obtain ⟨L, hL⟩ : ∃ L, srtF (fun x => x) (mr.take j) = L := ⟨_, rfl⟩
   have HL : Hid (srtF (fun x => x) (mr.take j) = L) := hL
   have HLn : Hid (L.length = j) := by show _ = _; rw [← hL, srtF_len, List.length_take, HNR.out]; omega
   have HO2 : Hid (V2.ownsRow (bx + 1) 3 1 (.slice (some ⟨q, 0, none⟩) (j + 1) nc) (j + 1) (inRows (insL L f j)).flatten) := by
    show World.ownsRow _ _ _ _ _ _ _
    rw [insL_end _ _ _ HLn.out, ← hL]
    have e1 : (inRows (srtF (fun x => x) (mr.take j) ++ [f])).flatten = (inRows (srtF (fun x => x) (mr.take j))).flatten ++ [.int .i64 f] := by simp [inRows]
    rw [e1]; exact r2
   clear hL
   have hnob : ¬ (Value.slice fa j fc).ownBlock = some bx := fun hq => by have := (HO1.out.lt bx hq).1; omega
   have BZ2 := BZ1.kp KA hnob
   have HB2 : Hid (Below WB.heap.size WB V2) := HB1.out.grown r3 HB1.out.size (fun q hq => by have := (HO1.out.lt q hq).1; have := HBX.out; omega)
   have HX2 : Hid (V2.ownsRow (bx + 1) 90 5 (.slice xa nF xc) nF (flRows (srtF FlS.tag mf)).flatten) := own_kpV HX1.out KA (fun q hv hq => own_apart HO1.out HX1.out (by decide) q hq hv)
   have hTm : (fun W => W.cell? ⟨bx, 2, none⟩ = some (.slice fa j fc) ∧ W.cell? ⟨bm, 2, none⟩ = some (.slice (some ⟨g2, o2, none⟩) nR c4) ∧ W.cell? ⟨g2, o2 + j, none⟩ = some (.int .i64 f)) V2 := ⟨BZ2.cell 2, HCW.out V2 HB2.out⟩
   clear r1 r2 r3 HO1 BZ1 HB1 KA hnob BE HX1
   refine M_run 8 112 (.slice (some ⟨q, 0, none⟩) (j + 1) nc) (V2) rfl rfl (by kernel_rfl) (by rfl) (listed' := #[true, true, true, true, true, true, true, true, true, false, false]) (by kernel_rfl) (append_run rfl rfl rfl HRUN.out) hTm ?_
   simp only [List.setIfInBounds_toArray, List.set_cons_zero, List.set_cons_succ]
   clear HRUN
   have hT := hTm
   refine M_take 9 113 (.pointer (some ⟨bx, 2, none⟩)) _ rfl rfl (by kernel_rfl) (by kernel_rfl) (by kernel_rfl) (by kernel_rfl) (by kernel_rfl) (fun _ _ _ h => h) (by rfl) (fun w' hw' => ?_) hT (listed' := #[true, true, true, true, true, true, true, true, true, true, false]) (by kernel_rfl) rfl ?_
   ·obtain ⟨g10, g11, g12⟩ := hw'; go_simp
   simp only [List.setIfInBounds_toArray, List.set_cons_zero, List.set_cons_succ]
   have y1 := (BZ2.cell 2).trans rfl
   have z1 := BZ2.froz 2
   refine M_store 10 (V2.setCell ⟨bx, 2, none⟩ (.slice (some ⟨q, 0, none⟩) (j + 1) nc)) rfl rfl (by kernel_rfl) (by rfl) (listed' := #[true, true, true, true, true, true, true, true, true, true, true]) (by kernel_rfl) (by go_simp) (by kernel_rfl) ?_
   refine M_done (by kernel_rfl) ?_ _
   have KS : Kp (fun q => q = bx) V2 (V2.setCell ⟨bx, 2, none⟩ (.slice (some ⟨q, 0, none⟩) (j + 1) nc)) := by
    refine Kp.setCell ?_ (fun _ => by simp) _
    exact Kp.refl _ _
   have BZ3 : Blk (V2.setCell ⟨bx, 2, none⟩ (.slice (some ⟨q, 0, none⟩) (j + 1) nc)) bx #[.string m0, .slice xa nF xc, .slice (some ⟨q, 0, none⟩) (j + 1) nc] 40 := BZ2.set 2 _ rfl
   have HO3 : Hid ((V2.setCell ⟨bx, 2, none⟩ (.slice (some ⟨q, 0, none⟩) (j + 1) nc)).ownsRow (bx + 1) 3 1 (.slice (some ⟨q, 0, none⟩) (j + 1) nc) (j + 1) (inRows (insL L f j)).flatten) := own_blk HO2.out BZ2 (by decide) KS
   have HB3 : Hid (Below WB.heap.size WB (V2.setCell ⟨bx, 2, none⟩ (.slice (some ⟨q, 0, none⟩) (j + 1) nc))) := HB2.out.trans (KS.toBelow HB2.out.size (fun k e => by have := HBX.out; omega))
   have HX3 : Hid ((V2.setCell ⟨bx, 2, none⟩ (.slice (some ⟨q, 0, none⟩) (j + 1) nc)).ownsRow (bx + 1) 90 5 (.slice xa nF xc) nF (flRows (srtF FlS.tag mf)).flatten) := own_blk HX2.out BZ2 (by decide) KS
   generalize (V2.setCell ⟨bx, 2, none⟩ (.slice (some ⟨q, 0, none⟩) (j + 1) nc)) = V3 at *
   clear y1 z1 KS BZ2 HO2 HB2 hT hTm HX2 hsz1 hbxV
   obtain ⟨N, hN⟩ : ∃ N, j + 1 = N := ⟨_, rfl⟩
   have HNN : Hid (j + 1 = N) := hN
   rw [hN] at HO3 BZ3 ⊢
   have hNz : (N : Int) - 1 = (j : Int) := by omega
   have hjw : IntKind.i64.wrap (j : Int) = (j : Int) := wrapN _ (by omega) (by omega)
   have hjN : j < N := by omega
   clear hN
   have hqb : ¬ q = bx := by omega
   have hbq : ¬ bx = q := by omega
   have x3 : V3.cell? ⟨bx, 2, none⟩ = some (.slice (some ⟨q, 0, none⟩) N nc) := BZ3.cell 2
   go_wp2_with fail
   clear x3
   go_loopw [10] (fun iv wr => ∃ i : Nat, iv = .int .i64 (i : Int) ∧ i ≤ j ∧ Hid (∀ y ∈ L.drop i, f < y) ∧ Hid (wr.ownsRow (bx + 1) 3 1 (.slice (some ⟨q, 0, none⟩) N nc) N (inRows (insL L f i)).flatten) ∧ Blk wr bx #[.string m0, .slice xa nF xc, .slice (some ⟨q, 0, none⟩) N nc] 40 ∧ Hid (wr.ownsRow (bx + 1) 90 5 (.slice xa nF xc) nF (flRows (srtF FlS.tag mf)).flatten) ∧ Hid (Below WB.heap.size WB wr)) (fun iv _ => (intOf iv).toNat)
   case atStart => exact ⟨j, rfl, by omega, (by show ∀ y ∈ L.drop j, _; intro y hy; rw [List.drop_of_length_le (by rw [HLn.out]; omega)] at hy; cases hy), HO3, BZ3, HX3, HB3⟩
   case round =>
    clear HO3 BZ3 HB3 HX3
    obtain ⟨i, rfl, hi, HGT, HO, BZ, HX, HBW⟩ := hrel
    have x1 : wr.cell? ⟨bx, 2, none⟩ = some (.slice (some ⟨q, 0, none⟩) N nc) := BZ.cell 2
    rcases i with _ | p
    ·have HEND : Hid (wr.ownsRow (bx + 1) 3 1 (.slice (some ⟨q, 0, none⟩) N nc) N (inRows (srtF (fun x => x) (mr.take N))).flatten) := by
      show World.ownsRow _ _ _ _ _ _ _
      have eq : srtF (fun x => x) (mr.take N) = insL L f 0 := by
       rw [← HNN.out, srt_more HFJ.out (Nat.zero_le _) (by rw [HNR.out]; omega) (by rw [HL.out]; exact HGT.out) (.inl rfl), HL.out]
      rw [eq]
      exact HO.out
     have hz0 : decide ((0 : Int) < ((0 : Nat) : Int)) = false := by decide
     go_wp2_with fail
     go_quiet (fail)
     go_wp2_with fail
     have HBN : Hid (Below WB.heap.size WB (wr.drewN nq)) := below_drewN nq HBW.out
     have HON : Hid ((wr.drewN nq).ownsRow (bx + 1) 3 1 (.slice (some ⟨q, 0, none⟩) N nc) N (inRows (srtF (fun x => x) (mr.take N))).flatten) := own_below HEND.out (below_drewN nq (Below.refl _ _))
     have BZN := BZ.below (below_drewN nq (Below.refl _ _))
     have HXN : Hid ((wr.drewN nq).ownsRow (bx + 1) 90 5 (.slice xa nF xc) nF (flRows (srtF FlS.tag mf)).flatten) := own_below HX.out (below_drewN nq (Below.refl _ _))
     go_roundw
     case rel => exact ⟨j + 1, _, _, by go_num, by omega, by rw [HNN.out]; exact HON, by rw [HNN.out]; exact BZN, HXN, HBN⟩
     case measure => simp [intOf]; omega
    ·obtain ⟨i, hpi⟩ : ∃ i, p + 1 = i := ⟨_, rfl⟩
     obtain ⟨y, hy⟩ : ∃ y, L[p]? = some y := ⟨_, List.getElem?_eq_getElem (by rw [HLn.out]; omega)⟩
     obtain ⟨s1, s2, s3⟩ := insL_step (x := f) hy
     have HYP : Hid (L[p]? = some y) := hy
     have HPI : Hid (p + 1 = i) := hpi
     rw [hpi] at s1 s2 s3 HO HGT hi ⊢
     have hipz : (i : Int) - 1 = (p : Int) := by omega
     have hpw : IntKind.i64.wrap (p : Int) = (p : Int) := wrapN _ (by omega) (by omega)
     have hiN : (i : Int) < (N : Int) := by omega
     have hpN : (p : Int) < (N : Int) := by omega
     have hi0 : decide ((0 : Int) < (i : Int)) = true := decide_eq_true (by omega)
     have hi0' : 0 < i := by omega
     have hi0d : decide (0 < i) = true := decide_eq_true hi0'
     have hiL : i < (insL L f i).length := by rw [insL_len _ _ _ (by rw [HLn.out]; omega), HLn.out]; omega
     have hpL : p < (insL L f i).length := by omega
     have HS3 : Hid (((insL L f i).set i y).set p f = insL L f p) := s3
     clear hpi hy s3
     have r1 := in_get s1
     have r2 := in_get s2
     have cc0 := own_at (inl_len _) HO.out r1 (j := 0) rfl
     have dd0 := own_at (inl_len _) HO.out r2 (j := 0) rfl
     rw [Nat.mul_one, Nat.add_zero] at cc0 dd0
     by_cases hlv : f < y
     ·have hlb : decide (f < y) = true := decide_eq_true hlv
      have HG2 : Hid (∀ z ∈ L.drop p, f < z) := more_step HYP.out (by rw [HPI.out]; exact HGT.out) hlv
      go_wp2_with fail
      go_quiet (fail)
      have hdr := below_drewN nq (Below.refl wr.heap.size wr)
      have hd : (wr.drewN nq).ownsRow (bx + 1) 3 1 (.slice (some ⟨q, 0, none⟩) N nc) N (inRows (insL L f i)).flatten := own_below HO.out hdr
      have BD := BZ.below hdr
      have HBD : Hid (Below WB.heap.size WB (wr.drewN nq)) := HBW.out.trans (hdr.mono HBW.out.size)
      have HXD : Hid ((wr.drewN nq).ownsRow (bx + 1) 90 5 (.slice xa nF xc) nF (flRows (srtF FlS.tag mf)).flatten) := own_below HX.out hdr
      clear cc0 dd0  x1 HO BZ HBW HX hdr HGT
      generalize wr.drewN nq = wd at *
      go_wp2_with fail
      have x1 : wd.cell? ⟨bx, 2, none⟩ = some (.slice (some ⟨q, 0, none⟩) N nc) := BD.cell 2
      have cc0 := own_at (inl_len _) hd r1 (j := 0) rfl
      have dd0 := own_at (inl_len _) hd r2 (j := 0) rfl
      rw [Nat.mul_one, Nat.add_zero] at cc0 dd0
      have v0 : wd.frozen? ⟨q, i, none⟩ = false := own_froz hd _
      have t0 : wd.frozen? ⟨q, p, none⟩ = false := own_froz hd _
      have KT : Kp (fun x => x = q) wd ((wd.setCell ⟨q, i, none⟩ (.int .i64 y)).setCell ⟨q, p, none⟩ (.int .i64 f)).drew := by
       refine Kp.trans ?_ (Kp.ofBelow (below_drewN 1 (Below.refl _ _)))
       refine Kp.setCell ?_ (fun _ => by simp) _
       refine Kp.setCell ?_ (fun _ => by simp) _
       exact Kp.refl _ _
      have HON : Hid (((wd.setCell ⟨q, i, none⟩ (.int .i64 y)).setCell ⟨q, p, none⟩ (.int .i64 f)).drew.ownsRow (bx + 1) 3 1 (.slice (some ⟨q, 0, none⟩) N nc) N (inRows (insL L f p)).flatten) := by
       have h1 := own_putI hd hiL y
       have h2 := own_putI h1 (i := p) (by rw [List.length_set]; exact hpL) f
       rw [HS3.out] at h2
       exact own_below h2 (below_drewN 1 (Below.refl _ _))
      have BZN := BD.kp KT hbq
      have HBN : Hid (Below WB.heap.size WB ((wd.setCell ⟨q, i, none⟩ (.int .i64 y)).setCell ⟨q, p, none⟩ (.int .i64 f)).drew) := HBD.out.trans (KT.toBelow HBD.out.size (fun k e => by have := HBX.out; omega))
      have HXN : Hid (((wd.setCell ⟨q, i, none⟩ (.int .i64 y)).setCell ⟨q, p, none⟩ (.int .i64 f)).drew.ownsRow (bx + 1) 90 5 (.slice xa nF xc) nF (flRows (srtF FlS.tag mf)).flatten) := own_kpV HXD.out KT (fun k hv hk => own_apart hd HXD.out (by decide) k (by rw [hk]; rfl) hv)
      clear r1 r2 s1 s2 hd KT BD hiL hpL
      have mixed : Tryz.prog.follows Departure.mixedOrders = true := by kernel_rfl
      go_big_region_o
      all_goals go_wp2_with fail
      go_roundw
      case rel => exact ⟨p, by go_num, by omega, HG2, HON, BZN, HXN, HBN⟩
      case measure => simp [intOf]; omega
     ·have hlb : decide (f < y) = false := decide_eq_false hlv
      have HEND : Hid (wr.ownsRow (bx + 1) 3 1 (.slice (some ⟨q, 0, none⟩) N nc) N (inRows (srtF (fun x => x) (mr.take N))).flatten) := by
       show World.ownsRow _ _ _ _ _ _ _
       have eq : srtF (fun x => x) (mr.take N) = insL L f i := by
        rw [← HNN.out, srt_more HFJ.out hi (by rw [HNR.out]; omega) (by rw [HL.out]; exact HGT.out) (.inr ⟨y, by rw [HL.out, ← HPI.out]; exact HYP.out, hlv⟩), HL.out]
       rw [eq]
       exact HO.out
      go_wp2_with fail
      go_quiet (fail)
      go_wp2_with fail
      have HBN : Hid (Below WB.heap.size WB (wr.drewN nq)) := below_drewN nq HBW.out
      have HON : Hid ((wr.drewN nq).ownsRow (bx + 1) 3 1 (.slice (some ⟨q, 0, none⟩) N nc) N (inRows (srtF (fun x => x) (mr.take N))).flatten) := own_below HEND.out (below_drewN nq (Below.refl _ _))
      have BZN := BZ.below (below_drewN nq (Below.refl _ _))
      have HXN : Hid ((wr.drewN nq).ownsRow (bx + 1) 90 5 (.slice xa nF xc) nF (flRows (srtF FlS.tag mf)).flatten) := own_below HX.out (below_drewN nq (Below.refl _ _))
      go_roundw
      case rel => exact ⟨j + 1, _, _, by go_num, by omega, by rw [HNN.out]; exact HON, by rw [HNN.out]; exact BZN, HXN, HBN⟩
      case measure => simp [intOf]; omega
  ·obtain rfl : nR = j := by omega
   have hltz : ¬ (nR : Int) < (nR : Int) := by omega
   have HOE : Hid (wr.ownsRow (bx + 1) 3 1 (.slice fa nR fc) nR (inRows (srtF (fun x => x) mr)).flatten) := by
    have := HO.out
    rw [List.take_of_length_le (by rw [HNR.out]; omega)] at this
    exact this
   clear HO
   go_wp2_with fail
   exact HQ.out _ _ _ _ _ _ _ _ _ _ _ _ _ _ _ _ _ _ _ _ _ _ _ _ _ _ _ _ _ _ _ _ _ _ _ _ _ _ _ _ _ _ _ _ _ _ _ _ _ _ _ _ _ _ _ _ _ _ _ _ _ _ _ _ HOE BZ HX HBW
end Go.Proofs.YtcjfeandnmochaaGreatDoor
