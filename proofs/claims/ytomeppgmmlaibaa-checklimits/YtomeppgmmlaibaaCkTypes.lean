/- What typesOf answers: the set of all types that a field may have. -/
import Derived.Test.YtomeppgmmlaibaaCkFive
namespace Go.Proofs.Ytomeppgmmlaibaa
open Go.ChangeShapes Go.WideShapes Go.ChangeAt Go.RowKit Go.Maps
set_option linter.unusedVariables false
set_option linter.unusedSimpArgs false
set_option maxRecDepth 20000

theorem types_told (k : Int) (s : ByteArray) (ms : List MsS) (es : List EnS) : memT (k, s) (five true true true true true ++ ms.map (fun m => (7, m.name)) ++ es.map (fun m => (6, m.name))) = typeB (ms.map MsS.name) (es.map EnS.name) k s := by
  rw [Bool.eq_iff_iff, memT_iff]
  unfold typeB
  simp only [List.mem_append, mem5, true_and, Bool.or_eq_true, Bool.and_eq_true, decide_eq_true_eq, memB_iff, List.mem_map, Prod.mk.injEq]
  constructor
  · rintro ((h | ⟨m, hm, h1, h2⟩) | ⟨m, hm, h1, h2⟩)
    · rcases h with ⟨h1, h2⟩ | ⟨h1, h2⟩ | ⟨h1, h2⟩ | ⟨h1, h2⟩ | ⟨h1, h2⟩ <;> exact .inl (.inl ⟨by omega, h2⟩)
    · exact .inr ⟨h1.symm, m, hm, h2⟩
    · exact .inl (.inr ⟨h1.symm, m, hm, h2⟩)
  · rintro ((⟨h1, h2⟩ | ⟨h1, m, hm, h2⟩) | ⟨h1, m, hm, h2⟩)
    · refine .inl (.inl ?_)
      have : k = 1 ∨ k = 2 ∨ k = 3 ∨ k = 4 ∨ k = 5 := by omega
      rcases this with h | h | h | h | h
      · exact .inl ⟨h, h2⟩
      · exact .inr (.inl ⟨h, h2⟩)
      · exact .inr (.inr (.inl ⟨h, h2⟩))
      · exact .inr (.inr (.inr (.inl ⟨h, h2⟩)))
      · exact .inr (.inr (.inr (.inr ⟨h, h2⟩)))
    · exact .inr ⟨m, hm, h1.symm, h2⟩
    · exact .inl (.inr ⟨m, hm, h1.symm, h2⟩)
set_option maxHeartbeats 4000000 in
theorem typesof_any {w : World} {v : Value} {s : ScS} (hr : ScIn w v s) (hw : ScW s) (h1 : s.msgs.length ≤ 14) (h2 : s.enums.length ≤ 10) :
    Calls Try.prog 30 #[v] w fun e w' => (∃ bY ny T, e = .returned (.map (some bY)) ∧ w.heap.size ≤ bY ∧ SetT w' bY ny T ∧ ∀ k s', memT (k, s') T = typeB s.mn s.en k s') ∧ Below w.heap.size w w' := by
  obtain ⟨vm, ve, vt, rfl, hm, he, ht⟩ := hr
  obtain ⟨am, cm, rfl, qm1, qm2, _⟩ := hm.open
  obtain ⟨ae, ce, rfl, qe1, qe2, _⟩ := he.open
  obtain ⟨at', ct, rfl, qt1, qt2⟩ := ht.form2
  unfold maxLen at qm2 qe2
  have HM : Hid _ := hm
  have HE : Hid _ := he
  clear hm he ht
  obtain ⟨nm, ms, es, ts⟩ := s
  simp only at *
  have HM : Hid (MsIn w (.slice am ms.length cm) ms) := HM
  have HE : Hid (EnIn w (.slice ae es.length ce) es) := HE
  generalize (mtRows ts).length = T at *
  obtain ⟨M, hM⟩ : ∃ N, ms.length = N := ⟨_, rfl⟩
  obtain ⟨E, hE⟩ : ∃ N, es.length = N := ⟨_, rfl⟩
  rw [hM] at HM qm1 h1 ⊢
  rw [hE] at HE qe1 h2 ⊢
  have HNM : Hid (ms.length = M) := hM
  have HNE : Hid (es.length = E) := hE
  have HW : Hid (ScW ⟨nm, ms, es, ts⟩) := hw
  clear hM hE hw
  have hmm := @run_makeMap Try.prog
  go_enter Try.func30, Try.ntmps30
  go_wp2_with fail
  refine wp_region_held_drew (S := fun _ => True) (by kernel_rfl) trivial (fun hS => ?_)
  have HW0 : Hid (Below w.heap.size w (w.alloc (.cells #[.string nm, .slice am M cm, .slice ae E ce, .slice at' T ct] 26)).drew) := below_drewN 1 ((Below.refl _ _).alloc (Nat.le_refl _) _)
  have HX0 : Hid (Blk (w.alloc (.cells #[.string nm, .slice am M cm, .slice ae E ce, .slice at' T ct] 26)).drew w.heap.size #[.string nm, .slice am M cm, .slice ae E ce, .slice at' T ct] 26) := Blk.new w #[.string nm, .slice am M cm, .slice ae E ce, .slice at' T ct] 26
  generalize (w.alloc (.cells #[.string nm, .slice am M cm, .slice ae E ce, .slice at' T ct] 26)).drew = W0 at *
  clear hS
  refine rg_take 1 9 (.agg #[.int .i64 1, .string ⟨#[]⟩]) _ rfl rfl (by kernel_rfl) (by kernel_rfl) (by kernel_rfl) (fun _ _ _ h => h) (by rfl) (fun w' hw' => ?_) trivial (listed' := #[false, true, false, false, false, false, false, false, false, false, false, false, false, false, false, false, false, false]) (by kernel_rfl) rfl ?_
  · go_simp
  simp only [List.setIfInBounds_toArray, List.set_cons_zero, List.set_cons_succ]
  refine rg_take 2 10 (.agg #[]) _ rfl rfl (by kernel_rfl) (by kernel_rfl) (by kernel_rfl) (fun _ _ _ h => h) (by rfl) (fun w' hw' => ?_) trivial (listed' := #[false, true, true, false, false, false, false, false, false, false, false, false, false, false, false, false, false, false]) (by kernel_rfl) rfl ?_
  · go_simp
  simp only [List.setIfInBounds_toArray, List.set_cons_zero, List.set_cons_succ]
  refine rg_take 4 11 (.agg #[.int .i64 2, .string ⟨#[]⟩]) _ rfl rfl (by kernel_rfl) (by kernel_rfl) (by kernel_rfl) (fun _ _ _ h => h) (by rfl) (fun w' hw' => ?_) trivial (listed' := #[false, true, true, false, true, false, false, false, false, false, false, false, false, false, false, false, false, false]) (by kernel_rfl) rfl ?_
  · go_simp
  simp only [List.setIfInBounds_toArray, List.set_cons_zero, List.set_cons_succ]
  refine rg_take 5 12 (.agg #[]) _ rfl rfl (by kernel_rfl) (by kernel_rfl) (by kernel_rfl) (fun _ _ _ h => h) (by rfl) (fun w' hw' => ?_) trivial (listed' := #[false, true, true, false, true, true, false, false, false, false, false, false, false, false, false, false, false, false]) (by kernel_rfl) rfl ?_
  · go_simp
  simp only [List.setIfInBounds_toArray, List.set_cons_zero, List.set_cons_succ]
  refine rg_take 7 13 (.agg #[.int .i64 3, .string ⟨#[]⟩]) _ rfl rfl (by kernel_rfl) (by kernel_rfl) (by kernel_rfl) (fun _ _ _ h => h) (by rfl) (fun w' hw' => ?_) trivial (listed' := #[false, true, true, false, true, true, false, true, false, false, false, false, false, false, false, false, false, false]) (by kernel_rfl) rfl ?_
  · go_simp
  simp only [List.setIfInBounds_toArray, List.set_cons_zero, List.set_cons_succ]
  refine rg_take 8 14 (.agg #[]) _ rfl rfl (by kernel_rfl) (by kernel_rfl) (by kernel_rfl) (fun _ _ _ h => h) (by rfl) (fun w' hw' => ?_) trivial (listed' := #[false, true, true, false, true, true, false, true, true, false, false, false, false, false, false, false, false, false]) (by kernel_rfl) rfl ?_
  · go_simp
  simp only [List.setIfInBounds_toArray, List.set_cons_zero, List.set_cons_succ]
  refine rg_take 10 15 (.agg #[.int .i64 4, .string ⟨#[]⟩]) _ rfl rfl (by kernel_rfl) (by kernel_rfl) (by kernel_rfl) (fun _ _ _ h => h) (by rfl) (fun w' hw' => ?_) trivial (listed' := #[false, true, true, false, true, true, false, true, true, false, true, false, false, false, false, false, false, false]) (by kernel_rfl) rfl ?_
  · go_simp
  simp only [List.setIfInBounds_toArray, List.set_cons_zero, List.set_cons_succ]
  refine rg_take 11 16 (.agg #[]) _ rfl rfl (by kernel_rfl) (by kernel_rfl) (by kernel_rfl) (fun _ _ _ h => h) (by rfl) (fun w' hw' => ?_) trivial (listed' := #[false, true, true, false, true, true, false, true, true, false, true, true, false, false, false, false, false, false]) (by kernel_rfl) rfl ?_
  · go_simp
  simp only [List.setIfInBounds_toArray, List.set_cons_zero, List.set_cons_succ]
  refine rg_take 13 17 (.agg #[.int .i64 5, .string ⟨#[]⟩]) _ rfl rfl (by kernel_rfl) (by kernel_rfl) (by kernel_rfl) (fun _ _ _ h => h) (by rfl) (fun w' hw' => ?_) trivial (listed' := #[false, true, true, false, true, true, false, true, true, false, true, true, false, true, false, false, false, false]) (by kernel_rfl) rfl ?_
  · go_simp
  simp only [List.setIfInBounds_toArray, List.set_cons_zero, List.set_cons_succ]
  refine rg_take 14 18 (.agg #[]) _ rfl rfl (by kernel_rfl) (by kernel_rfl) (by kernel_rfl) (fun _ _ _ h => h) (by rfl) (fun w' hw' => ?_) trivial (listed' := #[false, true, true, false, true, true, false, true, true, false, true, true, false, true, true, false, false, false]) (by kernel_rfl) rfl ?_
  · go_simp
  simp only [List.setIfInBounds_toArray, List.set_cons_zero, List.set_cons_succ]
  refine rg_run 0 8 (.map (some W0.heap.size)) (W0.alloc (.map #[] 0)) rfl rfl (by kernel_rfl) (by rfl) (listed' := #[true, true, true, false, true, true, false, true, true, false, true, true, false, true, true, false, false, false]) (by kernel_rfl) (by go_simp) trivial ?_
  simp only [List.setIfInBounds_toArray, List.set_cons_zero, List.set_cons_succ]
  refine rg_five (b := W0.heap.size) (B := W0.heap.size) (w0 := W0) (Nat.le_refl _) rfl rfl rfl rfl rfl rfl rfl rfl rfl rfl rfl rfl rfl rfl rfl rfl rfl rfl rfl rfl rfl rfl rfl rfl rfl rfl rfl rfl rfl rfl rfl (by intro b1 b2 b3 b4 b5; cases b1 <;> cases b2 <;> cases b3 <;> cases b4 <;> cases b5 <;> kernel_rfl) ?fin 5 0 false false false false false rfl (by omega) (W0.alloc (.map #[] 0)) (by simp) ((Below.refl _ _).alloc (Nat.le_refl _) _) (SetK.made 50 W0)
  intro W1 n1 hn1 hbel1 hset1
  have HS1 : Hid (SetT W1 W0.heap.size n1 (five true true true true true)) := hset1
  clear hset1
  refine rg_take 16 19 (.map (some W0.heap.size)) _ rfl rfl (by kernel_rfl) (by kernel_rfl) (by kernel_rfl) (fun _ _ _ h => h) (by rfl) (fun w' hw' => ?_) trivial (listed' := #[true, true, true, true, true, true, true, true, true, true, true, true, true, true, true, true, true, false]) (by kernel_rfl) rfl ?_
  · go_simp
  simp only [List.setIfInBounds_toArray, List.set_cons_zero, List.set_cons_succ]
  refine rg_take 17 3 (.map (some W0.heap.size)) _ rfl rfl (by kernel_rfl) (by kernel_rfl) (by kernel_rfl) (fun _ _ _ h => h) (by rfl) (fun w' hw' => ?_) trivial (listed' := #[true, true, true, true, true, true, true, true, true, true, true, true, true, true, true, true, true, true]) (by kernel_rfl) rfl ?_
  · go_simp
  simp only [List.setIfInBounds_toArray, List.set_cons_zero, List.set_cons_succ]
  refine wpAnyH_done (by kernel_rfl) ?_ _
  clear hmm
  have hx0 : w.heap.size < W0.heap.size := HX0.out.lt
  obtain ⟨bY, hbY⟩ : ∃ n, W0.heap.size = n := ⟨_, rfl⟩
  rw [hbY] at HS1 hbel1 hx0 ⊢
  have HBY : Hid (W0.heap.size = bY) := hbY
  clear hbY
  have hb1 : Below W0.heap.size W0 W1 := by rw [HBY.out]; exact hbel1
  have b1 : W1.cell? ⟨w.heap.size, 1, none⟩ = some (.slice am M cm) := (HX0.out.below hb1).cell 1
  clear hb1
  obtain ⟨F, hF⟩ : ∃ F, five true true true true true = F := ⟨_, rfl⟩
  rw [hF] at HS1
  have HF : Hid (five true true true true true = F) := hF
  clear hF
  have HS1' : Hid (SetT W1 bY (n1 + 0) (F ++ (ms.take 0).map fun m => (7, m.name))) := by
    show SetT _ _ _ _
    rw [List.take_zero, List.map_nil, List.append_nil]; exact HS1.out
  clear HS1
  go_wp2_with fail
  clear b1
  go_loopw [23] (fun iv wr => ∃ (k : Nat), iv = .int .i64 (k : Int) ∧ k ≤ M ∧ Hid (SetT wr bY (n1 + k) (F ++ (ms.take k).map fun m => (7, m.name))) ∧ Below bY W0 wr) (fun iv _ => M - (intOf iv).toNat)
  case atStart => exact ⟨0, rfl, by omega, HS1', hbel1⟩
  case round =>
    obtain ⟨k, rfl, hk, HS, hbel⟩ := hrel
    clear HS1'
    have hbW : Below W0.heap.size W0 wr := by rw [HBY.out]; exact hbel
    have hbw : Below w.heap.size w wr := HW0.out.trans (hbW.mono HW0.out.size)
    have hbt : bY < wr.heap.size := SetK.lt HS.out
    by_cases hlt : k < M
    · obtain ⟨m, hm⟩ : ∃ n, ms[k]? = some n := ⟨_, List.getElem?_eq_getElem (by rw [HNM.out]; exact hlt)⟩
      obtain ⟨g, off, vf, vr, rfl, c0, c1, c2, hf, hrr⟩ := (HM.out.below hbw).get hm
      obtain ⟨a3, c3, rfl, _, _⟩ := hf.form2
      obtain ⟨a4, c4, rfl, _, _⟩ := hrr.form2
      generalize (flRows m.fields).length = nF at *
      generalize (inRows m.reserved).length = nR at *
      have hms := (HW.out.msgs m (List.mem_of_getElem? hm)).1
      have HTK : Hid ((F ++ (ms.take k).map fun m => ((7 : Int), m.name)) ++ [(7, m.name)] = F ++ (ms.take (k + 1)).map fun m => (7, m.name)) := by
        show _ = _
        rw [List.take_add_one, hm, List.map_append, List.append_assoc]; rfl
      generalize m.name = mnm at *
      clear hf hrr hm hbW hbw
      go_wp2_with fail
      clear c0 c1 c2
      have hba : Below wr.heap.size wr (wr.alloc (.cells #[.string mnm, .slice a3 nF c3, .slice a4 nR c4] 35)) := (Below.refl _ _).alloc (Nat.le_refl _) _
      refine (msgtype_any _ _).mono ?_
      rintro e w2 ⟨rfl, hb2⟩
      obtain ⟨kl, hkey⟩ := key_ty (k := 7) (s := mnm) ⟨by decide, by decide⟩ hms
      obtain ⟨D, hown, h2'⟩ := SetK.below (SetK.below HS.out hba) hb2
      have H2 : Hid _ := h2'
      clear h2'
      have hkey' := hkey
      unfold tyV at hkey'
      simp only at hkey'
      have hb3 : Below bY W0 w2 := (hbel.alloc (by omega) _).trans (hb2.mono (by simp; omega))
      have hbt2 : bY ≤ w2.heap.size := by have := hb2.size; simp at this; omega
      clear hb2 hba hbel
      go_wp2_with (first
        | (at_mapUpdate; refine wpList_mapUpdate_own _ rfl _ _ _ 70 rfl 50 84 lawT Try.underlying70 (unitElem (H := Unit)) bY (n1 + k) _ rfl hown (by unfold maxLen; omega) _ _ _ rfl rfl hkey' _ [] unitElem_mk ?_; intro w3 hown1 hgrow1)
        | fail)
      have HS3 : Hid (SetT w3 bY (n1 + (k + 1)) (F ++ (ms.take (k + 1)).map fun m => (7, m.name))) := by
        show SetT _ _ _ _
        rw [← HTK.out]
        have := SetK.put lawT hown.isMap H2.out hkey hown1
        unfold SetT
        rw [List.map_append]
        exact this
      have hb4 : Below bY W0 w3 := hb3.grown hgrow1 hbt2 (fun j hj => by cases hj; exact Nat.le_refl _)
      clear hown hown1 hgrow1 H2 hkey hkey' HTK HS hb3
      go_wp2_with fail
      go_roundw
      case rel => exact ⟨k + 1, by go_num, by omega, HS3, hb4⟩
      case measure => simp [intOf]; omega
    · obtain rfl : k = M := by omega
      have b2 : wr.cell? ⟨w.heap.size, 2, none⟩ = some (.slice ae E ce) := (HX0.out.below hbW).cell 2
      obtain ⟨G, hG⟩ : ∃ G, F ++ (ms.take k).map (fun m => ((7 : Int), m.name)) = G := ⟨_, rfl⟩
      rw [hG] at HS
      have HG : Hid (F ++ ms.map (fun m => ((7 : Int), m.name)) = G) := by
        show _ = _
        rw [← hG, List.take_of_length_le (by rw [HNM.out]; omega)]
      clear hG
      have HS2 : Hid (SetT wr bY (n1 + k + 0) (G ++ (es.take 0).map fun m => (6, m.name))) := by
        show SetT _ _ _ _
        rw [List.take_zero, List.map_nil, List.append_nil]; exact HS.out
      clear HS hbW hbw
      go_wp2_with fail
      clear b2
      go_loopw [36] (fun iv wr => ∃ (i : Nat), iv = .int .i64 (i : Int) ∧ i ≤ E ∧ Hid (SetT wr bY (n1 + k + i) (G ++ (es.take i).map fun m => (6, m.name))) ∧ Below bY W0 wr) (fun iv _ => E - (intOf iv).toNat)
      case atStart => exact ⟨0, rfl, by omega, HS2, hbel⟩
      case round =>
        obtain ⟨i, rfl, hi, HS, hbel⟩ := hrel
        clear HS2
        have hbW : Below W0.heap.size W0 wr := by rw [HBY.out]; exact hbel
        have hbw : Below w.heap.size w wr := HW0.out.trans (hbW.mono HW0.out.size)
        have hbt : bY < wr.heap.size := SetK.lt HS.out
        by_cases hlt : i < E
        · obtain ⟨m, hm⟩ : ∃ n, es[i]? = some n := ⟨_, List.getElem?_eq_getElem (by rw [HNE.out]; exact hlt)⟩
          obtain ⟨g, off, vf, rfl, c0, c1, hf⟩ := (HE.out.below hbw).get hm
          obtain ⟨a3, c3, rfl, _, _⟩ := hf.form2
          generalize (nmRows m.values).length = nF at *
          have hms := (HW.out.enums m (List.mem_of_getElem? hm)).1
          have HTK : Hid ((G ++ (es.take i).map fun m => ((6 : Int), m.name)) ++ [(6, m.name)] = G ++ (es.take (i + 1)).map fun m => (6, m.name)) := by
            show _ = _
            rw [List.take_add_one, hm, List.map_append, List.append_assoc]; rfl
          generalize m.name = mnm at *
          clear hf hm hbW hbw
          have hba : Below wr.heap.size wr (wr.alloc (.cells #[.string mnm, .slice a3 nF c3] 40)) := (Below.refl _ _).alloc (Nat.le_refl _) _
          obtain ⟨kl, hkey⟩ := key_ty (k := 6) (s := mnm) ⟨by decide, by decide⟩ hms
          obtain ⟨D, hown, h2'⟩ := SetK.below HS.out hba
          have H2 : Hid _ := h2'
          clear h2'
          have hkey' := hkey
          unfold tyV at hkey'
          simp only at hkey'
          have hb3 : Below bY W0 (wr.alloc (.cells #[.string mnm, .slice a3 nF c3] 40)) := hbel.alloc (by omega) _
          have hbt2 : bY ≤ (wr.alloc (.cells #[.string mnm, .slice a3 nF c3] 40)).heap.size := by simp; omega
          clear hba hbel
          go_wp2_with (first
            | (at_mapUpdate; refine wpList_mapUpdate_own _ rfl _ _ _ 70 rfl 50 84 lawT Try.underlying70 (unitElem (H := Unit)) bY (n1 + k + i) _ rfl hown (by unfold maxLen; omega) _ _ _ rfl rfl hkey' _ [] unitElem_mk ?_; intro w3 hown1 hgrow1)
            | fail)
          clear c0 c1
          have HS3 : Hid (SetT w3 bY (n1 + k + (i + 1)) (G ++ (es.take (i + 1)).map fun m => (6, m.name))) := by
            show SetT _ _ _ _
            rw [← HTK.out]
            have := SetK.put lawT hown.isMap H2.out hkey hown1
            unfold SetT
            rw [List.map_append]
            exact this
          have hb4 : Below bY W0 w3 := hb3.grown hgrow1 hbt2 (fun j hj => by cases hj; exact Nat.le_refl _)
          clear hown hown1 hgrow1 H2 hkey hkey' HTK HS hb3
          go_wp2_with fail
          go_roundw
          case rel => exact ⟨i + 1, by go_num, by omega, HS3, hb4⟩
          case measure => simp [intOf]; omega
        · go_wp2_with fail
          go_ret
          refine ⟨⟨bY, _, _, rfl, by omega, HS.out, fun k' s' => ?_⟩, hbw⟩
          rw [← HG.out, ← HF.out, List.take_of_length_le (by rw [HNE.out]; omega)]
          exact types_told k' s' ms es
end Go.Proofs.Ytomeppgmmlaibaa
