/- What typesOf answers: the set of all types that a field may have. -/
import Derived.Deep.CutRange
import Derived.Laws.AppendOwnNone
import Derived.OwnWalk
import Derived.Test.YtkfhlgajeejgeaaGreatDoorPkB
namespace Go.Proofs.YtkfhlgajeejgeaaGreatDoor
open Go.ChangeShapes Go.WideShapes Go.ChangeAt Go.RowKit Go.Maps
set_option linter.unusedVariables false
set_option linter.unusedSimpArgs false
set_option maxRecDepth 20000

theorem types_told (k : Int) (s : ByteArray) (ms : List MsS) (es : List EnS) : memT (k, s) (five true true true true true ++ ms.map (fun m => (7, m.name)) ++ es.map (fun m => (6, m.name))) = typeB (ms.map MsS.name) (es.map EnS.name) k s := by
  rw [Bool.eq_iff_iff, memT_iff]
  unfold typeB
  simp only [List.mem_append, mem5, true_and, Bool.or_eq_true, Bool.and_eq_true, decide_eq_true_eq, memB_iff, List.mem_map, Prod.mk.injEq]
  constructor
  · rintro ((h | ⟨m, hm, h1, h2⟩) | ⟨m, hm, h1, h2⟩)
    · rcases h with ⟨h1, h2⟩ | ⟨h1, h2⟩ | ⟨h1, h2⟩ | ⟨h1, h2⟩ | ⟨h1, h2⟩ <;> exact .inl (.inl ⟨by omega, h2⟩)
    · exact .inr ⟨h1.symm, m, hm, h2⟩
    · exact .inl (.inr ⟨h1.symm, m, hm, h2⟩)
  · rintro ((⟨h1, h2⟩ | ⟨h1, m, hm, h2⟩) | ⟨h1, m, hm, h2⟩)
    · refine .inl (.inl ?_)
      have : k = 1 ∨ k = 2 ∨ k = 3 ∨ k = 4 ∨ k = 5 := by omega
      rcases this with h | h | h | h | h
      · exact .inl ⟨h, h2⟩
      · exact .inr (.inl ⟨h, h2⟩)
      · exact .inr (.inr (.inl ⟨h, h2⟩))
      · exact .inr (.inr (.inr (.inl ⟨h, h2⟩)))
      · exact .inr (.inr (.inr (.inr ⟨h, h2⟩)))
    · exact .inr ⟨m, hm, h1.symm, h2⟩
    · exact .inl (.inr ⟨m, hm, h1.symm, h2⟩)
set_option maxHeartbeats 4000000 in
theorem typesof_any {w : World} {v : Value} {s : ScS} (hr : ScIn w v s) (hw : ScW s) (h1 : s.msgs.length ≤ 14) (h2 : s.enums.length ≤ 10) :
    Calls Tryz.prog 40 #[v] w fun e w' => (∃ bY ny T, e = .returned (.map (some bY)) ∧ w.heap.size ≤ bY ∧ SetT w' bY ny T ∧ ∀ k s', memT (k, s') T = typeB s.mn s.en k s') ∧ Below w.heap.size w w' := by
  obtain ⟨vm, ve, vt, rfl, hm, he, ht⟩ := hr
  obtain ⟨am, cm, rfl, qm1, qm2, _⟩ := hm.open
  obtain ⟨ae, ce, rfl, qe1, qe2, _⟩ := he.open
  obtain ⟨at', ct, rfl, qt1, qt2⟩ := ht.form2
  unfold maxLen at qm2 qe2
  have HM : Hid _ := hm
  have HE : Hid _ := he
  clear hm he ht
  obtain ⟨nm, ms, es, ts⟩ := s
  simp only at *
  have HM : Hid (MsIn w (.slice am ms.length cm) ms) := HM
  have HE : Hid (EnIn w (.slice ae es.length ce) es) := HE
  generalize (mtRows ts).length = T at *
  obtain ⟨M, hM⟩ : ∃ N, ms.length = N := ⟨_, rfl⟩
  obtain ⟨E, hE⟩ : ∃ N, es.length = N := ⟨_, rfl⟩
  rw [hM] at HM qm1 h1 ⊢
  rw [hE] at HE qe1 h2 ⊢
  have HNM : Hid (ms.length = M) := hM
  have HNE : Hid (es.length = E) := hE
  have HW : Hid (ScW ⟨nm, ms, es, ts⟩) := hw
  clear hM hE hw
  have hmm := @run_makeMap Tryz.prog
  go_enter Tryz.func40, Tryz.ntmps40
  go_wp2_with fail
  refine wp_region_held_drew (S := fun _ => True) (by kernel_rfl) trivial (fun hS => ?_)
  have HW0 : Hid (Below w.heap.size w (w.alloc (.cells #[.string nm, .slice am M cm, .slice ae E ce, .slice at' T ct] 26)).drew) := below_drewN 1 ((Below.refl _ _).alloc (Nat.le_refl _) _)
  have HX0 : Hid (Blk (w.alloc (.cells #[.string nm, .slice am M cm, .slice ae E ce, .slice at' T ct] 26)).drew w.heap.size #[.string nm, .slice am M cm, .slice ae E ce, .slice at' T ct] 26) := Blk.new w #[.string nm, .slice am M cm, .slice ae E ce, .slice at' T ct] 26
  generalize (w.alloc (.cells #[.string nm, .slice am M cm, .slice ae E ce, .slice at' T ct] 26)).drew = W0 at *
  clear hS
  refine rg_take 1 9 (.agg #[.int .i64 1, .string ⟨#[]⟩]) _ rfl rfl (by kernel_rfl) (by kernel_rfl) (by kernel_rfl) (fun _ _ _ h => h) (by rfl) (fun w' hw' => ?_) trivial (listed' := #[false, true, false, false, false, false, false, false, false, false, false, false, false, false, false, false, false, false]) (by kernel_rfl) rfl ?_
  · go_simp
  simp only [List.setIfInBounds_toArray, List.set_cons_zero, List.set_cons_succ]
  refine rg_take 2 10 (.agg #[]) _ rfl rfl (by kernel_rfl) (by kernel_rfl) (by kernel_rfl) (fun _ _ _ h => h) (by rfl) (fun w' hw' => ?_) trivial (listed' := #[false, true, true, false, false, false, false, false, false, false, false, false, false, false, false, false, false, false]) (by kernel_rfl) rfl ?_
  · go_simp
  simp only [List.setIfInBounds_toArray, List.set_cons_zero, List.set_cons_succ]
  refine rg_take 4 11 (.agg #[.int .i64 2, .string ⟨#[]⟩]) _ rfl rfl (by kernel_rfl) (by kernel_rfl) (by kernel_rfl) (fun _ _ _ h => h) (by rfl) (fun w' hw' => ?_) trivial (listed' := #[false, true, true, false, true, false, false, false, false, false, false, false, false, false, false, false, false, false]) (by kernel_rfl) rfl ?_
  · go_simp
  simp only [List.setIfInBounds_toArray, List.set_cons_zero, List.set_cons_succ]
  refine rg_take 5 12 (.agg #[]) _ rfl rfl (by kernel_rfl) (by kernel_rfl) (by kernel_rfl) (fun _ _ _ h => h) (by rfl) (fun w' hw' => ?_) trivial (listed' := #[false, true, true, false, true, true, false, false, false, false, false, false, false, false, false, false, false, false]) (by kernel_rfl) rfl ?_
  · go_simp
  simp only [List.setIfInBounds_toArray, List.set_cons_zero, List.set_cons_succ]
  refine rg_take 7 13 (.agg #[.int .i64 3, .string ⟨#[]⟩]) _ rfl rfl (by kernel_rfl) (by kernel_rfl) (by kernel_rfl) (fun _ _ _ h => h) (by rfl) (fun w' hw' => ?_) trivial (listed' := #[false, true, true, false, true, true, false, true, false, false, false, false, false, false, false, false, false, false]) (by kernel_rfl) rfl ?_
  · go_simp
  simp only [List.setIfInBounds_toArray, List.set_cons_zero, List.set_cons_succ]
  refine rg_take 8 14 (.agg #[]) _ rfl rfl (by kernel_rfl) (by kernel_rfl) (by kernel_rfl) (fun _ _ _ h => h) (by rfl) (fun w' hw' => ?_) trivial (listed' := #[false, true, true, false, true, true, false, true, true, false, false, false, false, false, false, false, false, false]) (by kernel_rfl) rfl ?_
  · go_simp
  simp only [List.setIfInBounds_toArray, List.set_cons_zero, List.set_cons_succ]
  refine rg_take 10 15 (.agg #[.int .i64 4, .string ⟨#[]⟩]) _ rfl rfl (by kernel_rfl) (by kernel_rfl) (by kernel_rfl) (fun _ _ _ h => h) (by rfl) (fun w' hw' => ?_) trivial (listed' := #[false, true, true, false, true, true, false, true, true, false, true, false, false, false, false, false, false, false]) (by kernel_rfl) rfl ?_
  · go_simp
  simp only [List.setIfInBounds_toArray, List.set_cons_zero, List.set_cons_succ]
  refine rg_take 11 16 (.agg #[]) _ rfl rfl (by kernel_rfl) (by kernel_rfl) (by kernel_rfl) (fun _ _ _ h => h) (by rfl) (fun w' hw' => ?_) trivial (listed' := #[false, true, true, false, true, true, false, true, true, false, true, true, false, false, false, false, false, false]) (by kernel_rfl) rfl ?_
  · go_simp
  simp only [List.setIfInBounds_toArray, List.set_cons_zero, List.set_cons_succ]
  refine rg_take 13 17 (.agg #[.int .i64 5, .string ⟨#[]⟩]) _ rfl rfl (by kernel_rfl) (by kernel_rfl) (by kernel_rfl) (fun _ _ _ h => h) (by rfl) (fun w' hw' => ?_) trivial (listed' := #[false, true, true, false, true, true, false, true, true, false, true, true, false, true, false, false, false, false]) (by kernel_rfl) rfl ?_
  · go_simp
  simp only [List.setIfInBounds_toArray, List.set_cons_zero, List.set_cons_succ]
  refine rg_take 14 18 (.agg #[]) _ rfl rfl (by kernel_rfl) (by kernel_rfl) (by kernel_rfl) (fun _ _ _ h => h) (by rfl) (fun w' hw' => ?_) trivial (listed' := #[false, true, true, false, true, true, false, true, true, false, true, true, false, true, true, false, false, false]) (by kernel_rfl) rfl ?_
  · go_simp
  simp only [List.setIfInBounds_toArray, List.set_cons_zero, List.set_cons_succ]
  refine rg_run 0 8 (.map (some W0.heap.size)) (W0.alloc (.map #[] 0)) rfl rfl (by kernel_rfl) (by rfl) (listed' := #[true, true, true, false, true, true, false, true, true, false, true, true, false, true, true, false, false, false]) (by kernel_rfl) (by go_simp) trivial ?_
  simp only [List.setIfInBounds_toArray, List.set_cons_zero, List.set_cons_succ]
  refine rg_five (b := W0.heap.size) (B := W0.heap.size) (w0 := W0) (Nat.le_refl _) rfl rfl rfl rfl rfl rfl rfl rfl rfl rfl rfl rfl rfl rfl rfl rfl rfl rfl rfl rfl rfl rfl rfl rfl rfl rfl rfl rfl rfl rfl rfl (by intro b1 b2 b3 b4 b5; cases b1 <;> cases b2 <;> cases b3 <;> cases b4 <;> cases b5 <;> kernel_rfl) ?fin 5 0 false false false false false rfl (by omega) (W0.alloc (.map #[] 0)) (by simp) ((Below.refl _ _).alloc (Nat.le_refl _) _) (SetK.made 42 W0)
  intro W1 n1 hn1 hbel1 hset1
  have HS1 : Hid (SetT W1 W0.heap.size n1 (five true true true true true)) := hset1
  clear hset1
  refine rg_take 16 19 (.map (some W0.heap.size)) _ rfl rfl (by kernel_rfl) (by kernel_rfl) (by kernel_rfl) (fun _ _ _ h => h) (by rfl) (fun w' hw' => ?_) trivial (listed' := #[true, true, true, true, true, true, true, true, true, true, true, true, true, true, true, true, true, false]) (by kernel_rfl) rfl ?_
  · go_simp
  simp only [List.setIfInBounds_toArray, List.set_cons_zero, List.set_cons_succ]
  refine rg_take 17 3 (.map (some W0.heap.size)) _ rfl rfl (by kernel_rfl) (by kernel_rfl) (by kernel_rfl) (fun _ _ _ h => h) (by rfl) (fun w' hw' => ?_) trivial (listed' := #[true, true, true, true, true, true, true, true, true, true, true, true, true, true, true, true, true, true]) (by kernel_rfl) rfl ?_
  · go_simp
  simp only [List.setIfInBounds_toArray, List.set_cons_zero, List.set_cons_succ]
  refine wpAnyH_done (by kernel_rfl) ?_ _
  clear hmm
  have hx0 : w.heap.size < W0.heap.size := HX0.out.lt
  obtain ⟨bY, hbY⟩ : ∃ n, W0.heap.size = n := ⟨_, rfl⟩
  rw [hbY] at HS1 hbel1 hx0 ⊢
  have HBY : Hid (W0.heap.size = bY) := hbY
  clear hbY
  have hb1 : Below W0.heap.size W0 W1 := by rw [HBY.out]; exact hbel1
  have b1 : W1.cell? ⟨w.heap.size, 1, none⟩ = some (.slice am M cm) := (HX0.out.below hb1).cell 1
  clear hb1
  obtain ⟨F, hF⟩ : ∃ F, five true true true true true = F := ⟨_, rfl⟩
  rw [hF] at HS1
  have HF : Hid (five true true true true true = F) := hF
  clear hF
  have HS1' : Hid (SetT W1 bY (n1 + 0) (F ++ (ms.take 0).map fun m => (7, m.name))) := by
    show SetT _ _ _ _
    rw [List.take_zero, List.map_nil, List.append_nil]; exact HS1.out
  clear HS1
  go_wp2_with fail
  clear b1
  go_loopw [23] (fun iv wr => ∃ (k : Nat), iv = .int .i64 (k : Int) ∧ k ≤ M ∧ Hid (SetT wr bY (n1 + k) (F ++ (ms.take k).map fun m => (7, m.name))) ∧ Below bY W0 wr) (fun iv _ => M - (intOf iv).toNat)
  case atStart => exact ⟨0, rfl, by omega, HS1', hbel1⟩
  case round =>
    obtain ⟨k, rfl, hk, HS, hbel⟩ := hrel
    clear HS1'
    have hbW : Below W0.heap.size W0 wr := by rw [HBY.out]; exact hbel
    have hbw : Below w.heap.size w wr := HW0.out.trans (hbW.mono HW0.out.size)
    have hbt : bY < wr.heap.size := SetK.lt HS.out
    by_cases hlt : k < M
    · obtain ⟨m, hm⟩ : ∃ n, ms[k]? = some n := ⟨_, List.getElem?_eq_getElem (by rw [HNM.out]; exact hlt)⟩
      obtain ⟨g, off, vf, vr, rfl, c0, c1, c2, hf, hrr⟩ := (HM.out.below hbw).get hm
      obtain ⟨a3, c3, rfl, _, _⟩ := hf.form2
      obtain ⟨a4, c4, rfl, _, _⟩ := hrr.form2
      generalize (flRows m.fields).length = nF at *
      generalize (inRows m.reserved).length = nR at *
      have hms := (HW.out.msgs m (List.mem_of_getElem? hm)).1
      have HTK : Hid ((F ++ (ms.take k).map fun m => ((7 : Int), m.name)) ++ [(7, m.name)] = F ++ (ms.take (k + 1)).map fun m => (7, m.name)) := by
        show _ = _
        rw [List.take_add_one, hm, List.map_append, List.append_assoc]; rfl
      generalize m.name = mnm at *
      clear hf hrr hm hbW hbw
      go_wp2_with fail
      clear c0 c1 c2
      have hba : Below wr.heap.size wr (wr.alloc (.cells #[.string mnm, .slice a3 nF c3, .slice a4 nR c4] 40)) := (Below.refl _ _).alloc (Nat.le_refl _) _
      refine (msgtype_any _ _).mono ?_
      rintro e w2 ⟨rfl, hb2⟩
      obtain ⟨kl, hkey⟩ := key_ty (k := 7) (s := mnm) ⟨by decide, by decide⟩ hms
      obtain ⟨D, hown, h2'⟩ := SetK.below (SetK.below HS.out hba) hb2
      have H2 : Hid _ := h2'
      clear h2'
      have hkey' := hkey
      unfold tyV at hkey'
      simp only at hkey'
      have hb3 : Below bY W0 w2 := (hbel.alloc (by omega) _).trans (hb2.mono (by simp; omega))
      have hbt2 : bY ≤ w2.heap.size := by have := hb2.size; simp at this; omega
      clear hb2 hba hbel
      go_wp2_with (first
        | (at_mapUpdate; refine wpList_mapUpdate_own _ rfl _ _ _ 76 rfl 42 121 lawT Tryz.underlying76 (unitElem (H := Unit)) bY (n1 + k) _ rfl hown (by unfold maxLen; omega) _ _ _ rfl rfl hkey' _ [] unitElem_mk ?_; intro w3 hown1 hgrow1)
        | fail)
      have HS3 : Hid (SetT w3 bY (n1 + (k + 1)) (F ++ (ms.take (k + 1)).map fun m => (7, m.name))) := by
        show SetT _ _ _ _
        rw [← HTK.out]
        have := SetK.put lawT hown.isMap H2.out hkey hown1
        unfold SetT
        rw [List.map_append]
        exact this
      have hb4 : Below bY W0 w3 := hb3.grown hgrow1 hbt2 (fun j hj => by cases hj; exact Nat.le_refl _)
      clear hown hown1 hgrow1 H2 hkey hkey' HTK HS hb3
      go_wp2_with fail
      go_roundw
      case rel => exact ⟨k + 1, by go_num, by omega, HS3, hb4⟩
      case measure => simp [intOf]; omega
    · obtain rfl : k = M := by omega
      have b2 : wr.cell? ⟨w.heap.size, 2, none⟩ = some (.slice ae E ce) := (HX0.out.below hbW).cell 2
      obtain ⟨G, hG⟩ : ∃ G, F ++ (ms.take k).map (fun m => ((7 : Int), m.name)) = G := ⟨_, rfl⟩
      rw [hG] at HS
      have HG : Hid (F ++ ms.map (fun m => ((7 : Int), m.name)) = G) := by
        show _ = _
        rw [← hG, List.take_of_length_le (by rw [HNM.out]; omega)]
      clear hG
      have HS2 : Hid (SetT wr bY (n1 + k + 0) (G ++ (es.take 0).map fun m => (6, m.name))) := by
        show SetT _ _ _ _
        rw [List.take_zero, List.map_nil, List.append_nil]; exact HS.out
      clear HS hbW hbw
      go_wp2_with fail
      clear b2
      go_loopw [36] (fun iv wr => ∃ (i : Nat), iv = .int .i64 (i : Int) ∧ i ≤ E ∧ Hid (SetT wr bY (n1 + k + i) (G ++ (es.take i).map fun m => (6, m.name))) ∧ Below bY W0 wr) (fun iv _ => E - (intOf iv).toNat)
      case atStart => exact ⟨0, rfl, by omega, HS2, hbel⟩
      case round =>
        obtain ⟨i, rfl, hi, HS, hbel⟩ := hrel
        clear HS2
        have hbW : Below W0.heap.size W0 wr := by rw [HBY.out]; exact hbel
        have hbw : Below w.heap.size w wr := HW0.out.trans (hbW.mono HW0.out.size)
        have hbt : bY < wr.heap.size := SetK.lt HS.out
        by_cases hlt : i < E
        · obtain ⟨m, hm⟩ : ∃ n, es[i]? = some n := ⟨_, List.getElem?_eq_getElem (by rw [HNE.out]; exact hlt)⟩
          obtain ⟨g, off, vf, rfl, c0, c1, hf⟩ := (HE.out.below hbw).get hm
          obtain ⟨a3, c3, rfl, _, _⟩ := hf.form2
          generalize (nmRows m.values).length = nF at *
          have hms := (HW.out.enums m (List.mem_of_getElem? hm)).1
          have HTK : Hid ((G ++ (es.take i).map fun m => ((6 : Int), m.name)) ++ [(6, m.name)] = G ++ (es.take (i + 1)).map fun m => (6, m.name)) := by
            show _ = _
            rw [List.take_add_one, hm, List.map_append, List.append_assoc]; rfl
          generalize m.name = mnm at *
          clear hf hm hbW hbw
          have hba : Below wr.heap.size wr (wr.alloc (.cells #[.string mnm, .slice a3 nF c3] 47)) := (Below.refl _ _).alloc (Nat.le_refl _) _
          obtain ⟨kl, hkey⟩ := key_ty (k := 6) (s := mnm) ⟨by decide, by decide⟩ hms
          obtain ⟨D, hown, h2'⟩ := SetK.below HS.out hba
          have H2 : Hid _ := h2'
          clear h2'
          have hkey' := hkey
          unfold tyV at hkey'
          simp only at hkey'
          have hb3 : Below bY W0 (wr.alloc (.cells #[.string mnm, .slice a3 nF c3] 47)) := hbel.alloc (by omega) _
          have hbt2 : bY ≤ (wr.alloc (.cells #[.string mnm, .slice a3 nF c3] 47)).heap.size := by simp; omega
          clear hba hbel
          go_wp2_with (first
            | (at_mapUpdate; refine wpList_mapUpdate_own _ rfl _ _ _ 76 rfl 42 121 lawT Tryz.underlying76 (unitElem (H := Unit)) bY (n1 + k + i) _ rfl hown (by unfold maxLen; omega) _ _ _ rfl rfl hkey' _ [] unitElem_mk ?_; intro w3 hown1 hgrow1)
            | fail)
          clear c0 c1
          have HS3 : Hid (SetT w3 bY (n1 + k + (i + 1)) (G ++ (es.take (i + 1)).map fun m => (6, m.name))) := by
            show SetT _ _ _ _
            rw [← HTK.out]
            have := SetK.put lawT hown.isMap H2.out hkey hown1
            unfold SetT
            rw [List.map_append]
            exact this
          have hb4 : Below bY W0 w3 := hb3.grown hgrow1 hbt2 (fun j hj => by cases hj; exact Nat.le_refl _)
          clear hown hown1 hgrow1 H2 hkey hkey' HTK HS hb3
          go_wp2_with fail
          go_roundw
          case rel => exact ⟨i + 1, by go_num, by omega, HS3, hb4⟩
          case measure => simp [intOf]; omega
        · go_wp2_with fail
          go_ret
          refine ⟨⟨bY, _, _, rfl, by omega, HS.out, fun k' s' => ?_⟩, hbw⟩
          rw [← HG.out, ← HF.out, List.take_of_length_le (by rw [HNE.out]; omega)]
          exact types_told k' s' ms es
end Go.Proofs.YtkfhlgajeejgeaaGreatDoor

/- What Check answers. -/
namespace Go.Proofs.YtkfhlgajeejgeaaGreatDoor
open Go.ChangeShapes Go.WideShapes Go.ChangeAt Go.RowKit Go.Maps
set_option linter.unusedVariables false
set_option linter.unusedSimpArgs false
set_option maxRecDepth 20000

/-- Not too much. -/
structure FewL (s : ScS) : Prop where
  msgs : s.msgs.length ≤ 14
  enums : s.enums.length ≤ 10
  meths : s.methods.length ≤ 10
  flds : ∀ m ∈ s.msgs, m.fields.length ≤ 20 ∧ m.reserved.length ≤ 40
  vals : ∀ e ∈ s.enums, e.values.length ≤ 24
theorem chkMs_err {mn en a : List ByteArray} {m : MsS} {l : List MsS} {X : Int} (hX : X = if freshB m.name a = false then 6 else chkMb mn en m) (h : X ≠ 0) : chkMs mn en a (m :: l) = X := by
  unfold chkMs
  cases hf : freshB m.name a
  · rw [if_pos rfl]; rw [hf, if_pos rfl] at hX; exact hX.symm
  · rw [if_neg (by decide)]; rw [hf, if_neg (by decide)] at hX; subst hX; exact orE_ne h _
theorem chkMs_on {mn en a : List ByteArray} {m : MsS} {l : List MsS} (hX : 0 = if freshB m.name a = false then 6 else chkMb mn en m) : freshB m.name a = true ∧ chkMs mn en a (m :: l) = chkMs mn en (a ++ [m.name]) l := by
  cases hf : freshB m.name a
  · rw [hf, if_pos rfl] at hX; omega
  · rw [hf, if_neg (by decide)] at hX
    refine ⟨rfl, ?_⟩
    show (if freshB m.name a = false then 6 else orE (chkMb mn en m) (chkMs mn en (a ++ [m.name]) l)) = _
    rw [hf, if_neg (by decide), ← hX, orE_zero]
theorem chkEs_err {a : List ByteArray} {m : EnS} {l : List EnS} {X : Int} (hX : X = if freshB m.name a = false then 6 else chkEb m) (h : X ≠ 0) : chkEs a (m :: l) = X := by
  unfold chkEs
  cases hf : freshB m.name a
  · rw [if_pos rfl]; rw [hf, if_pos rfl] at hX; exact hX.symm
  · rw [if_neg (by decide)]; rw [hf, if_neg (by decide)] at hX; subst hX; exact orE_ne h _
theorem chkEs_on {a : List ByteArray} {m : EnS} {l : List EnS} (hX : 0 = if freshB m.name a = false then 6 else chkEb m) : freshB m.name a = true ∧ chkEs a (m :: l) = chkEs (a ++ [m.name]) l := by
  cases hf : freshB m.name a
  · rw [hf, if_pos rfl] at hX; omega
  · rw [hf, if_neg (by decide)] at hX
    refine ⟨rfl, ?_⟩
    show (if freshB m.name a = false then 6 else orE (chkEb m) (chkEs (a ++ [m.name]) l)) = _
    rw [hf, if_neg (by decide), ← hX, orE_zero]
set_option maxHeartbeats 4000000 in
theorem check_any {w : World} {v : Value} {s : ScS} (hr : ScIn w v s) (hw : ScW s) (hf : FewL s) :
    Calls Tryz.prog 20 #[v] w fun e w' => e = .returned (.int .i64 (checkA s)) ∧ Below w.heap.size w w' := by
  have HSC := hr
  obtain ⟨vm, ve, vt, rfl, hm, he, ht⟩ := hr
  obtain ⟨am, cm, rfl, qm1, qm2⟩ := hm.form2
  obtain ⟨ae, ce, rfl, qe1, qe2⟩ := he.form2
  obtain ⟨at', ct, rfl, qt1, qt2⟩ := ht.form2
  have hT : (mtRows s.methods).length = s.methods.length := by simp [mtRows]
  rw [hT] at HSC ht qt1 ⊢
  clear hT
  have HWA : Hid (∀ W : World, Calls Tryz.prog 39 #[.agg #[.string s.name, .slice am s.msgs.length cm, .slice ae s.enums.length ce, .slice at' s.methods.length ct]] W fun e w' => e = .returned (.int .i64 (wholeA s)) ∧ Below W.heap.size W w') := fun W => cwhole_any s hw.name hf.msgs hf.enums hf.meths
  have HTO : Hid (∀ W : World, Below w.heap.size w W → Calls Tryz.prog 40 #[.agg #[.string s.name, .slice am s.msgs.length cm, .slice ae s.enums.length ce, .slice at' s.methods.length ct]] W fun e w' => (∃ bY ny T, e = .returned (.map (some bY)) ∧ W.heap.size ≤ bY ∧ SetT w' bY ny T ∧ ∀ k s', memT (k, s') T = typeB s.mn s.en k s') ∧ Below W.heap.size W w') := fun W hW => typesof_any (HSC.below hW) hw hf.msgs hf.enums
  have HM : Hid (MsIn w (.slice am s.msgs.length cm) s.msgs) := hm
  have HE : Hid (EnIn w (.slice ae s.enums.length ce) s.enums) := he
  have HT : Hid (RowG w (.slice at' s.methods.length ct) 3 (mtRows s.methods)) := ht
  have HMN : Hid (s.mn = s.msgs.map MsS.name) := rfl
  obtain ⟨CA, hCA⟩ : ∃ A, checkA s = A := ⟨_, rfl⟩
  obtain ⟨WA, hWA⟩ : ∃ A, wholeA s = A := ⟨_, rfl⟩
  have HCA : Hid (CA = orE WA (orE (orE (chkMs s.mn s.en [] s.msgs) (chkEs s.mn s.enums)) (chkTs s.mn [] s.methods))) := by show _ = _; rw [← hCA, ← hWA]; rfl
  rw [hWA] at HWA
  rw [hCA]
  generalize s.mn = mn at *
  generalize s.en = en at *
  have HF : Hid (FewL s) := hf
  have HW : Hid (ScW s) := hw
  obtain ⟨nm, ms, es, ts⟩ := s
  simp only at *
  have HM : Hid (MsIn w (.slice am ms.length cm) ms) := HM
  have HE : Hid (EnIn w (.slice ae es.length ce) es) := HE
  obtain ⟨M, hM⟩ : ∃ N, ms.length = N := ⟨_, rfl⟩
  obtain ⟨E, hE⟩ : ∃ N, es.length = N := ⟨_, rfl⟩
  obtain ⟨T, hT⟩ : ∃ N, ts.length = N := ⟨_, rfl⟩
  have h1 := hf.msgs
  have h2 := hf.enums
  have h3 := hf.meths
  simp only at h1 h2 h3
  have HL3 : Hid (ts.length ≤ 10) := h3
  rw [hM] at HM qm1 h1 HWA HTO ⊢
  rw [hE] at HE qe1 h2 HWA HTO ⊢
  rw [hT] at HT qt1 h3 HWA HTO ⊢
  have HNM : Hid (ms.length = M) := hM
  have HNE : Hid (es.length = E) := hE
  have HNT : Hid (ts.length = T) := hT
  clear hM hE hT hf hw HSC hm he ht hCA hWA
  have hba : Below w.heap.size w (w.alloc (.cells #[.string nm, .slice am M cm, .slice ae E ce, .slice at' T ct] 26)) := (Below.refl _ _).alloc (Nat.le_refl _) _
  have BX := Blk.new w #[.string nm, .slice am M cm, .slice ae E ce, .slice at' T ct] 26
  have hmm := @run_makeMap Tryz.prog
  by_cases hw0 : WA = 0
  · subst hw0
    have HCA : Hid (CA = orE (orE (chkMs mn en [] ms) (chkEs mn es)) (chkTs mn [] ts)) := by show _ = _; rw [HCA.out, orE_zero]
    go_enter Tryz.func20, Tryz.ntmps20
    go_wp2_with fail
    refine (HWA.out _).mono ?_
    rintro e w1 ⟨rfl, hb1⟩
    have BX1 := BX.below hb1
    have b0 : w1.cell? ⟨w.heap.size, 0, none⟩ = some (.string nm) := BX1.cell 0
    have b1 : w1.cell? ⟨w.heap.size, 1, none⟩ = some (.slice am M cm) := BX1.cell 1
    have b2 : w1.cell? ⟨w.heap.size, 2, none⟩ = some (.slice ae E ce) := BX1.cell 2
    have b3 : w1.cell? ⟨w.heap.size, 3, none⟩ = some (.slice at' T ct) := BX1.cell 3
    have hb01 : Below w.heap.size w w1 := hba.trans (hb1.mono hba.size)
    go_wp2_with fail
    clear b0 b1 b2 b3
    refine (HTO.out w1 hb01).mono ?_
    rintro e w2 ⟨⟨bY, ny, Ty, rfl, hbY, hTy, hTt⟩, hb2⟩
    have HTy : Hid (SetT w2 bY ny Ty) := hTy
    have HTT : Hid (∀ k s', memT (k, s') Ty = typeB mn en k s') := hTt
    clear hTy hTt
    have BX2 := BX1.below hb2
    have hb02 : Below w.heap.size w w2 := hb01.trans (hb2.mono hb01.size)
    have b1 : w2.cell? ⟨w.heap.size, 1, none⟩ = some (.slice am M cm) := BX2.cell 1
    have hx2 : w.heap.size < w2.heap.size := BX2.lt
    have hxY : w.heap.size < bY := Nat.lt_of_lt_of_le BX1.lt hbY
    have hYn : bY < w2.heap.size := SetK.lt HTy.out
    clear hb1 hb2 hb01 BX BX1 hba HWA HTO
    go_wp2_with fail
    clear hmm b1
    have HM0 : SetS (w2.alloc (.map #[] 0)) w2.heap.size 0 ((ms.take 0).map MsS.name) := SetK.made 9 w2
    have HTy0 : Hid (SetT (w2.alloc (.map #[] 0)) bY ny Ty) := SetK.below HTy.out ((Below.refl _ _).alloc (Nat.le_refl _) _)
    have hbel0 : Below w.heap.size w (w2.alloc (.map #[] 0)) := hb02.alloc (by omega) _
    have BX0 : Blk (w2.alloc (.map #[] 0)) w.heap.size #[.string nm, .slice am M cm, .slice ae E ce, .slice at' T ct] 26 := BX2.below ((Below.refl _ _).alloc (Nat.le_refl _) _)
    obtain ⟨bn, hbn⟩ : ∃ n, w2.heap.size = n := ⟨_, rfl⟩
    rw [hbn] at HM0 hYn hx2 ⊢
    clear hbn HTy BX2 hb02
    obtain ⟨P1, hP1⟩ : ∃ A, chkMs mn en [] ms = A := ⟨_, rfl⟩
    have HP1 : Hid (P1 = chkMs mn en ((ms.take 0).map MsS.name) (ms.drop 0)) := hP1.symm
    have HCA : Hid (CA = orE (orE P1 (chkEs mn es)) (chkTs mn [] ts)) := by show _ = _; rw [HCA.out, hP1]
    clear hP1
    go_loopw [23] (fun iv wr => ∃ (k : Nat), iv = .int .i64 (k : Int) ∧ k ≤ M ∧ Hid (P1 = chkMs mn en ((ms.take k).map MsS.name) (ms.drop k)) ∧ Hid (SetS wr bn k ((ms.take k).map MsS.name)) ∧ Hid (SetT wr bY ny Ty) ∧ Below w.heap.size w wr ∧ Blk wr w.heap.size #[.string nm, .slice am M cm, .slice ae E ce, .slice at' T ct] 26) (fun iv _ => M - (intOf iv).toNat)
    case atStart => exact ⟨0, rfl, by omega, HP1, HM0, HTy0, hbel0, BX0⟩
    case round =>
      obtain ⟨k, rfl, hk, HP, HS, HTy, hbel, BX⟩ := hrel
      clear HM0 HTy0 hbel0 BX0
      have hbw : bn < wr.heap.size := SetK.lt HS.out
      by_cases hlt : k < M
      · obtain ⟨m, hm⟩ : ∃ n, ms[k]? = some n := ⟨_, List.getElem?_eq_getElem (by rw [HNM.out]; exact hlt)⟩
        obtain ⟨g, off, vf, vr, rfl, c0, c1, c2, hf, hrr⟩ := (HM.out.below hbel).get hm
        have HFf : Hid (RowG wr vf 5 (flRows m.fields)) := hf
        have HRr : Hid (RowG wr vr 1 (inRows m.reserved)) := hrr
        obtain ⟨a3, c3, rfl, _, _⟩ := hf.form2
        obtain ⟨a4, c4, rfl, _, _⟩ := hrr.form2
        have hmem := List.mem_of_getElem? hm
        have HWm : Hid (MsW m) := HW.out.msgs m hmem
        have HFm : Hid (m.fields.length ≤ 20 ∧ m.reserved.length ≤ 40) := HF.out.flds m hmem
        have HP2 : Hid (P1 = chkMs mn en ((ms.take k).map MsS.name) (m :: ms.drop (k + 1))) := by show _ = _; rw [HP.out, drop_at hm]
        have HTK : Hid ((ms.take (k + 1)).map MsS.name = (ms.take k).map MsS.name ++ [m.name]) := by show _ = _; rw [take_at hm, List.map_append]; rfl
        obtain ⟨m0, mf, mr⟩ := m
        simp only at c0 c1 c2 HTK HP2 HFm
        have HFf : Hid (RowG wr (.slice a3 (flRows mf).length c3) 5 (flRows mf)) := HFf
        have HRr : Hid (RowG wr (.slice a4 (inRows mr).length c4) 1 (inRows mr)) := HRr
        have HNF : Hid (RowG wr (.slice a3 (flRows mf).length c3) 5 (flRows mf) ∧ RowG wr (.slice a4 (inRows mr).length c4) 1 (inRows mr)) := ⟨HFf.out, HRr.out⟩
        generalize (flRows mf).length = nF at *
        generalize (inRows mr).length = nR at *
        clear hf hrr hm HP hmem HFf HRr
        go_wp2_with fail
        clear c0 c1 c2
        have hba : Below wr.heap.size wr (wr.alloc (.cells #[.string m0, .slice a3 nF c3, .slice a4 nR c4] 40)) := (Below.refl _ _).alloc (Nat.le_refl _) _
        refine (cmsg_any (HNF.out.1.below hba) (HNF.out.2.below hba) HFm.out.1 HFm.out.2 (SetK.below HS.out hba) (by omega) (SetK.below HTy.out hba) (by omega) HTT.out HWm.out).mono ?_
        rintro e w3 ⟨rfl, hs3, hk3⟩
        have HS3 : Hid _ := hs3
        clear hs3
        obtain ⟨X, hX⟩ : ∃ X, (if freshB m0 ((ms.take k).map MsS.name) = false then 6 else chkMb mn en ⟨m0, mf, mr⟩) = X := ⟨_, rfl⟩
        rw [hX]
        have HX : Hid (X = if freshB m0 ((ms.take k).map MsS.name) = false then 6 else chkMb mn en ⟨m0, mf, mr⟩) := hX.symm
        clear hX
        have hb3 : Below w.heap.size w w3 := (hbel.alloc (by omega) _).trans (hk3.toBelow (by simp; omega) (fun k e => by omega))
        by_cases hx0 : X = 0
        · subst hx0
          obtain ⟨g1, g2⟩ := chkMs_on (m := ⟨m0, mf, mr⟩) (l := ms.drop (k + 1)) HX.out
          have HP3 : Hid (P1 = chkMs mn en ((ms.take (k + 1)).map MsS.name) (ms.drop (k + 1))) := by show _ = _; rw [HP2.out, g2, HTK.out]
          have HS4 : Hid (SetS w3 bn (k + 1) ((ms.take (k + 1)).map MsS.name)) := by show SetS _ _ _ _; rw [HTK.out]; exact HS3.out g1
          have HT4 : Hid (SetT w3 bY ny Ty) := SetK.kp (SetK.below HTy.out hba) hk3 (by omega)
          have BX4 := (BX.below hba).kp hk3 (by omega)
          clear g1 g2 HX HP2 HTK HS3 hba hk3 BX HS HTy hbel
          go_wp2_with fail
          go_roundw
          case rel => exact ⟨k + 1, by go_num, by omega, HP3, HS4, HT4, hb3, BX4⟩
          case measure => simp [intOf]; omega
        · have hx1 : (X == 0) = false := by simpa using hx0
          have HFin : Hid (X = CA) := by
            show _ = _
            rw [HCA.out, HP2.out, chkMs_err (m := ⟨m0, mf, mr⟩) HX.out hx0, orE_ne hx0, orE_ne hx0]
          go_wp2_with fail
          go_ret
          exact ⟨ret_int HFin.out, hb3⟩
      · obtain rfl : k = M := by omega
        have hP0 : P1 = 0 := by rw [HP.out, drop_end (by rw [HNM.out]; omega)]; rfl
        obtain ⟨P2, hP2⟩ : ∃ A, chkEs mn es = A := ⟨_, rfl⟩
        have HP2 : Hid (P2 = chkEs (mn ++ (es.take 0).map EnS.name) (es.drop 0)) := by show _ = _; rw [List.take_zero, List.map_nil, List.append_nil, List.drop_zero]; exact hP2.symm
        have HCA : Hid (CA = orE P2 (chkTs mn [] ts)) := by show _ = _; rw [HCA.out, hP0, hP2, orE_zero]
        have HS0 : Hid (SetS wr bn (k + 0) (mn ++ (es.take 0).map EnS.name)) := by
          show SetS _ _ _ _
          have := HS.out
          rw [List.take_of_length_le (by rw [HNM.out]; omega), ← HMN.out] at this
          rw [List.take_zero, List.map_nil, List.append_nil]; exact this
        have b2 : wr.cell? ⟨w.heap.size, 2, none⟩ = some (.slice ae E ce) := BX.cell 2
        clear HP hP0 hP2 HS HP1
        go_wp2_with fail
        clear b2
        go_loopw [38] (fun iv wr => ∃ (i : Nat), iv = .int .i64 (i : Int) ∧ i ≤ E ∧ Hid (P2 = chkEs (mn ++ (es.take i).map EnS.name) (es.drop i)) ∧ Hid (SetS wr bn (k + i) (mn ++ (es.take i).map EnS.name)) ∧ Hid (SetT wr bY ny Ty) ∧ Below w.heap.size w wr ∧ Blk wr w.heap.size #[.string nm, .slice am k cm, .slice ae E ce, .slice at' T ct] 26) (fun iv _ => E - (intOf iv).toNat)
        case atStart => exact ⟨0, rfl, by omega, HP2, HS0, HTy, hbel, BX⟩
        case round =>
          obtain ⟨i, rfl, hi, HP, HS, HTy, hbel, BX⟩ := hrel
          clear HS0 HP2
          have hbw : bn < wr.heap.size := SetK.lt HS.out
          by_cases hlt : i < E
          · obtain ⟨m, hm⟩ : ∃ n, es[i]? = some n := ⟨_, List.getElem?_eq_getElem (by rw [HNE.out]; exact hlt)⟩
            obtain ⟨g, off, vf, rfl, c0, c1, hf⟩ := (HE.out.below hbel).get hm
            have HFf : Hid (RowG wr vf 2 (nmRows m.values)) := hf
            obtain ⟨a3, c3, rfl, _, _⟩ := hf.form2
            have hmem := List.mem_of_getElem? hm
            have HWm : Hid (EnW m) := HW.out.enums m hmem
            have HFm : Hid (m.values.length ≤ 24) := HF.out.vals m hmem
            have HP2 : Hid (P2 = chkEs (mn ++ (es.take i).map EnS.name) (m :: es.drop (i + 1))) := by show _ = _; rw [HP.out, drop_at hm]
            have HTK : Hid (mn ++ (es.take (i + 1)).map EnS.name = (mn ++ (es.take i).map EnS.name) ++ [m.name]) := by show _ = _; rw [take_at hm, List.map_append, List.append_assoc]; rfl
            obtain ⟨m0, mf⟩ := m
            simp only at c0 c1 HTK HP2 HFm
            have HFf : Hid (RowG wr (.slice a3 (nmRows mf).length c3) 2 (nmRows mf)) := HFf
            generalize (nmRows mf).length = nF at *
            generalize mn ++ (es.take i).map EnS.name = AL at *
            clear hf hm HP hmem
            go_wp2_with fail
            clear c0 c1
            have hba : Below wr.heap.size wr (wr.alloc (.cells #[.string m0, .slice a3 nF c3] 47)) := (Below.refl _ _).alloc (Nat.le_refl _) _
            refine (cenum_any (HFf.out.below hba) HFm.out (SetK.below HS.out hba) (by omega) HWm.out).mono ?_
            rintro e w3 ⟨rfl, hs3, hk3⟩
            have HS3 : Hid _ := hs3
            clear hs3
            obtain ⟨X, hX⟩ : ∃ X, (if freshB m0 AL = false then 6 else chkEb ⟨m0, mf⟩) = X := ⟨_, rfl⟩
            rw [hX]
            have HX : Hid (X = if freshB m0 AL = false then 6 else chkEb ⟨m0, mf⟩) := hX.symm
            clear hX
            have hb3 : Below w.heap.size w w3 := (hbel.alloc (by omega) _).trans (hk3.toBelow (by simp; omega) (fun k e => by omega))
            by_cases hx0 : X = 0
            · subst hx0
              obtain ⟨g1, g2⟩ := chkEs_on (m := ⟨m0, mf⟩) (l := es.drop (i + 1)) HX.out
              have HP3 : Hid (P2 = chkEs (mn ++ (es.take (i + 1)).map EnS.name) (es.drop (i + 1))) := by show _ = _; rw [HP2.out, g2, HTK.out]
              have HS4 : Hid (SetS w3 bn (k + (i + 1)) (mn ++ (es.take (i + 1)).map EnS.name)) := by show SetS _ _ _ _; rw [HTK.out]; exact HS3.out g1
              have HT4 : Hid (SetT w3 bY ny Ty) := SetK.kp (SetK.below HTy.out hba) hk3 (by omega)
              have BX4 := (BX.below hba).kp hk3 (by omega)
              clear g1 g2 HX HP2 HTK HS3 hba hk3 BX HS HTy hbel HFf
              go_wp2_with fail
              go_roundw
              case rel => exact ⟨i + 1, by go_num, by omega, HP3, HS4, HT4, hb3, BX4⟩
              case measure => simp [intOf]; omega
            · have hx1 : (X == 0) = false := by simpa using hx0
              have HFin : Hid (X = CA) := by
                show _ = _
                rw [HCA.out, HP2.out, chkEs_err (m := ⟨m0, mf⟩) HX.out hx0, orE_ne hx0]
              go_wp2_with fail
              go_ret
              exact ⟨ret_int HFin.out, hb3⟩
          · have hP0 : P2 = 0 := by rw [HP.out, drop_end (by rw [HNE.out]; omega)]; rfl
            have HFin : Hid (chkTs mn [] ts = CA) := by show _ = _; rw [HCA.out, hP0, orE_zero]
            have b3 : wr.cell? ⟨w.heap.size, 3, none⟩ = some (.slice at' T ct) := BX.cell 3
            clear hP0 HP HS
            go_wp2_with fail
            clear b3
            refine (cmethods_any (HT.out.below hbel) HL3.out HTy.out HTT.out HW.out.meths).mono ?_
            rintro e w3 ⟨rfl, hb3⟩
            rw [HFin.out]
            go_wp2_with fail
            go_ret
            exact ⟨rfl, hbel.trans (hb3.mono hbel.size)⟩
  · have hw1 : (WA == 0) = false := by simpa using hw0
    have HFin : Hid (WA = CA) := by show _ = _; rw [HCA.out, orE_ne hw0]
    go_enter Tryz.func20, Tryz.ntmps20
    go_wp2_with fail
    refine (HWA.out _).mono ?_
    rintro e w1 ⟨rfl, hb1⟩
    have hb01 : Below w.heap.size w w1 := hba.trans (hb1.mono hba.size)
    go_wp2_with fail
    go_ret
    exact ⟨ret_int HFin.out, hb01⟩
end Go.Proofs.YtkfhlgajeejgeaaGreatDoor

/- What the statements' own Few answers: no, or yes of a schema that is not too much. -/
namespace Go.Proofs.YtkfhlgajeejgeaaGreatDoor
open Go.ChangeShapes Go.WideShapes Go.ChangeAt Go.RowKit
set_option linter.unusedVariables false
set_option linter.unusedSimpArgs false
set_option maxRecDepth 20000

def flFew (f : FlS) : Prop := f.name.size ≤ 200 ∧ f.tname.size ≤ 200
def msFew (n : Nat) (m : MsS) : Prop := m.name.size ≤ n ∧ m.fields.length ≤ 20 ∧ m.reserved.length ≤ 40 ∧ ∀ f ∈ m.fields, flFew f
def nmFew (f : NmS) : Prop := f.name.size ≤ 200
def enFew (m : EnS) : Prop := m.name.size ≤ 200 ∧ m.values.length ≤ 24 ∧ ∀ f ∈ m.values, nmFew f
def mtFew (m : MtS) : Prop := m.name.size ≤ 200 ∧ m.inn.size ≤ 200 ∧ m.out.size ≤ 200
structure FewS (s : ScS) : Prop where
  name : s.name.size ≤ 3000
  msgs : s.msgs.length ≤ 14
  enums : s.enums.length ≤ 10
  meths : s.methods.length ≤ 10
  eachM : ∀ m ∈ s.msgs, msFew 3000 m
  eachE : ∀ m ∈ s.enums, enFew m
  eachT : ∀ m ∈ s.methods, mtFew m
theorem FewS.few {s : ScS} (h : FewS s) : FewL s := ⟨h.msgs, h.enums, h.meths, fun m hm => ⟨(h.eachM m hm).2.1, (h.eachM m hm).2.2.1⟩, fun e he => (h.eachE e he).2.1⟩
theorem msFew.up {n n' : Nat} {m : MsS} (h : msFew n m) (hn : n ≤ n') : msFew n' m := ⟨Nat.le_trans h.1 hn, h.2⟩
theorem all_snoc {α : Type} {P : α → Prop} {l : List α} {k : Nat} {x : α} (h : ∀ y ∈ l.take k, P y) (hx : l[k]? = some x) (hp : P x) : ∀ y ∈ l.take (k + 1), P y := by
  intro y hy
  rw [List.take_add_one, hx] at hy
  rcases List.mem_append.1 hy with hy | hy
  · exact h y hy
  · simp at hy; subst hy; exact hp
/-- What Few answers: no, or yes of what is not too much. -/
def FewP (s : ScS) (e : Ending) : Prop := e = .returned (.bool false) ∨ (e = .returned (.bool true) ∧ FewS s)
theorem FewP.no (s : ScS) : FewP s (.returned (.bool false)) := .inl rfl
theorem FewP.yes {s : ScS} (h : FewS s) : FewP s (.returned (.bool true)) := .inr ⟨rfl, h⟩
theorem dec_no {p : Prop} [Decidable p] (h : ¬ p) : decide p = false := decide_eq_false h
set_option maxHeartbeats 8000000 in
theorem few_any {w : World} {v : Value} {s : ScS} (hr : ScIn w v s) (hw : ScW s) :
    Calls Tryz.prog 9 #[v] w fun e w' => FewP s e ∧ Below w.heap.size w w' := by
  obtain ⟨vm0, ve0, vt0, rfl, hm, he, ht⟩ := hr
  obtain ⟨am, cm, rfl, qm1, qm2⟩ := hm.form2
  obtain ⟨ae, ce, rfl, qe1, qe2⟩ := he.form2
  obtain ⟨at', ct, rfl, qt1, qt2⟩ := ht.form2
  have hT : (mtRows s.methods).length = s.methods.length := by simp [mtRows]
  rw [hT] at ht qt1 ⊢
  clear hT
  have HM : Hid (MsIn w (.slice am s.msgs.length cm) s.msgs) := hm
  have HE : Hid (EnIn w (.slice ae s.enums.length ce) s.enums) := he
  have HT : Hid (RowG w (.slice at' s.methods.length ct) 3 (mtRows s.methods)) := ht
  have HW : Hid (ScW s) := hw
  have hnm := hw.name
  obtain ⟨nm, ms, es, ts⟩ := s
  simp only at *
  have HM : Hid (MsIn w (.slice am ms.length cm) ms) := HM
  have HE : Hid (EnIn w (.slice ae es.length ce) es) := HE
  have HT : Hid (RowG w (.slice at' ts.length ct) 3 (mtRows ts)) := HT
  obtain ⟨M, hM⟩ : ∃ N, ms.length = N := ⟨_, rfl⟩
  obtain ⟨E, hE⟩ : ∃ N, es.length = N := ⟨_, rfl⟩
  obtain ⟨T, hT⟩ : ∃ N, ts.length = N := ⟨_, rfl⟩
  rw [hM] at HM qm1 ⊢
  rw [hE] at HE qe1 ⊢
  rw [hT] at HT qt1 ⊢
  have HNM : Hid (ms.length = M) := hM
  have HNE : Hid (es.length = E) := hE
  have HNT : Hid (ts.length = T) := hT
  clear hM hE hT hm he ht hw
  obtain ⟨ML, hml1, hml2, HML⟩ : ∃ L, L ≤ M ∧ L ≤ 20 ∧ Hid (L = M ∨ (L = 20 ∧ 20 < M)) := ⟨min M 20, by omega, by omega, by show _ ∨ _; omega⟩
  obtain ⟨EL, hel1, hel2, HEL⟩ : ∃ L, L ≤ E ∧ L ≤ 20 ∧ Hid (L = E ∨ (L = 20 ∧ 20 < E)) := ⟨min E 20, by omega, by omega, by show _ ∨ _; omega⟩
  obtain ⟨TL, htl1, htl2, HTL⟩ : ∃ L, L ≤ T ∧ L ≤ 20 ∧ Hid (L = T ∨ (L = 20 ∧ 20 < T)) := ⟨min T 20, by omega, by omega, by show _ ∨ _; omega⟩
  have hbel0 : Below w.heap.size w (w.alloc (.cells #[.string nm, .slice am M cm, .slice ae E ce, .slice at' T ct] 26)) := (Below.refl _ _).alloc (Nat.le_refl _) _
  have BX0 := Blk.new w #[.string nm, .slice am M cm, .slice ae E ce, .slice at' T ct] 26
  have HP0 : Hid (nm.size ≤ nm.size ∧ ∀ m ∈ ms.take 0, msFew nm.size m) := ⟨Nat.le_refl _, fun m hm => by simp at hm⟩
  go_enter Tryz.func9, Tryz.ntmps9
  go_wp2_with fail
  go_loopw [3, 4] (fun nv iv wr => ∃ (n i : Nat), nv = .int .i64 (n : Int) ∧ iv = .int .i64 (i : Int) ∧ i ≤ ML ∧ n ≤ 140737488351232 * (i + 1) ∧ Hid (nm.size ≤ n ∧ ∀ m ∈ ms.take i, msFew n m) ∧ Below w.heap.size w wr ∧ Blk wr w.heap.size #[.string nm, .slice am M cm, .slice ae E ce, .slice at' T ct] 26) (fun _ iv _ => ML - (intOf iv).toNat)
  case atStart => exact ⟨nm.size, 0, rfl, rfl, by omega, by omega, HP0, hbel0, BX0⟩
  case round =>
    obtain ⟨n, i, rfl, rfl, hi, hn, HP, hbel, BX⟩ := hrel
    clear HP0 hbel0 BX0
    have x1 : wr.cell? ⟨w.heap.size, 1, none⟩ = some (.slice am M cm) := BX.cell 1
    go_upto_region 3 with fail
    go_cut [21] from 13 to 81 (fun bv wx => bv = .bool (decide (i < ML)) ∧ wx = wr)
    case first =>
      by_cases h1 : i < ML
      · have h2 : i < M := by omega
        have h3 : decide ((i : Int) < 20) = true := decide_eq_true (by omega)
        have HD : Hid (decide (i < ML) = true) := decide_eq_true h1
        go_wp2_with fail
        go_meet
        exact ⟨by rw [HD.out], rfl⟩
      · have HD : Hid (decide (i < ML) = false) := decide_eq_false h1
        by_cases h2 : i < M
        · have h3 : decide ((i : Int) < 20) = false := decide_eq_false (by have := HML.out; omega)
          go_wp2_with fail
          go_meet
          exact ⟨by rw [HD.out], rfl⟩
        · go_wp2_with fail
          go_meet
          exact ⟨by rw [HD.out], rfl⟩
    case rest =>
    obtain ⟨hcb, hcw⟩ := hcut
    subst hcb
    subst hcw
    by_cases hlt : i < ML
    · have hdt : decide (i < ML) = true := decide_eq_true hlt
      rw [hdt]
      obtain ⟨m, hm⟩ : ∃ x, ms[i]? = some x := ⟨_, List.getElem?_eq_getElem (by rw [HNM.out]; omega)⟩
      obtain ⟨g, off, vf, vr, rfl, c0', c1', c2', hrf, hrr⟩ := HM.out.get hm
      have c0 := (hbel.cell (World.block_lt_of_cell? _ _ c0')).trans c0'
      have c1 := (hbel.cell (World.block_lt_of_cell? _ _ c1')).trans c1'
      have c2 := (hbel.cell (World.block_lt_of_cell? _ _ c2')).trans c2'
      have C1 : Hid (w.cell? ⟨g, off + i * 3 + 1, none⟩ = some vf) := c1'
      clear c0' c1' c2'
      have HFf : Hid (RowG w vf 5 (flRows m.fields)) := hrf
      obtain ⟨a3, c3, rfl, qf1, qf2⟩ := hrf.form2
      obtain ⟨a4, c4, rfl, qr1, qr2⟩ := hrr.form2
      have hms := (HW.out.msgs m (List.mem_of_getElem? hm)).1
      have e1 : (flRows m.fields).length = m.fields.length := by simp [flRows]
      have e2 : (inRows m.reserved).length = m.reserved.length := by simp [inRows]
      rw [e1] at qf1 C1 c1
      rw [e2] at qr1 c2
      have HFf : Hid (RowG w (.slice a3 m.fields.length c3) 5 (flRows m.fields)) := by have := HFf.out; rw [e1] at this; exact this
      have HIX : Hid (ms[i]? = some m) := hm
      obtain ⟨m0, mf, mr⟩ := m
      simp only at c0 c1 c2 hms C1 HFf qf1 qr1
      obtain ⟨nF, hnF⟩ : ∃ N, mf.length = N := ⟨_, rfl⟩
      obtain ⟨nR, hnR⟩ : ∃ N, mr.length = N := ⟨_, rfl⟩
      rw [hnF] at c1 C1 HFf qf1
      rw [hnR] at c2 qr1
      have HNF : Hid (mf.length = nF) := hnF
      have HNR : Hid (mr.length = nR) := hnR
      clear hrf hrr hm hnF hnR e1 e2
      have hov : n + m0.size ≤ 140737488351232 * (i + 1 + 1) := by omega
      have hov2 : n + m0.size ≤ 9223372036854775807 := by omega
      by_cases hbF : 20 < nF
      · go_wp2_with fail
        go_ret
        exact ⟨FewP.no _, hbel⟩
      · have hdF : decide (20 < nF) = false := decide_eq_false hbF
        by_cases hbR : 40 < nR
        · go_wp2_with fail
          go_ret
          exact ⟨FewP.no _, hbel⟩
        · have hdR : decide (40 < nR) = false := decide_eq_false hbR
          have HQ0 : Hid (∀ f ∈ mf.take 0, flFew f) := fun f hf => by simp at hf
          go_wp2_with fail
          clear c0 c1 c2 x1
          go_loopw [5] (fun jv wr => ∃ j : Nat, jv = .int .i64 (j : Int) ∧ j ≤ nF ∧ Hid (∀ f ∈ mf.take j, flFew f) ∧ Below w.heap.size w wr ∧ Blk wr w.heap.size #[.string nm, .slice (some ⟨g, off, none⟩) M cm, .slice ae E ce, .slice at' T ct] 26) (fun jv _ => nF - (intOf jv).toNat)
          case atStart => exact ⟨0, rfl, by omega, HQ0, hbel, BX⟩
          case round =>
            obtain ⟨j, rfl, hj, HQ, hbel, BX⟩ := hrel
            clear HQ0
            have x1 : wr.cell? ⟨w.heap.size, 1, none⟩ = some (.slice (some ⟨g, off, none⟩) M cm) := BX.cell 1
            have c1 := (hbel.cell (World.block_lt_of_cell? _ _ C1.out)).trans C1.out
            have hiM : i < M := by omega
            by_cases hjl : j < nF
            · obtain ⟨f, hf⟩ : ∃ x, mf[j]? = some x := ⟨_, List.getElem?_eq_getElem (by rw [HNF.out]; exact hjl)⟩
              have hrr : (flRows mf)[j]? = some f.cells := by simp [flRows, hf]
              obtain ⟨g2, off2, rfl, cc⟩ := (HFf.out.below hbel).get hrr
              have HIF : Hid (mf[j]? = some f) := hf
              obtain ⟨f0, f1, f2, f3, f4⟩ := f
              have p0 := cc 0 _ rfl
              have p1 := cc 1 _ rfl
              have p2 := cc 2 _ rfl
              have p3 := cc 3 _ rfl
              have p4 := cc 4 _ rfl
              simp only [Nat.add_zero] at p0 p1 p2 p3 p4
              clear cc hrr hf
              have hb2 : Below w.heap.size w (wr.alloc (.cells #[.string f0, .int .i64 f1, .int .i64 f2, .int .i64 f3, .string f4] 44)) := hbel.alloc hbel.size _
              have BX2 : Blk (wr.alloc (.cells #[.string f0, .int .i64 f1, .int .i64 f2, .int .i64 f3, .string f4] 44)) w.heap.size #[.string nm, .slice (some ⟨g, off, none⟩) M cm, .slice ae E ce, .slice at' T ct] 26 := BX.below ((Below.refl _ _).alloc (Nat.le_refl _) _)
              by_cases hbN : 200 < f0.size
              · go_wp2_with fail
                go_ret
                exact ⟨FewP.no _, hb2⟩
              · have hdN : decide (200 < f0.size) = false := decide_eq_false hbN
                by_cases hbT : 200 < f4.size
                · go_wp2_with fail
                  go_ret
                  exact ⟨FewP.no _, hb2⟩
                · have hdT : decide (200 < f4.size) = false := decide_eq_false hbT
                  have HQ2 : Hid (∀ f ∈ mf.take (j + 1), flFew f) := all_snoc HQ.out HIF.out ⟨by show f0.size ≤ 200; omega, by show f4.size ≤ 200; omega⟩
                  go_wp2_with fail
                  clear p0 p1 p2 p3 p4 x1 c1 BX hbel
                  go_roundw
                  case rel => exact ⟨j + 1, by go_num, by omega, HQ2, hb2, BX2⟩
                  case measure => simp [intOf]; omega
            · have HP2 : Hid (nm.size ≤ n + m0.size ∧ ∀ m ∈ ms.take (i + 1), msFew (n + m0.size) m) := by
                refine ⟨by have := HP.out.1; omega, all_snoc (fun y hy => (HP.out.2 y hy).up (by omega)) HIX.out ⟨by show m0.size ≤ _; omega, by show mf.length ≤ 20; rw [HNF.out]; omega, by show mr.length ≤ 40; rw [HNR.out]; omega, ?_⟩⟩
                have := HQ.out
                rw [List.take_of_length_le (by rw [HNF.out]; omega)] at this
                exact this
              go_wp2_with fail
              go_roundw
              case rel => exact ⟨n + m0.size, i + 1, by go_num, by go_num, by omega, hov, HP2, hbel, BX⟩
              case measure => simp [intOf]; omega
    · have hdt : decide (i < ML) = false := decide_eq_false hlt
      rw [hdt]
      obtain rfl : i = ML := by omega
      have HE0 : Hid (∀ m ∈ es.take 0, enFew m) := fun m hm => by simp at hm
      clear x1
      go_wp2_with fail
      go_loopw [7] (fun iv wr => ∃ e : Nat, iv = .int .i64 (e : Int) ∧ e ≤ EL ∧ Hid (∀ m ∈ es.take e, enFew m) ∧ Below w.heap.size w wr ∧ Blk wr w.heap.size #[.string nm, .slice am M cm, .slice ae E ce, .slice at' T ct] 26) (fun iv _ => EL - (intOf iv).toNat)
      case atStart => exact ⟨0, rfl, by omega, HE0, hbel, BX⟩
      case round =>
        obtain ⟨e, rfl, he, HQE, hbel, BX⟩ := hrel
        clear HE0
        have x2 : wr.cell? ⟨w.heap.size, 2, none⟩ = some (.slice ae E ce) := BX.cell 2
        go_upto_region 15 with fail
        go_cut [90] from 82 to 133 (fun bv wx => bv = .bool (decide (e < EL)) ∧ wx = wr)
        case first =>
          by_cases h1 : e < EL
          · have h2 : e < E := by omega
            have h3 : decide ((e : Int) < 20) = true := decide_eq_true (by omega)
            have HD : Hid (decide (e < EL) = true) := decide_eq_true h1
            go_wp2_with fail
            go_meet
            exact ⟨by rw [HD.out], rfl⟩
          · have HD : Hid (decide (e < EL) = false) := decide_eq_false h1
            by_cases h2 : e < E
            · have h3 : decide ((e : Int) < 20) = false := decide_eq_false (by have := HEL.out; omega)
              go_wp2_with fail
              go_meet
              exact ⟨by rw [HD.out], rfl⟩
            · go_wp2_with fail
              go_meet
              exact ⟨by rw [HD.out], rfl⟩
        case rest =>
        obtain ⟨hcb, hcw⟩ := hcut
        subst hcb
        subst hcw
        by_cases hlt : e < EL
        · have hdt : decide (e < EL) = true := decide_eq_true hlt
          rw [hdt]
          obtain ⟨m, hm⟩ : ∃ x, es[e]? = some x := ⟨_, List.getElem?_eq_getElem (by rw [HNE.out]; omega)⟩
          obtain ⟨g, off, vf, rfl, c0', c1', hrf⟩ := HE.out.get hm
          have c0 := (hbel.cell (World.block_lt_of_cell? _ _ c0')).trans c0'
          have c1 := (hbel.cell (World.block_lt_of_cell? _ _ c1')).trans c1'
          have C1 : Hid (w.cell? ⟨g, off + e * 2 + 1, none⟩ = some vf) := c1'
          clear c0' c1'
          have HFf : Hid (RowG w vf 2 (nmRows m.values)) := hrf
          obtain ⟨a3, c3, rfl, qf1, qf2⟩ := hrf.form2
          have e1 : (nmRows m.values).length = m.values.length := by simp [nmRows]
          rw [e1] at qf1 C1 c1
          have HFf : Hid (RowG w (.slice a3 m.values.length c3) 2 (nmRows m.values)) := by have := HFf.out; rw [e1] at this; exact this
          have HIX : Hid (es[e]? = some m) := hm
          obtain ⟨m0, mf⟩ := m
          simp only at c0 c1 C1 HFf qf1
          obtain ⟨nF, hnF⟩ : ∃ N, mf.length = N := ⟨_, rfl⟩
          rw [hnF] at c1 C1 HFf qf1
          have HNF : Hid (mf.length = nF) := hnF
          clear hrf hm hnF e1
          by_cases hbF : 200 < m0.size
          · go_wp2_with fail
            go_ret
            exact ⟨FewP.no _, hbel⟩
          · have hdF : decide (200 < m0.size) = false := decide_eq_false hbF
            by_cases hbR : 24 < nF
            · go_wp2_with fail
              go_ret
              exact ⟨FewP.no _, hbel⟩
            · have hdR : decide (24 < nF) = false := decide_eq_false hbR
              have HQ0 : Hid (∀ f ∈ mf.take 0, nmFew f) := fun f hf => by simp at hf
              go_wp2_with fail
              clear c0 c1 x2
              go_loopw [8] (fun jv wr => ∃ j : Nat, jv = .int .i64 (j : Int) ∧ j ≤ nF ∧ Hid (∀ f ∈ mf.take j, nmFew f) ∧ Below w.heap.size w wr ∧ Blk wr w.heap.size #[.string nm, .slice am M cm, .slice (some ⟨g, off, none⟩) E ce, .slice at' T ct] 26) (fun jv _ => nF - (intOf jv).toNat)
              case atStart => exact ⟨0, rfl, by omega, HQ0, hbel, BX⟩
              case round =>
                obtain ⟨j, rfl, hj, HQ, hbel, BX⟩ := hrel
                clear HQ0
                have x2 : wr.cell? ⟨w.heap.size, 2, none⟩ = some (.slice (some ⟨g, off, none⟩) E ce) := BX.cell 2
                have c1 := (hbel.cell (World.block_lt_of_cell? _ _ C1.out)).trans C1.out
                have hiM : e < E := by omega
                by_cases hjl : j < nF
                · obtain ⟨f, hf⟩ : ∃ x, mf[j]? = some x := ⟨_, List.getElem?_eq_getElem (by rw [HNF.out]; exact hjl)⟩
                  have hrr : (nmRows mf)[j]? = some f.cells := by simp [nmRows, hf]
                  obtain ⟨g2, off2, rfl, cc⟩ := (HFf.out.below hbel).get hrr
                  have HIF : Hid (mf[j]? = some f) := hf
                  obtain ⟨f0, f1⟩ := f
                  have p0 := cc 0 _ rfl
                  simp only [Nat.add_zero] at p0
                  clear cc hrr hf
                  by_cases hbN : 200 < f0.size
                  · go_wp2_with fail
                    go_ret
                    exact ⟨FewP.no _, hbel⟩
                  · have hdN : decide (200 < f0.size) = false := decide_eq_false hbN
                    have HQ2 : Hid (∀ f ∈ mf.take (j + 1), nmFew f) := all_snoc HQ.out HIF.out (by show f0.size ≤ 200; omega)
                    go_wp2_with fail
                    go_roundw
                    case rel => exact ⟨j + 1, by go_num, by omega, HQ2, hbel, BX⟩
                    case measure => simp [intOf]; omega
                · have HP2 : Hid (∀ m ∈ es.take (e + 1), enFew m) := by
                    refine all_snoc HQE.out HIX.out ⟨by show m0.size ≤ 200; omega, by show mf.length ≤ 24; rw [HNF.out]; omega, ?_⟩
                    have := HQ.out
                    rw [List.take_of_length_le (by rw [HNF.out]; omega)] at this
                    exact this
                  go_wp2_with fail
                  go_roundw
                  case rel => first | exact ⟨e + 1, by go_num, by omega, HP2, hbel, BX⟩ | ((repeat apply Exists.intro); refine ⟨?_, rfl⟩; exact ⟨e + 1, by go_num, by omega, HP2, hbel, BX⟩)
                  case measure => simp [intOf]; omega
        · have hdt : decide (e < EL) = false := decide_eq_false hlt
          rw [hdt]
          obtain rfl : e = EL := by omega
          have HT0 : Hid (∀ m ∈ ts.take 0, mtFew m) := fun m hm => by simp at hm
          clear x2
          go_wp2_with fail
          go_loopw [9] (fun iv wr => ∃ t : Nat, iv = .int .i64 (t : Int) ∧ t ≤ TL ∧ Hid (∀ m ∈ ts.take t, mtFew m) ∧ Below w.heap.size w wr ∧ Blk wr w.heap.size #[.string nm, .slice am M cm, .slice ae E ce, .slice at' T ct] 26) (fun iv _ => TL - (intOf iv).toNat)
          case atStart => exact ⟨0, rfl, by omega, HT0, hbel, BX⟩
          case round =>
            obtain ⟨t, rfl, ht, HQT, hbel, BX⟩ := hrel
            clear HT0
            have x3 : wr.cell? ⟨w.heap.size, 3, none⟩ = some (.slice at' T ct) := BX.cell 3
            go_upto_region 25 with fail
            go_cut [142] from 134 to 172 (fun bv wx => bv = .bool (decide (t < TL)) ∧ wx = wr)
            case first =>
              by_cases h1 : t < TL
              · have h2 : t < T := by omega
                have h3 : decide ((t : Int) < 20) = true := decide_eq_true (by omega)
                have HD : Hid (decide (t < TL) = true) := decide_eq_true h1
                go_wp2_with fail
                go_meet
                exact ⟨by rw [HD.out], rfl⟩
              · have HD : Hid (decide (t < TL) = false) := decide_eq_false h1
                by_cases h2 : t < T
                · have h3 : decide ((t : Int) < 20) = false := decide_eq_false (by have := HTL.out; omega)
                  go_wp2_with fail
                  go_meet
                  exact ⟨by rw [HD.out], rfl⟩
                · go_wp2_with fail
                  go_meet
                  exact ⟨by rw [HD.out], rfl⟩
            case rest =>
            obtain ⟨hcb, hcw⟩ := hcut
            subst hcb
            subst hcw
            by_cases hlt : t < TL
            · have hdt : decide (t < TL) = true := decide_eq_true hlt
              rw [hdt]
              obtain ⟨f, hf⟩ : ∃ x, ts[t]? = some x := ⟨_, List.getElem?_eq_getElem (by rw [HNT.out]; omega)⟩
              have hrr : (mtRows ts)[t]? = some f.cells := by simp [mtRows, hf]
              obtain ⟨g2, off2, rfl, cc⟩ := (HT.out.below hbel).get hrr
              have HIF : Hid (ts[t]? = some f) := hf
              obtain ⟨f0, f1, f2⟩ := f
              have p0 := cc 0 _ rfl
              have p1 := cc 1 _ rfl
              have p2 := cc 2 _ rfl
              simp only [Nat.add_zero] at p0 p1 p2
              clear cc hrr hf
              have hiM : t < T := by omega
              by_cases hb0 : 200 < f0.size
              · go_wp2_with fail
                go_ret
                exact ⟨FewP.no _, hbel⟩
              · have hd0 : decide (200 < f0.size) = false := decide_eq_false hb0
                by_cases hb1 : 200 < f1.size
                · go_wp2_with fail
                  go_ret
                  exact ⟨FewP.no _, hbel⟩
                · have hd1 : decide (200 < f1.size) = false := decide_eq_false hb1
                  by_cases hb2 : 200 < f2.size
                  · go_wp2_with fail
                    go_ret
                    exact ⟨FewP.no _, hbel⟩
                  · have hd2 : decide (200 < f2.size) = false := decide_eq_false hb2
                    have HQ2 : Hid (∀ m ∈ ts.take (t + 1), mtFew m) := all_snoc HQT.out HIF.out ⟨by show f0.size ≤ 200; omega, by show f1.size ≤ 200; omega, by show f2.size ≤ 200; omega⟩
                    go_wp2_with fail
                    go_roundw
                    case rel => first | exact ⟨t + 1, by go_num, by omega, HQ2, hbel, BX⟩ | ((repeat apply Exists.intro); refine ⟨?_, rfl⟩; exact ⟨t + 1, by go_num, by omega, HQ2, hbel, BX⟩)
                    case measure => simp [intOf]; omega
            · have hdt : decide (t < TL) = false := decide_eq_false hlt
              rw [hdt]
              obtain rfl : t = TL := by omega
              have x1 := (BX.cell 1).trans rfl
              have x2 := (BX.cell 2).trans rfl
              by_cases g0 : n < 3000
              · by_cases g1 : M ≤ 14
                · by_cases g2 : E ≤ 10
                  · by_cases g3 : T ≤ 10
                    · have HFIN : Hid (FewS ⟨nm, ms, es, ts⟩) := by
                        have a1 := HML.out
                        have a2 := HEL.out
                        have a3 := HTL.out
                        have b1 := HP.out
                        have b2 := HQE.out
                        have b3 := HQT.out
                        rw [List.take_of_length_le (by rw [HNM.out]; omega)] at b1
                        rw [List.take_of_length_le (by rw [HNE.out]; omega)] at b2
                        rw [List.take_of_length_le (by rw [HNT.out]; omega)] at b3
                        refine ⟨?_, ?_, ?_, ?_, fun m hm => (b1.2 m hm).up (by omega), b2, b3⟩
                        · show nm.size ≤ 3000; omega
                        · show ms.length ≤ 14; rw [HNM.out]; exact g1
                        · show es.length ≤ 10; rw [HNE.out]; exact g2
                        · show ts.length ≤ 10; rw [HNT.out]; exact g3
                      have d3 : decide ((T : Int) ≤ 10) = true := decide_eq_true (by omega)
                      go_wp2_with fail
                      go_ret
                      exact ⟨FewP.yes HFIN.out, hbel⟩
                    · have d3 : decide ((T : Int) ≤ 10) = false := decide_eq_false (by omega)
                      go_wp2_with fail
                      go_ret
                      exact ⟨FewP.no _, hbel⟩
                  · have d2 : decide (E ≤ 10) = false := decide_eq_false g2
                    go_wp2_with fail
                    go_ret
                    exact ⟨FewP.no _, hbel⟩
                · have d1 : decide (M ≤ 14) = false := decide_eq_false g1
                  go_wp2_with fail
                  go_ret
                  exact ⟨FewP.no _, hbel⟩
              · have d0 : decide (n < 3000) = false := decide_eq_false g0
                go_wp2_with fail
                go_ret
                exact ⟨FewP.no _, hbel⟩
end Go.Proofs.YtkfhlgajeejgeaaGreatDoor

/- A row of any width that is appended whole to a row of one's own. -/
namespace Go.Proofs.YtkfhlgajeejgeaaGreatDoor
open Go.ChangeShapes Go.WideShapes Go.ChangeAt Go.RowKit
set_option linter.unusedVariables false
set_option linter.unusedSimpArgs false
set_option maxRecDepth 20000

theorem flat_inv {size : Nat} : ∀ (rs : List (List Value)), (∀ r ∈ rs, r.length = size) → ∀ (j : Nat) (u : Value), rs.flatten[j]? = some u → ∃ i c k, rs[i]? = some c ∧ c[k]? = some u ∧ j = i * size + k
  | [], _, j, u, h => by simp at h
  | x :: l, hl, j, u, h => by
    have hx := hl x (List.mem_cons_self ..)
    by_cases hj : j < x.length
    · rw [List.flatten_cons, List.getElem?_append_left hj] at h
      exact ⟨0, x, j, rfl, h, by simp⟩
    · rw [List.flatten_cons, List.getElem?_append_right (by omega)] at h
      obtain ⟨i, c, k, h1, h2, h3⟩ := flat_inv l (fun r hr => hl r (List.mem_cons_of_mem _ hr)) _ u h
      exact ⟨i + 1, c, k, by simpa using h1, h2, by rw [Nat.add_mul]; omega⟩
theorem run_joinG {w : World} (t ty e : TypeId) (size bytes : Nat) (z : Value) (ht : Tryz.prog.underlying t = some (.slice e)) (hinfo : (Tryz.prog.info? e).map (fun i => (i.zero, i.size, i.bytes)) = some (some z, size, bytes)) (hzs : z.cells.size = size) (hsz : 0 < size)
    (base : Nat) (v : Value) (n : Nat) (xs : List Value) (hown : w.ownsRow base e size v n xs)
    (xv : Value) (rs : List (List Value)) (hr : RowG w xv size rs) (hl : ∀ r ∈ rs, r.length = size) (h1 : ∀ u ∈ rs.flatten, u.oneCell' = true) (hb : n + rs.length ≤ 1000000) (hby : bytes ≤ 1000) (hbase : base ≤ w.heap.size) :
    ∃ v' w', (Builtin.append_ #[t, t] ty #[v, xv]).run Tryz.prog w = .ok v' w' ∧ w'.ownsRow base e size v' (n + rs.length) (xs ++ rs.flatten) ∧ w.grownBy w' v.ownBlock := by
  obtain ⟨i0, hi, hz0, hz1, hz2⟩ := info_parts hinfo
  obtain ⟨ao, cap, rfl, q1, q2, q0, q3⟩ := hr.form
  cases ao with
  | none =>
    have hrs : rs = [] := by
      cases rs with
      | nil => rfl
      | cons r l => obtain ⟨g, off, e, _⟩ := q3 (by simp); cases e
    subst hrs
    have := q0 rfl
    subst this
    have hrun := run_append_owned_none (P := Tryz.prog) (w := w) base t ty e i0 size ht hi v n xs hown
    refine ⟨v, w, hrun, ?_, ⟨rfl, rfl, rfl, Nat.le_refl _, fun _ _ _ => rfl⟩⟩
    rw [List.flatten_nil, List.append_nil]
    exact hown
  | some ad =>
    obtain ⟨v', w', g0, g1, g2, _⟩ := run_append_own w base t ty e i0 z size bytes ht hi hz0 hz1 hz2 hzs hsz v _ _ hown ad rs.length cap rs.flatten (by rw [flat_len rs hl]) (fun j u hu => by
      obtain ⟨i, c, k, e1, e2, rfl⟩ := flat_inv rs hl j u hu
      obtain ⟨g, off, e3, e4⟩ := q3 (by intro e; rw [e] at e1; simp at e1)
      cases e3
      have := e4 i c u k e1 e2
      rw [Nat.add_assoc] at this
      rw [Addr.add_lit]
      exact this) h1 (by unfold maxLen; omega) (Nat.le_trans (Nat.mul_le_mul hb hby) (by decide)) hbase
    exact ⟨v', w', g0, g1, g2⟩
theorem wpList_joinG {w : World} {ops : Array Oper} {rest : List Oper} {o : Oper} {a : Act} {Q : Exit → Act → World → Prop} (hgd : o.guard = none) (s x : Operand) (t e : TypeId) (size bytes : Nat) (z : Value)
    (ho : o.op = .call { callee := .builtin .append, args := #[s, x], argTypes := #[t, t] }) (ht : Tryz.prog.underlying t = some (.slice e)) (hinfo : (Tryz.prog.info? e).map (fun i => (i.zero, i.size, i.bytes)) = some (some z, size, bytes)) (hzs : z.cells.size = size) (hsz : 0 < size)
    (base : Nat) (v : Value) (n : Nat) (xs : List Value) (hs : a.eval s = v) (hown : w.ownsRow base e size v n xs)
    (xv : Value) (rs : List (List Value)) (hx : a.eval x = xv) (hr : RowG w xv size rs) (hl : ∀ r ∈ rs, r.length = size) (h1 : ∀ u ∈ rs.flatten, u.oneCell' = true) (hb : n + rs.length ≤ 1000000) (hby : bytes ≤ 1000) (hbase : base ≤ w.heap.size)
    (h : ∀ v' w', w'.ownsRow base e size v' (n + rs.length) (xs ++ rs.flatten) → w.grownBy w' v.ownBlock → wpList Tryz.prog ops Q rest (a.put o.dst v') w') : wpList Tryz.prog ops Q (o :: rest) a w := by
  obtain ⟨i0, hi, hz0, hz1, hz2⟩ := info_parts hinfo
  obtain ⟨ao, cap, rfl, q1, q2, q0, q3⟩ := hr.form
  cases ao with
  | none =>
    have hrs : rs = [] := by
      cases rs with
      | nil => rfl
      | cons r l => obtain ⟨g, off, e, _⟩ := q3 (by simp); cases e
    subst hrs
    have := q0 rfl
    subst this
    refine wpList_append_own_none hgd s x t ho base e i0 size ht hi v _ _ hs hown hx ?_
    refine h v w ?_ ⟨rfl, rfl, rfl, Nat.le_refl _, fun _ _ _ => rfl⟩
    rw [List.flatten_nil, List.append_nil]
    exact hown
  | some ad =>
    refine wpList_append_own w hgd s x t ho base e i0 z size bytes ht hi hz0 hz1 hz2 hzs hsz v _ _ hs hown ad rs.length cap rs.flatten hx (by rw [flat_len rs hl]) ?_ h1 (by unfold maxLen; omega) ?_ hbase ?_
    · intro j u hu
      obtain ⟨i, c, k, e1, e2, rfl⟩ := flat_inv rs hl j u hu
      obtain ⟨g, off, e3, e4⟩ := q3 (by intro e; rw [e] at e1; simp at e1)
      cases e3
      have := e4 i c u k e1 e2
      rw [Nat.add_assoc] at this
      rw [Addr.add_lit]
      exact this
    · exact Nat.le_trans (Nat.mul_le_mul hb hby) (by decide)
    · intro v' w' g1 g2 _
      exact h v' w' g1 g2
theorem infoFl : (Tryz.prog.info? 44).map (fun i => (i.zero, i.size, i.bytes)) = some (some (.agg #[.string ⟨#[]⟩, .int .i64 0, .int .i64 0, .int .i64 0, .string ⟨#[]⟩]), 5, 56) := by kernel_rfl
theorem infoIn : (Tryz.prog.info? 3).map (fun i => (i.zero, i.size, i.bytes)) = some (some (.int .i64 0), 1, 8) := by kernel_rfl
theorem infoNm : (Tryz.prog.info? 49).map (fun i => (i.zero, i.size, i.bytes)) = some (some (.agg #[.string ⟨#[]⟩, .int .i64 0]), 2, 24) := by kernel_rfl
theorem infoMs : (Tryz.prog.info? 40).map (fun i => (i.zero, i.size, i.bytes)) = some (some (.agg #[.string ⟨#[]⟩, .slice none 0 0, .slice none 0 0]), 3, 64) := by kernel_rfl
theorem infoEn : (Tryz.prog.info? 47).map (fun i => (i.zero, i.size, i.bytes)) = some (some (.agg #[.string ⟨#[]⟩, .slice none 0 0]), 2, 40) := by kernel_rfl
theorem infoMt : (Tryz.prog.info? 54).map (fun i => (i.zero, i.size, i.bytes)) = some (some (.agg #[.string ⟨#[]⟩, .string ⟨#[]⟩, .string ⟨#[]⟩]), 3, 48) := by kernel_rfl
theorem flr_len (fs : List FlS) : ∀ r ∈ flRows fs, r.length = 5 := fun r hr => by simp only [flRows, List.mem_map] at hr; obtain ⟨_, _, rfl⟩ := hr; rfl
theorem inr_len (fs : List Int) : ∀ r ∈ inRows fs, r.length = 1 := fun r hr => by simp only [inRows, List.mem_map] at hr; obtain ⟨_, _, rfl⟩ := hr; rfl
theorem nmr_len (fs : List NmS) : ∀ r ∈ nmRows fs, r.length = 2 := fun r hr => by simp only [nmRows, List.mem_map] at hr; obtain ⟨_, _, rfl⟩ := hr; rfl
theorem mtr_len (fs : List MtS) : ∀ r ∈ mtRows fs, r.length = 3 := fun r hr => by simp only [mtRows, List.mem_map] at hr; obtain ⟨_, _, rfl⟩ := hr; rfl
theorem flr_one (fs : List FlS) : ∀ u ∈ (flRows fs).flatten, u.oneCell' = true := by
  intro u hu
  simp only [List.mem_flatten, flRows, List.mem_map] at hu
  obtain ⟨l, ⟨f, _, rfl⟩, hu⟩ := hu
  simp only [FlS.cells, List.mem_cons, List.not_mem_nil, or_false] at hu
  rcases hu with rfl | rfl | rfl | rfl | rfl <;> rfl
theorem inr_one (fs : List Int) : ∀ u ∈ (inRows fs).flatten, u.oneCell' = true := by
  intro u hu
  simp only [List.mem_flatten, inRows, List.mem_map] at hu
  obtain ⟨l, ⟨f, _, rfl⟩, hu⟩ := hu
  simp only [List.mem_cons, List.not_mem_nil, or_false] at hu
  subst hu; rfl
theorem nmr_one (fs : List NmS) : ∀ u ∈ (nmRows fs).flatten, u.oneCell' = true := by
  intro u hu
  simp only [List.mem_flatten, nmRows, List.mem_map] at hu
  obtain ⟨l, ⟨f, _, rfl⟩, hu⟩ := hu
  simp only [NmS.cells, List.mem_cons, List.not_mem_nil, or_false] at hu
  rcases hu with rfl | rfl <;> rfl
theorem mtr_one (fs : List MtS) : ∀ u ∈ (mtRows fs).flatten, u.oneCell' = true := by
  intro u hu
  simp only [List.mem_flatten, mtRows, List.mem_map] at hu
  obtain ⟨l, ⟨f, _, rfl⟩, hu⟩ := hu
  simp only [MtS.cells, List.mem_cons, List.not_mem_nil, or_false] at hu
  rcases hu with rfl | rfl | rfl <;> rfl
theorem own_rowF {w : World} {B n : Nat} {v : Value} {fs : List FlS} (h : w.ownsRow B 44 5 v n (flRows fs).flatten) : RowG w v 5 (flRows fs) := (RowG.own (flr_len fs) (by decide) h).1
theorem own_rowI {w : World} {B n : Nat} {v : Value} {fs : List Int} (h : w.ownsRow B 3 1 v n (inRows fs).flatten) : RowG w v 1 (inRows fs) := (RowG.own (inr_len fs) (by decide) h).1
theorem own_rowN {w : World} {B n : Nat} {v : Value} {fs : List NmS} (h : w.ownsRow B 49 2 v n (nmRows fs).flatten) : RowG w v 2 (nmRows fs) := (RowG.own (nmr_len fs) (by decide) h).1
theorem own_rowT {w : World} {B n : Nat} {v : Value} {fs : List MtS} (h : w.ownsRow B 54 3 v n (mtRows fs).flatten) : RowG w v 3 (mtRows fs) := (RowG.own (mtr_len fs) (by decide) h).1
end Go.Proofs.YtkfhlgajeejgeaaGreatDoor

/- What the statements' own Ints answers: a row in new memory. -/
namespace Go.Proofs.YtkfhlgajeejgeaaGreatDoor
open Go.ChangeShapes Go.WideShapes Go.ChangeAt Go.RowKit
set_option linter.unusedVariables false
set_option linter.unusedSimpArgs false
set_option maxRecDepth 20000

set_option maxHeartbeats 1000000 in
theorem ints_any {w : World} {v : Value} {fs : List Int} (hr : RowG w v 1 (inRows fs)) (hl : fs.length ≤ 100) :
    Calls Tryz.prog 22 #[v] w fun e w' => ∃ r, e = .returned r ∧ w'.ownsRow w.heap.size 3 1 r fs.length (inRows fs).flatten ∧ Below w.heap.size w w' := by
  have hN : (inRows fs).length = fs.length := by simp [inRows]
  have HN : Hid ((inRows fs).length = fs.length) := hN
  have HR : Hid (RowG w v 1 (inRows fs)) := hr
  have HL : Hid (fs.length ≤ 100) := hl
  clear hr hN hl
  go_enter Tryz.func22, Tryz.ntmps22
  go_wp2_with (first
    | (at_builtin; refine wpList_joinG rfl _ _ 38 3 1 8 _ rfl Tryz.underlying38 infoIn rfl (by decide) w.heap.size (.slice none 0 0) 0 [] rfl (World.ownsRow_nil _ _ _ _) v (inRows fs) rfl HR.out (inr_len fs) (inr_one fs) ?c1 (by decide) (Nat.le_refl _) ?_)
    | fail)
  case c1 => have h1 := HN.out; have h2 := HL.out; omega
  intro r w1 ho hg
  have hb : Below w.heap.size w w1 := (Below.refl _ _).grown hg (Nat.le_refl _) (fun k hk => by cases hk)
  have HO : Hid (w1.ownsRow w.heap.size 3 1 r fs.length (inRows fs).flatten) := by
    show World.ownsRow _ _ _ _ _ _ _
    rw [HN.out] at ho
    exact ho
  clear hg ho
  go_wp2_with fail
  go_ret
  exact ⟨_, rfl, HO.out, hb⟩
end Go.Proofs.YtkfhlgajeejgeaaGreatDoor

/- Messages and enumerations that a call has made: their rows, owned and apart. -/
namespace Go.Proofs.YtkfhlgajeejgeaaGreatDoor
open Go.ChangeShapes Go.WideShapes Go.ChangeAt Go.RowKit
set_option linter.unusedVariables false
set_option linter.unusedSimpArgs false
set_option maxRecDepth 20000

/-- Two rows of other elements lie in other blocks. -/
theorem own_apart {w : World} {B B' : Nat} {e e' : TypeId} {s s' : Nat} {v v' : Value} {n n' : Nat} {xs xs' : List Value} (h : w.ownsRow B e s v n xs) (h' : w.ownsRow B' e' s' v' n' xs') (hne : e ≠ e') : ∀ k, v.ownBlock = some k → ¬ v'.ownBlock = some k := by
  intro k hk hk'
  rcases h.2 with ⟨rfl, _⟩ | ⟨q, cap, cur, rfl, _, hb, _⟩
  · cases hk
  · rcases h'.2 with ⟨rfl, _⟩ | ⟨q', cap', cur', rfl, _, hb', _⟩
    · cases hk'
    · simp only [Value.ownBlock, Option.some.injEq] at hk hk'
      subst hk
      subst hk'
      rw [hb] at hb'
      simp only [Option.some.injEq, Obj.cells.injEq] at hb'
      exact hne hb'.2.1
def msRows (ms : List MsS) (ps : List (Value × Value)) : List (List Value) := List.zipWith (fun m p => [.string m.name, p.1, p.2]) ms ps
def enRows (es : List EnS) (ps : List Value) : List (List Value) := List.zipWith (fun m p => [.string m.name, p]) es ps
structure MsO (w : World) (B : Nat) (v : Value) (ms : List MsS) (ps : List (Value × Value)) : Prop where
  len : ps.length = ms.length
  own : w.ownsRow B 40 3 v ms.length (msRows ms ps).flatten
  each : ∀ (i : Nat) (m : MsS) (p : Value × Value), ms[i]? = some m → ps[i]? = some p → w.ownsRow B 44 5 p.1 m.fields.length (flRows m.fields).flatten ∧ w.ownsRow B 3 1 p.2 m.reserved.length (inRows m.reserved).flatten
  apart : ∀ (i j : Nat) (p q : Value × Value) (k : Nat), ps[i]? = some p → ps[j]? = some q → p.1.ownBlock = some k → q.1.ownBlock = some k → i = j
structure EnO (w : World) (B : Nat) (v : Value) (es : List EnS) (ps : List Value) : Prop where
  len : ps.length = es.length
  own : w.ownsRow B 47 2 v es.length (enRows es ps).flatten
  each : ∀ (i : Nat) (e : EnS) (p : Value), es[i]? = some e → ps[i]? = some p → w.ownsRow B 49 2 p e.values.length (nmRows e.values).flatten
theorem MsO.nil (w : World) (B : Nat) : MsO w B (.slice none 0 0) [] [] := ⟨rfl, World.ownsRow_nil _ _ _ _, fun i m p h => by simp at h, fun i j p q k h => by simp at h⟩
theorem EnO.nil (w : World) (B : Nat) : EnO w B (.slice none 0 0) [] [] := ⟨rfl, World.ownsRow_nil _ _ _ _, fun i m p h => by simp at h⟩
theorem MsO.kp {S : Nat → Prop} {w w1 : World} {B : Nat} {v : Value} {ms : List MsS} {ps : List (Value × Value)} (h : MsO w B v ms ps) (hk : Kp S w w1) (hs : ∀ k, B ≤ k → ¬ S k) : MsO w1 B v ms ps :=
  ⟨h.len, own_kp h.own hk hs, fun i m p hm hp => ⟨own_kp (h.each i m p hm hp).1 hk hs, own_kp (h.each i m p hm hp).2 hk hs⟩, h.apart⟩
theorem EnO.kp {S : Nat → Prop} {w w1 : World} {B : Nat} {v : Value} {ms : List EnS} {ps : List Value} (h : EnO w B v ms ps) (hk : Kp S w w1) (hs : ∀ k, B ≤ k → ¬ S k) : EnO w1 B v ms ps :=
  ⟨h.len, own_kp h.own hk hs, fun i m p hm hp => own_kp (h.each i m p hm hp) hk hs⟩
/-- Kept while another row, of another type, is written. -/
theorem MsO.beside {w w1 : World} {B B' : Nat} {v u : Value} {ms : List MsS} {ps : List (Value × Value)} {e : TypeId} {s n : Nat} {xs : List Value} (h : MsO w B v ms ps) (hu : w.ownsRow B' e s u n xs) (h1 : e ≠ 40) (h2 : e ≠ 44) (h3 : e ≠ 3) (hk : Kp (fun k => u.ownBlock = some k) w w1) : MsO w1 B v ms ps :=
  ⟨h.len, own_kpV h.own hk (fun k hk hu' => own_apart hu h.own h1 k hu' hk), fun i m p hm hp => ⟨own_kpV (h.each i m p hm hp).1 hk (fun k hk hu' => own_apart hu (h.each i m p hm hp).1 h2 k hu' hk), own_kpV (h.each i m p hm hp).2 hk (fun k hk hu' => own_apart hu (h.each i m p hm hp).2 h3 k hu' hk)⟩, h.apart⟩
theorem EnO.beside {w w1 : World} {B B' : Nat} {v u : Value} {ms : List EnS} {ps : List Value} {e : TypeId} {s n : Nat} {xs : List Value} (h : EnO w B v ms ps) (hu : w.ownsRow B' e s u n xs) (h1 : e ≠ 47) (h2 : e ≠ 49) (hk : Kp (fun k => u.ownBlock = some k) w w1) : EnO w1 B v ms ps :=
  ⟨h.len, own_kpV h.own hk (fun k hk hu' => own_apart hu h.own h1 k hu' hk), fun i m p hm hp => own_kpV (h.each i m p hm hp) hk (fun k hk hu' => own_apart hu (h.each i m p hm hp) h2 k hu' hk)⟩
theorem get_snoc {α : Type} {l : List α} {x y : α} {i : Nat} (h : (l ++ [x])[i]? = some y) : (i < l.length ∧ l[i]? = some y) ∨ (i = l.length ∧ y = x) := by
  rcases Nat.lt_or_ge i l.length with hi | hi
  · rw [List.getElem?_append_left hi] at h; exact .inl ⟨hi, h⟩
  · rw [List.getElem?_append_right hi] at h
    have : i - l.length = 0 := by
      rcases Nat.eq_zero_or_pos (i - l.length) with e | e
      · exact e
      · have : [x].length ≤ i - l.length := by simp; omega
        rw [List.getElem?_eq_none this] at h; cases h
    rw [this] at h
    simp at h
    exact .inr ⟨by omega, h.symm⟩
theorem ms_snoc {ms : List MsS} {ps : List (Value × Value)} (hl : ps.length = ms.length) (m : MsS) (p : Value × Value) : (msRows (ms ++ [m]) (ps ++ [p])).flatten = (msRows ms ps).flatten ++ [.string m.name, p.1, p.2] := by
  unfold msRows
  rw [List.zipWith_append hl.symm]
  simp
theorem en_snoc {ms : List EnS} {ps : List Value} (hl : ps.length = ms.length) (m : EnS) (p : Value) : (enRows (ms ++ [m]) (ps ++ [p])).flatten = (enRows ms ps).flatten ++ [.string m.name, p] := by
  unfold enRows
  rw [List.zipWith_append hl.symm]
  simp
/-- One more message: its rows are of new blocks. -/
theorem MsO.snoc {w w1 : World} {B H : Nat} {v v' vf vr : Value} {ms : List MsS} {ps : List (Value × Value)} {m : MsS} (h : MsO w B v ms ps) (hH : ∀ (i : Nat) (p : Value × Value) (k : Nat), ps[i]? = some p → p.1.ownBlock = some k → k < H) (hBH : B ≤ H) (hf : w.ownsRow H 44 5 vf m.fields.length (flRows m.fields).flatten) (hr : w.ownsRow H 3 1 vr m.reserved.length (inRows m.reserved).flatten)
    (ho : w1.ownsRow B 40 3 v' (ms.length + 1) ((msRows ms ps).flatten ++ [.string m.name, vf, vr])) (hk : Kp (fun k => v.ownBlock = some k) w w1) : MsO w1 B v' (ms ++ [m]) (ps ++ [(vf, vr)]) := by
  have kf : ∀ {B' : Nat} {u : Value} {n : Nat} {xs : List Value}, w.ownsRow B' 44 5 u n xs → w1.ownsRow B' 44 5 u n xs := fun hu => own_kpV hu hk (fun k hk hv => own_apart h.own hu (by decide) k hv hk)
  have kr : ∀ {B' : Nat} {u : Value} {n : Nat} {xs : List Value}, w.ownsRow B' 3 1 u n xs → w1.ownsRow B' 3 1 u n xs := fun hu => own_kpV hu hk (fun k hk hv => own_apart h.own hu (by decide) k hv hk)
  refine ⟨by simp [h.len], ?_, ?_, ?_⟩
  · rw [ms_snoc h.len, List.length_append]; exact ho
  · intro i m' p hm hp
    rcases get_snoc hm with ⟨hi, hm⟩ | ⟨hi, rfl⟩
    · rcases get_snoc hp with ⟨_, hp⟩ | ⟨hi', _⟩
      · exact ⟨kf (h.each i m' p hm hp).1, kr (h.each i m' p hm hp).2⟩
      · have := h.len; omega
    · rcases get_snoc hp with ⟨hi', _⟩ | ⟨_, rfl⟩
      · have := h.len; omega
      · exact ⟨own_base (kf hf) hBH, own_base (kr hr) hBH⟩
  · intro i j p q k hp hq hpk hqk
    rcases get_snoc hp with ⟨hi, hp⟩ | ⟨hi, rfl⟩
    · rcases get_snoc hq with ⟨hj, hq⟩ | ⟨hj, rfl⟩
      · exact h.apart i j p q k hp hq hpk hqk
      · have a1 := hH i p k hp hpk
        have a2 := (hf.lt k hqk).1
        omega
    · rcases get_snoc hq with ⟨hj, hq⟩ | ⟨hj, rfl⟩
      · have a1 := hH j q k hq hqk
        have a2 := (hf.lt k hpk).1
        omega
      · omega
theorem EnO.snoc {w w1 : World} {B H : Nat} {v v' vv : Value} {ms : List EnS} {ps : List Value} {m : EnS} (h : EnO w B v ms ps) (hBH : B ≤ H) (hf : w.ownsRow H 49 2 vv m.values.length (nmRows m.values).flatten)
    (ho : w1.ownsRow B 47 2 v' (ms.length + 1) ((enRows ms ps).flatten ++ [.string m.name, vv])) (hk : Kp (fun k => v.ownBlock = some k) w w1) : EnO w1 B v' (ms ++ [m]) (ps ++ [vv]) := by
  have kf : ∀ {B' : Nat} {u : Value} {n : Nat} {xs : List Value}, w.ownsRow B' 49 2 u n xs → w1.ownsRow B' 49 2 u n xs := fun hu => own_kpV hu hk (fun k hk hv => own_apart h.own hu (by decide) k hv hk)
  refine ⟨by simp [h.len], ?_, ?_⟩
  · rw [en_snoc h.len, List.length_append]; exact ho
  · intro i m' p hm hp
    rcases get_snoc hm with ⟨hi, hm⟩ | ⟨hi, rfl⟩
    · rcases get_snoc hp with ⟨_, hp⟩ | ⟨hi', _⟩
      · exact kf (h.each i m' p hm hp)
      · have := h.len; omega
    · rcases get_snoc hp with ⟨hi', _⟩ | ⟨_, rfl⟩
      · have := h.len; omega
      · exact own_base (kf hf) hBH
/-- Where the fields' blocks lie. -/
theorem MsO.high {w : World} {B : Nat} {v : Value} {ms : List MsS} {ps : List (Value × Value)} (h : MsO w B v ms ps) : ∀ (i : Nat) (p : Value × Value) (k : Nat), ps[i]? = some p → p.1.ownBlock = some k → k < w.heap.size := by
  intro i p k hp hk
  have hi : i < ms.length := by rw [← h.len]; exact (List.getElem?_eq_some_iff.1 hp).1
  exact ((h.each i _ p (List.getElem?_eq_getElem hi) hp).1.lt k hk).2
theorem infoM : (Tryz.prog.info? 40).map (fun i => (i.zero, i.size, i.bytes)) = some (some (.agg #[.string ⟨#[]⟩, .slice none 0 0, .slice none 0 0]), 3, 64) := by kernel_rfl
theorem infoE : (Tryz.prog.info? 47).map (fun i => (i.zero, i.size, i.bytes)) = some (some (.agg #[.string ⟨#[]⟩, .slice none 0 0]), 2, 40) := by kernel_rfl
theorem infoT : (Tryz.prog.info? 54).map (fun i => (i.zero, i.size, i.bytes)) = some (some (.agg #[.string ⟨#[]⟩, .string ⟨#[]⟩, .string ⟨#[]⟩]), 3, 48) := by kernel_rfl
theorem mt_snoc (acc : List MtS) (f : MtS) : (mtRows (acc ++ [f])).flatten = (mtRows acc).flatten ++ [.string f.name, .string f.inn, .string f.out] := by simp [mtRows, MtS.cells]
/-- A row's cells, by the element. -/
theorem own_at {w : World} {B e size q n cap : Nat} {rs : List (List Value)} (hl : ∀ r ∈ rs, r.length = size) (h : w.ownsRow B e size (.slice (some ⟨q, 0, none⟩) n cap) n rs.flatten) {i : Nat} {c : List Value} (hc : rs[i]? = some c) {j : Nat} {u : Value} (hu : c[j]? = some u) : w.cell? ⟨q, i * size + j, none⟩ = some u := by
  have := h.cells (g := q) rfl (i * size + j) u (flat_get rs hl i c hc j u hu)
  rw [Addr.add_lit, Nat.zero_add] at this
  exact this
theorem own_froz {w : World} {B e size q n cap : Nat} {xs : List Value} (h : w.ownsRow B e size (.slice (some ⟨q, 0, none⟩) n cap) n xs) (i : Nat) : w.frozen? ⟨q, i, none⟩ = false := by
  rcases h.2 with ⟨h, _⟩ | ⟨q', cap', cur, h1, h2, h3, _⟩
  · cases h
  · simp only [Value.slice.injEq, Option.some.injEq, Addr.mk.injEq] at h1
    obtain ⟨⟨rfl, _⟩, _⟩ := h1
    exact block_froz h3 i
theorem own_addr {w : World} {B e size n : Nat} {v : Value} {xs : List Value} (h : w.ownsRow B e size v n xs) (hn : 0 < n) : ∃ q cap, v = .slice (some ⟨q, 0, none⟩) n cap ∧ n ≤ cap ∧ cap ≤ maxLen ∧ B ≤ q ∧ q < w.heap.size := by
  rcases h.2 with ⟨_, h⟩ | ⟨q', cap', cur, h1, h2, h3, h4, h5, _⟩
  · omega
  · exact ⟨q', cap', h1, h4, h5, h2, (Array.getElem?_eq_some_iff.1 h3).1⟩
/-- A cell of a row of one's own is written. -/
theorem own_set {w : World} {B e size q n cap : Nat} {xs : List Value} (h : w.ownsRow B e size (.slice (some ⟨q, 0, none⟩) n cap) n xs) {j : Nat} (u : Value) : (w.setCell ⟨q, j, none⟩ u).ownsRow B e size (.slice (some ⟨q, 0, none⟩) n cap) n (xs.set j u) := by
  refine ⟨by rw [List.length_set]; exact h.1, ?_⟩
  rcases h.2 with ⟨h, _⟩ | ⟨q', cap', cur, h1, h2, h3, h4, h5, h6, h7⟩
  · cases h
  · simp only [Value.slice.injEq, Option.some.injEq, Addr.mk.injEq] at h1
    obtain ⟨⟨rfl, _⟩, _, rfl⟩ := h1
    refine .inr ⟨q, cap, cur.setIfInBounds j u, rfl, h2, block_set h3 j u, h4, h5, by simpa using h6, ?_⟩
    rw [Array.toList_setIfInBounds, List.take_set, h7]
theorem fl_len (fs : List FlS) : ∀ r ∈ flRows fs, r.length = 5 := by intro r hr; simp only [flRows, List.mem_map] at hr; obtain ⟨f, _, rfl⟩ := hr; rfl
theorem en_len (es : List EnS) (ps : List Value) : ∀ r ∈ enRows es ps, r.length = 2 := by
  intro r hr
  unfold enRows at hr
  rw [List.mem_iff_getElem?] at hr
  obtain ⟨i, hi⟩ := hr
  rw [List.getElem?_zipWith] at hi
  split at hi <;> simp at hi
  rw [← hi]; rfl
theorem ms_len (es : List MsS) (ps : List (Value × Value)) : ∀ r ∈ msRows es ps, r.length = 3 := by
  intro r hr
  unfold msRows at hr
  rw [List.mem_iff_getElem?] at hr
  obtain ⟨i, hi⟩ := hr
  rw [List.getElem?_zipWith] at hi
  split at hi <;> simp at hi
  rw [← hi]; rfl
theorem en_get {es : List EnS} {ps : List Value} {i : Nat} {e : EnS} {p : Value} (he : es[i]? = some e) (hp : ps[i]? = some p) : (enRows es ps)[i]? = some [.string e.name, p] := by
  unfold enRows
  rw [List.getElem?_zipWith, he, hp]
theorem ms_get {es : List MsS} {ps : List (Value × Value)} {i : Nat} {e : MsS} {p : Value × Value} (he : es[i]? = some e) (hp : ps[i]? = some p) : (msRows es ps)[i]? = some [.string e.name, p.1, p.2] := by
  unfold msRows
  rw [List.getElem?_zipWith, he, hp]
theorem fl_get {fs : List FlS} {i : Nat} {f : FlS} (h : fs[i]? = some f) : (flRows fs)[i]? = some f.cells := by simp [flRows, h]
theorem MsO.below {w w1 : World} {B : Nat} {v : Value} {ms : List MsS} {ps : List (Value × Value)} (h : MsO w B v ms ps) (hk : Below w.heap.size w w1) : MsO w1 B v ms ps :=
  ⟨h.len, own_below h.own hk, fun i m p hm hp => ⟨own_below (h.each i m p hm hp).1 hk, own_below (h.each i m p hm hp).2 hk⟩, h.apart⟩
theorem EnO.below {w w1 : World} {B : Nat} {v : Value} {ms : List EnS} {ps : List Value} (h : EnO w B v ms ps) (hk : Below w.heap.size w w1) : EnO w1 B v ms ps :=
  ⟨h.len, own_below h.own hk, fun i m p hm hp => own_below (h.each i m p hm hp) hk⟩
theorem own_le {w : World} {B : Nat} {e : TypeId} {s : Nat} {v : Value} {n : Nat} {xs : List Value} (h : w.ownsRow B e s v n xs) : n ≤ 9223372036854775807 := by
  rcases h.2 with ⟨rfl, rfl⟩ | ⟨q, cap, cur, rfl, _, _, h4, h5, _⟩
  · omega
  · unfold maxLen at h5; omega
theorem MsO.to_in {w : World} {B : Nat} {v : Value} {ms : List MsS} {ps : List (Value × Value)} (h : MsO w B v ms ps) : MsIn w v ms := by
  obtain ⟨h1, h2⟩ := RowG.own (ms_len ms ps) (by decide) h.own
  refine ⟨msRows ms ps, h1, h2.symm, fun i m hm => ?_⟩
  have hi := (List.getElem?_eq_some_iff.1 hm).1
  obtain ⟨p, hp⟩ : ∃ p, ps[i]? = some p := ⟨_, List.getElem?_eq_getElem (by rw [h.len]; exact hi)⟩
  exact ⟨p.1, p.2, ms_get hm hp, (RowG.own (fl_len m.fields) (by decide) (h.each i m p hm hp).1).1, (RowG.own (fun r hr => by simp only [inRows, List.mem_map] at hr; obtain ⟨_, _, rfl⟩ := hr; rfl) (by decide) (h.each i m p hm hp).2).1⟩
theorem EnO.to_in {w : World} {B : Nat} {v : Value} {ms : List EnS} {ps : List Value} (h : EnO w B v ms ps) : EnIn w v ms := by
  obtain ⟨h1, h2⟩ := RowG.own (en_len ms ps) (by decide) h.own
  refine ⟨enRows ms ps, h1, h2.symm, fun i m hm => ?_⟩
  have hi := (List.getElem?_eq_some_iff.1 hm).1
  obtain ⟨p, hp⟩ : ∃ p, ps[i]? = some p := ⟨_, List.getElem?_eq_getElem (by rw [h.len]; exact hi)⟩
  exact ⟨p, en_get hm hp, (RowG.own (fun r hr => by simp only [nmRows, List.mem_map] at hr; obtain ⟨_, _, rfl⟩ := hr; rfl) (by decide) (h.each i m p hm hp)).1⟩
theorem mt_in {w : World} {B : Nat} {v : Value} {ms : List MtS} (h : w.ownsRow B 54 3 v ms.length (mtRows ms).flatten) : RowG w v 3 (mtRows ms) :=
  (RowG.own (fun r hr => by simp only [mtRows, List.mem_map] at hr; obtain ⟨_, _, rfl⟩ := hr; rfl) (by decide) h).1
theorem own_type {w : World} {B : Nat} {e : TypeId} {sz : Nat} {v : Value} {n : Nat} {xs : List Value} {k : Nat} {cs : Array Value} {t : TypeId} (h : w.ownsRow B e sz v n xs) (hk : v.ownBlock = some k) (hb : Blk w k cs t) : e = t := by
  rcases h.2 with ⟨rfl, _⟩ | ⟨q, cap, cur, rfl, _, hq, _⟩
  · cases hk
  · simp only [Value.ownBlock, Option.some.injEq] at hk
    subst hk
    unfold Blk at hb
    rw [hq] at hb
    simp only [Option.some.injEq, Obj.cells.injEq] at hb
    exact hb.2.1
/-- Kept while a block of another type is written. -/
theorem own_blk {w w1 : World} {B : Nat} {e : TypeId} {sz n b : Nat} {v : Value} {xs : List Value} {cs : Array Value} {t : TypeId} (h : w.ownsRow B e sz v n xs) (hb : Blk w b cs t) (ht : e ≠ t) (hk : Kp (fun k => k = b) w w1) : w1.ownsRow B e sz v n xs :=
  own_kpV h hk (fun k hv e' => by subst e'; exact ht (own_type h hv hb))
theorem MsO.base {w : World} {B B' : Nat} {v : Value} {ms : List MsS} {ps : List (Value × Value)} (h : MsO w B v ms ps) (hb : B' ≤ B) : MsO w B' v ms ps :=
  ⟨h.len, own_base h.own hb, fun i m p hm hp => ⟨own_base (h.each i m p hm hp).1 hb, own_base (h.each i m p hm hp).2 hb⟩, h.apart⟩
theorem EnO.base {w : World} {B B' : Nat} {v : Value} {ms : List EnS} {ps : List Value} (h : EnO w B v ms ps) (hb : B' ≤ B) : EnO w B' v ms ps :=
  ⟨h.len, own_base h.own hb, fun i m p hm hp => own_base (h.each i m p hm hp) hb⟩
end Go.Proofs.YtkfhlgajeejgeaaGreatDoor
