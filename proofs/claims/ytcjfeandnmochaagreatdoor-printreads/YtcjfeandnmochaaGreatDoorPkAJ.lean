/- Part 10 of what the proof stands on. -/
import Derived.Test.YtcjfeandnmochaaGreatDoorPkAI
namespace Go.Proofs.YtcjfeandnmochaaGreatDoor
open Go.ChangeShapes Go.WideShapes Go.ChangeAt Go.RowKit
set_option linter.unusedVariables false
set_option linter.unusedSimpArgs false
set_option maxRecDepth 20000
set_option maxHeartbeats 8000000 in
theorem rdecl_msg {w : World} {gp gs : Nat} {V : Value} {ts : List Tk} {t : ByteArray} {r : List ByteArray} {s : ScS} {vm ve vt : Value} {pm : List (Value × Value)} {pe : List Value} (h : Rf w gp V ts (.inr (t :: r))) (ht : t.data.toList = kMessage.data.toList) (hgs : gp < gs) (hS : SO w gs s vm ve vt pm pe) (hB : Bd3 ts.length (.inr (t :: r)) s) :
  Calls Tryz.prog 39 #[.pointer (some ⟨gp, 0, none⟩), .pointer (some ⟨gs, 0, none⟩)] w fun e w' => e = .returned (.tuple #[]) ∧ DeclQ w gp gs V ts s (t :: r) w' := by
 obtain ⟨i0, hi, hz0, hz1, hz2⟩ := info_parts infoM
 have hfew := h.few
 obtain ⟨Z, hZ⟩ : ∃ Z, pMsg r = Z := ⟨_, rfl⟩
 have HZ0 : Hid (Z = pOn (stX (pOn (stX (pOn (.inr r) pName)) (pMust kOpen))) fun r' => pMembers (r'.length + 1) ⟨res noT (pOn (.inr r) pName), [], []⟩ r') := by
  show Z = _
  rw [← hZ]; exact msg_st (.inr r)
 have HD : Hid (∀ m, Res Z m → stX (pDecl s (t :: r)) = stX Z ∧ Res (pDecl s (t :: r)) ⟨s.name, s.msgs ++ [m], s.enums, s.methods⟩) := fun m hm => by
  rw [← hZ] at hm ⊢
  exact decl_msg ht hm
 have HBD : Hid (∀ m, Bd3 ts.length (stX (pDecl s (t :: r))) ⟨s.name, s.msgs ++ [m], s.enums, s.methods⟩) := fun m => ⟨by show Bd _ _ (s.msgs ++ [m]).length; rw [List.length_append]; exact hB.1.step (decl_lt s (t :: r)), hB.2.1.keep (decl_lt s (t :: r)).le, hB.2.2.keep (decl_lt s (t :: r)).le⟩
 have hlenM : s.msgs.length ≤ 100000 := by have := hB.1.2 _ rfl; omega
 have e1 : anyS [kMessage] t = true := by rw [any_one, ht]; decide +kernel
 have HE : Hid (stX (pOn (.inr (t :: r)) (pTake [kMessage])) = .inr r ∧ anyS [kMessage] (headS (.inr (t :: r))) = true) := ⟨by rw [any1_take _ _ _ e1]; rfl, e1⟩
 have HSO : Hid (SO w gs s vm ve vt pm pe) := hS
 have HH : Hid (∀ (i : Nat) (p : Value × Value) (k : Nat), pm[i]? = some p → p.1.ownBlock = some k → k < w.heap.size) := hS.ms.high
 have hgw : gs < w.heap.size := hS.bs.lt
 clear hZ hB e1 ht hS
 go_enter Tryz.func39, Tryz.ntmps39
 go_wp2_with fail
 refine (ris_any kMessage h (by decide +kernel)).mono ?_
 rintro e w1 ⟨rfl, h1, K1⟩
 rw [HE.out.1] at h1
 rw [HE.out.2]
 clear h HE
 go_wp2_with fail
 refine (pname_any h1).mono ?_
 rintro e w2 ⟨rfl, h2, k2⟩
 have K2 := K1.trans k2
 clear h1 K1 k2
 generalize res noT (pOn (.inr r) pName) = x1 at *
 generalize stX (pOn (.inr r) pName) = σ2 at *
 have BM := Blk.new w2 #[.string x1, .slice none 0 0, .slice none 0 0] 40
 have h3 := h2.alloc (.cells #[.string x1, .slice none 0 0, .slice none 0 0] 40)
 have K3 := K2.alloc (.cells #[.string x1, .slice none 0 0, .slice none 0 0] 40)
 have hgM : gp < w2.heap.size := h2.lt
 have hwM : w.heap.size ≤ w2.heap.size := K2.size
 clear h2 K2
 go_wp2_with fail
 refine (rmust_any kOpen h3 (by decide +kernel)).mono ?_
 rintro e w3 ⟨rfl, h4, k4⟩
 generalize w2.heap.size = M at *
 have BM4 := BM.kp k4 (by omega)
 have K4 := K3.trans k4
 clear h3 k4 BM K3
 generalize stX (pOn σ2 (pMust kOpen)) = σ3 at *
 go_wp2_with fail
 go_loopw [19] (fun _ wr => ∃ (m : MsS) (vf vr : Value) (σ1 : Sg), Hid (Z = pOn σ1 fun r => pMembers (r.length + 1) m r) ∧ Hid (wr.ownsRow (M + 1) 90 5 vf m.fields.length (flRows m.fields).flatten) ∧ Hid (wr.ownsRow (M + 1) 3 1 vr m.reserved.length (inRows m.reserved).flatten) ∧ Rf wr gp V ts σ1 ∧ Kp (fun k => k = gp) w wr ∧ Hid (Bd ts.length σ1 m.fields.length ∧ Bd ts.length σ1 m.reserved.length) ∧ Blk wr M #[.string m.name, vf, vr] 40) (fun _ wr => msrf gp ts.length wr)
 case atStart =>
  have hb : Bd ts.length σ3 0 := ⟨by simp, fun r hr => by have := h4.left; rw [hr] at this; simp only [leftS] at this; simpa using this⟩
  exact ⟨⟨x1, [], []⟩, _, _, σ3, HZ0, World.ownsRow_nil _ _ _ _, World.ownsRow_nil _ _ _ _, h4, K4, ⟨hb, hb⟩, BM4⟩
 case round =>
  obtain ⟨m, vf, vr, σ, HZ, HF, HO, hr, KR, HB, BM⟩ := hrel
  clear HZ0 h4 K4 BM4
  have hms := msr_rf hr
  have hc2 := bad_cell hr
  rcases shut3 σ with ⟨t', r', rfl, ht', e1, e2⟩ | ⟨n, rfl⟩ | ⟨rs, rfl, hns, e1, e2⟩
  ·have eZ : Z = .inr (m, r') := by rw [HZ.out]; exact members_shut ht'
   subst eZ
   have HE : Hid (stX (pOn (.inr (t' :: r')) (pTake [kShut])) = .inr r' ∧ anyS [kShut] (headS (.inr (t' :: r'))) = true) := ⟨e1, e2⟩
   obtain ⟨q1, q2⟩ := HD.out m Res.yes
   simp only [stX] at q1
   have HQ : Hid (stX (pDecl s (t :: r)) = .inr r' ∧ Res (pDecl s (t :: r)) ⟨s.name, s.msgs ++ [m], s.enums, s.methods⟩) := ⟨q1, q2⟩
   clear HZ e1 e2 hms HB ht' q1 q2 HD
   simp only [badS] at hc2
   go_wp2_with fail
   refine (ris_any kShut hr (by decide +kernel)).mono ?_
   rintro e w3 ⟨rfl, h4, k4⟩
   rw [HE.out.1] at h4
   rw [HE.out.2]
   have BM4 := BM.kp k4 (by omega)
   have K4 := KR.trans k4
   have HO4 := own_kpH HO k4 (fun k hk => by omega)
   have HF4 := own_kpH HF k4 (fun k hk => by omega)
   clear hr KR HO HF BM k4 HE hc2
   obtain ⟨fa, fc, hvv⟩ := own_form HF4.out
   subst hvv
   obtain ⟨ra, rc, hvv⟩ := own_form HO4.out
   subst hvv
   obtain ⟨nF, hnF⟩ : ∃ n, m.fields.length = n := ⟨_, rfl⟩
   have HNF : Hid (m.fields.length = nF) := hnF
   obtain ⟨nR, hnR⟩ : ∃ n, m.reserved.length = n := ⟨_, rfl⟩
   have HNR : Hid (m.reserved.length = nR) := hnR
   rw [hnF] at BM4
   rw [hnR] at BM4
   clear hnF hnR
   go_wp2_with fail
   have HS4 : Hid (SO w3 gs s vm ve vt pm pe) := HSO.out.kp K4 (fun k hk => by omega)
   have BG := HS4.out.bs
   have BE := BM4
   have hM6 : gs + 1 ≤ w3.drew.heap.size := by have := K4.size; show gs + 1 ≤ w3.heap.size; omega
   refine wp_region_held_drew (S := fun _ => True) (by kernel_rfl) trivial (fun hS => ?_)
   refine rg_take 0 31 (.pointer (some ⟨gs, 0, none⟩)) _ rfl rfl (by kernel_rfl) (by kernel_rfl) (by kernel_rfl) (fun _ _ _ h => h) (by rfl) (fun w' hw' => ?_) trivial (listed' := #[true, false, false, false, false, false, false, false, false, false, false]) (by kernel_rfl) rfl ?_
   ·go_simp
   simp only [List.setIfInBounds_toArray, List.set_cons_zero, List.set_cons_succ]
   refine rg_take 1 32 (.pointer (some ⟨gs, 0, none⟩)) _ rfl rfl (by kernel_rfl) (by kernel_rfl) (by kernel_rfl) (fun _ _ _ h => h) (by rfl) (fun w' hw' => ?_) trivial (listed' := #[true, true, false, false, false, false, false, false, false, false, false]) (by kernel_rfl) rfl ?_
   ·go_simp
   simp only [List.setIfInBounds_toArray, List.set_cons_zero, List.set_cons_succ]
   refine rg_take 2 33 (.pointer (some ⟨gs, 0, none⟩)) _ rfl rfl (by kernel_rfl) (by kernel_rfl) (by kernel_rfl) (fun _ _ _ h => h) (by rfl) (fun w' hw' => ?_) trivial (listed' := #[true, true, true, false, false, false, false, false, false, false, false]) (by kernel_rfl) rfl ?_
   ·go_simp
   simp only [List.setIfInBounds_toArray, List.set_cons_zero, List.set_cons_succ]
   refine rg_take 3 34 (.pointer (some ⟨gs, 1, none⟩)) _ rfl rfl (by kernel_rfl) (by kernel_rfl) (by kernel_rfl) (fun _ _ _ h => h) (by rfl) (fun w' hw' => ?_) trivial (listed' := #[true, true, true, true, false, false, false, false, false, false, false]) (by kernel_rfl) rfl ?_
   ·go_simp
   simp only [List.setIfInBounds_toArray, List.set_cons_zero, List.set_cons_succ]
   have BGd := BG.below (Below.refl _ _).drew
   have BEd := BE.below (Below.refl _ _).drew
   refine rg_llb 4 5 6 35 36 37 vm (.agg #[.string m.name, .slice fa nF fc, .slice ra nR rc]) (.slice (some ⟨w3.drew.heap.size, 0, none⟩) 1 1) (w3.drew.alloc (.cells #[.string m.name, .slice fa nF fc, .slice ra nR rc] 40)) rfl rfl rfl rfl rfl rfl (by kernel_rfl) (by kernel_rfl) (by kernel_rfl) (by kernel_rfl) (by kernel_rfl) (fun _ => rfl) (fun _ => rfl) (fun _ => rfl) (by decide) (by decide) (by decide) (by decide) ?g0 ?g1 ?g2 ?g3 ?g4 ?g5 ?g6 ?_
   case g0 => have hg0 := (BGd.cell 1).trans rfl; go_simp
   case g1 => have hg0 := (BGd.cell 1).trans rfl; simp only [List.setIfInBounds_toArray, List.set_cons_zero, List.set_cons_succ]; go_simp
   case g2 => have hg0 : (w3.alloc (.cells #[.string m.name, .slice fa nF fc, .slice ra nR rc] 40)).cell? ⟨gs, 1, none⟩ = some (vm) := ((BG.below ((Below.refl _ _).alloc (Nat.le_refl _) (.cells #[.string m.name, .slice fa nF fc, .slice ra nR rc] 40))).cell 1).trans rfl; simp only [List.setIfInBounds_toArray, List.set_cons_zero, List.set_cons_succ]; go_simp
   case g3 => have he0 := (BEd.cell 0).trans rfl; have he1 := (BEd.cell 1).trans rfl; have he2 := (BEd.cell 2).trans rfl; go_simp
   case g4 => have he0 := (BEd.cell 0).trans rfl; have he1 := (BEd.cell 1).trans rfl; have he2 := (BEd.cell 2).trans rfl; simp only [List.setIfInBounds_toArray, List.set_cons_zero, List.set_cons_succ]; go_simp
   case g5 => simp only [List.setIfInBounds_toArray, List.set_cons_zero, List.set_cons_succ]; go_simp
   case g6 => simp only [List.setIfInBounds_toArray, List.set_cons_zero, List.set_cons_succ]; go_simp
   simp only [List.setIfInBounds_toArray, List.set_cons_zero, List.set_cons_succ]
   have kW : Kp (fun _ => False) w3 (w3.drew.alloc (.cells #[.string m.name, .slice fa nF fc, .slice ra nR rc] 40)) := (Kp.ofBelow (Below.refl _ _).drew).below ((Below.refl _ _).alloc (Nat.le_refl _) (.cells #[.string m.name, .slice fa nF fc, .slice ra nR rc] 40))
   have HS5 : Hid (SO (w3.drew.alloc (.cells #[.string m.name, .slice fa nF fc, .slice ra nR rc] 40)) gs s vm ve vt pm pe) := HS4.out.kp kW (fun _ _ e => e)
   have h5 : Rf (w3.drew.alloc (.cells #[.string m.name, .slice fa nF fc, .slice ra nR rc] 40)) gp V ts (.inr r') := h4.kp kW (fun _ _ e => e)
   have K5 : Kp (fun k => k = gp) w (w3.drew.alloc (.cells #[.string m.name, .slice fa nF fc, .slice ra nR rc] 40)) := K4.trans2 kW (fun k hk e => e.elim)
   have HF5 := own_kpH HF4 kW (fun _ _ e => e)
   have HO5 := own_kpH HO4 kW (fun _ _ e => e)
   rw [HNF.out] at HF5
   rw [HNR.out] at HO5
   clear h4 HS4 BG BE BGd BEd BM4 K4
   obtain ⟨v6, w6, hrun, ho6, hg6, _, hat6⟩ := run_append_own_at (P := Tryz.prog) (w3.drew.alloc (.cells #[.string m.name, .slice fa nF fc, .slice ra nR rc] 40)) (gs + 1) 23 23 40 i0 _ 3 64 Tryz.underlying23 hi hz0 hz1 hz2 rfl (by decide) _ _ _ HS5.out.ms.own ⟨w3.drew.heap.size, 0, none⟩ 1 1 [.string m.name, .slice fa nF fc, .slice ra nR rc] rfl (cells_new _ #[.string m.name, .slice fa nF fc, .slice ra nR rc] _) (by intro u hu; simp at hu; rcases hu with rfl | rfl | rfl <;> rfl) (by unfold maxLen; omega) (by omega) (by have e : (w3.drew.alloc (.cells #[.string m.name, .slice fa nF fc, .slice ra nR rc] 40)).heap.size = w3.drew.heap.size + 1 := Array.size_push ..; rw [e]; omega)
   have k56 : Kp (fun k => vm.ownBlock = some k) (w3.drew.alloc (.cells #[.string m.name, .slice fa nF fc, .slice ra nR rc] 40)) w6 := (Kp.refl _ _).grown hg6 (fun k hk _ => hk)
   have hvb : ∀ k, vm.ownBlock = some k → gs + 1 ≤ k := fun k hk => (HS5.out.ms.own.lt k hk).1
   have h7 : Rf w6 gp V ts (.inr r') := h5.kp k56 (fun k hk e => by have := hvb k e; omega)
   have K7 : Kp (fun k => k = gp ∨ gs ≤ k) w w6 := (K5.weak (fun _ _ e => .inl e)).trans2 k56 (fun k hk e => .inr (by have := hvb k e; omega))
   have BM7 := HS5.out.bs.kp k56 (fun e => by have := hvb _ e; omega)
   obtain ⟨nA, hnA⟩ : ∃ n, s.msgs.length = n := ⟨_, rfl⟩
   have HNA : Hid (s.msgs.length = nA) := hnA
   rw [hnA] at ho6
   obtain ⟨va, vc, hvv⟩ := own_form ho6
   subst hvv
   have HSF : Hid (SO (w6.setCell ⟨gs, 1, none⟩ (.slice va (nA + 1) vc)) gs ⟨s.name, s.msgs ++ [m], s.enums, s.methods⟩ (.slice va (nA + 1) vc) ve vt (pm ++ [(.slice fa nF fc, .slice ra nR rc)]) pe) := HS5.out.msg (m := m) (H := M + 1) (fun i p k hp hk => by have := HH.out i p k hp hk; omega) (by omega) (by rw [HNF.out]; exact HF5.out) (by rw [HNR.out]; exact HO5.out) (by rw [HNA.out]; exact ho6) k56
   have mc' := BM7.cell 1
   have mf := BM7.froz 1
   simp only [List.getElem?_toArray, List.getElem?_cons_succ, List.getElem?_cons_zero] at mc'
   clear ho6 hg6 hat6 k56 hvb HS5 h5 K5 BM7 hnA kW
   refine rg_run 7 38 (.slice va (nA + 1) vc) (w6) rfl rfl (by kernel_rfl) (by rfl) (listed' := #[true, true, true, true, true, true, true, true, false, false, false]) (by kernel_rfl) ?_ trivial ?_
   ·exact append_run rfl rfl rfl hrun
   simp only [List.setIfInBounds_toArray, List.set_cons_zero, List.set_cons_succ]
   clear hrun
   refine rg_run 8 39 (.pointer (some ⟨gs, 0, none⟩)) (w6) rfl rfl (by kernel_rfl) (by rfl) (listed' := #[true, true, true, true, true, true, true, true, true, false, false]) (by kernel_rfl) ?_ trivial ?_
   ·go_simp
   simp only [List.setIfInBounds_toArray, List.set_cons_zero, List.set_cons_succ]
   refine rg_run 9 40 (.pointer (some ⟨gs, 1, none⟩)) (w6) rfl rfl (by kernel_rfl) (by rfl) (listed' := #[true, true, true, true, true, true, true, true, true, true, false]) (by kernel_rfl) ?_ trivial ?_
   ·go_simp
   simp only [List.setIfInBounds_toArray, List.set_cons_zero, List.set_cons_succ]
   refine rg_store 10 (w6.setCell ⟨gs, 1, none⟩ (.slice va (nA + 1) vc)) rfl rfl (by kernel_rfl) (by rfl) (listed' := #[true, true, true, true, true, true, true, true, true, true, true]) (by kernel_rfl) ?_ trivial ?_
   ·go_simp
   refine wpAnyH_done (by kernel_rfl) ?_ _
   have h9 : Rf (w6.setCell ⟨gs, 1, none⟩ (.slice va (nA + 1) vc)) gp V ts (.inr r') := h7.other hgs _
   have K9 : Kp (fun k => k = gp ∨ gs ≤ k) w (w6.setCell ⟨gs, 1, none⟩ (.slice va (nA + 1) vc)) := K7.setCell (fun _ => .inr (Nat.le_refl _)) _
   clear h7 K7 mc' mf
   go_wp2_with fail
   refine bodyPost_end (results_none' rfl _ _ _) rfl ?_
   exact ⟨rfl, ⟨s.name, s.msgs ++ [m], s.enums, s.methods⟩, _, _, _, _, _, HQ.out.2, by rw [HQ.out.1]; exact h9, HSF.out, K9, HBD.out m⟩
  ·have eZ : Z = .inl n := by rw [HZ.out]; rfl
   subst eZ
   obtain ⟨q1, q2⟩ := HD.out m Res.no
   simp only [stX] at q1
   have HQ : Hid (stX (pDecl s (t :: r)) = .inl n ∧ Res (pDecl s (t :: r)) ⟨s.name, s.msgs ++ [m], s.enums, s.methods⟩) := ⟨q1, q2⟩
   clear HZ hms HB q1 q2 HD
   simp only [badS] at hc2
   have h4 := hr
   have K4 := KR
   have BM4 := BM
   have HO4 := HO
   have HF4 := HF
   clear hr KR HO HF BM
   obtain ⟨fa, fc, hvv⟩ := own_form HF4.out
   subst hvv
   obtain ⟨ra, rc, hvv⟩ := own_form HO4.out
   subst hvv
   obtain ⟨nF, hnF⟩ : ∃ n, m.fields.length = n := ⟨_, rfl⟩
   have HNF : Hid (m.fields.length = nF) := hnF
   obtain ⟨nR, hnR⟩ : ∃ n, m.reserved.length = n := ⟨_, rfl⟩
   have HNR : Hid (m.reserved.length = nR) := hnR
   rw [hnF] at BM4
   rw [hnR] at BM4
   clear hnF hnR
   go_wp2_with fail
   clear hc2
   have HS4 : Hid (SO wr gs s vm ve vt pm pe) := HSO.out.kp K4 (fun k hk => by omega)
   have BG := HS4.out.bs
   have BE := BM4
   have hM6 : gs + 1 ≤ wr.drew.heap.size := by have := K4.size; show gs + 1 ≤ wr.heap.size; omega
   refine wp_region_held_drew (S := fun _ => True) (by kernel_rfl) trivial (fun hS => ?_)
   refine rg_take 0 31 (.pointer (some ⟨gs, 0, none⟩)) _ rfl rfl (by kernel_rfl) (by kernel_rfl) (by kernel_rfl) (fun _ _ _ h => h) (by rfl) (fun w' hw' => ?_) trivial (listed' := #[true, false, false, false, false, false, false, false, false, false, false]) (by kernel_rfl) rfl ?_
   ·go_simp
   simp only [List.setIfInBounds_toArray, List.set_cons_zero, List.set_cons_succ]
   refine rg_take 1 32 (.pointer (some ⟨gs, 0, none⟩)) _ rfl rfl (by kernel_rfl) (by kernel_rfl) (by kernel_rfl) (fun _ _ _ h => h) (by rfl) (fun w' hw' => ?_) trivial (listed' := #[true, true, false, false, false, false, false, false, false, false, false]) (by kernel_rfl) rfl ?_
   ·go_simp
   simp only [List.setIfInBounds_toArray, List.set_cons_zero, List.set_cons_succ]
   refine rg_take 2 33 (.pointer (some ⟨gs, 0, none⟩)) _ rfl rfl (by kernel_rfl) (by kernel_rfl) (by kernel_rfl) (fun _ _ _ h => h) (by rfl) (fun w' hw' => ?_) trivial (listed' := #[true, true, true, false, false, false, false, false, false, false, false]) (by kernel_rfl) rfl ?_
   ·go_simp
   simp only [List.setIfInBounds_toArray, List.set_cons_zero, List.set_cons_succ]
   refine rg_take 3 34 (.pointer (some ⟨gs, 1, none⟩)) _ rfl rfl (by kernel_rfl) (by kernel_rfl) (by kernel_rfl) (fun _ _ _ h => h) (by rfl) (fun w' hw' => ?_) trivial (listed' := #[true, true, true, true, false, false, false, false, false, false, false]) (by kernel_rfl) rfl ?_
   ·go_simp
   simp only [List.setIfInBounds_toArray, List.set_cons_zero, List.set_cons_succ]
   have BGd := BG.below (Below.refl _ _).drew
   have BEd := BE.below (Below.refl _ _).drew
   refine rg_llb 4 5 6 35 36 37 vm (.agg #[.string m.name, .slice fa nF fc, .slice ra nR rc]) (.slice (some ⟨wr.drew.heap.size, 0, none⟩) 1 1) (wr.drew.alloc (.cells #[.string m.name, .slice fa nF fc, .slice ra nR rc] 40)) rfl rfl rfl rfl rfl rfl (by kernel_rfl) (by kernel_rfl) (by kernel_rfl) (by kernel_rfl) (by kernel_rfl) (fun _ => rfl) (fun _ => rfl) (fun _ => rfl) (by decide) (by decide) (by decide) (by decide) ?g0 ?g1 ?g2 ?g3 ?g4 ?g5 ?g6 ?_
   case g0 => have hg0 := (BGd.cell 1).trans rfl; go_simp
   case g1 => have hg0 := (BGd.cell 1).trans rfl; simp only [List.setIfInBounds_toArray, List.set_cons_zero, List.set_cons_succ]; go_simp
   case g2 => have hg0 : (wr.alloc (.cells #[.string m.name, .slice fa nF fc, .slice ra nR rc] 40)).cell? ⟨gs, 1, none⟩ = some (vm) := ((BG.below ((Below.refl _ _).alloc (Nat.le_refl _) (.cells #[.string m.name, .slice fa nF fc, .slice ra nR rc] 40))).cell 1).trans rfl; simp only [List.setIfInBounds_toArray, List.set_cons_zero, List.set_cons_succ]; go_simp
   case g3 => have he0 := (BEd.cell 0).trans rfl; have he1 := (BEd.cell 1).trans rfl; have he2 := (BEd.cell 2).trans rfl; go_simp
   case g4 => have he0 := (BEd.cell 0).trans rfl; have he1 := (BEd.cell 1).trans rfl; have he2 := (BEd.cell 2).trans rfl; simp only [List.setIfInBounds_toArray, List.set_cons_zero, List.set_cons_succ]; go_simp
   case g5 => simp only [List.setIfInBounds_toArray, List.set_cons_zero, List.set_cons_succ]; go_simp
   case g6 => simp only [List.setIfInBounds_toArray, List.set_cons_zero, List.set_cons_succ]; go_simp
   simp only [List.setIfInBounds_toArray, List.set_cons_zero, List.set_cons_succ]
   have kW : Kp (fun _ => False) wr (wr.drew.alloc (.cells #[.string m.name, .slice fa nF fc, .slice ra nR rc] 40)) := (Kp.ofBelow (Below.refl _ _).drew).below ((Below.refl _ _).alloc (Nat.le_refl _) (.cells #[.string m.name, .slice fa nF fc, .slice ra nR rc] 40))
   have HS5 : Hid (SO (wr.drew.alloc (.cells #[.string m.name, .slice fa nF fc, .slice ra nR rc] 40)) gs s vm ve vt pm pe) := HS4.out.kp kW (fun _ _ e => e)
   have h5 : Rf (wr.drew.alloc (.cells #[.string m.name, .slice fa nF fc, .slice ra nR rc] 40)) gp V ts (.inl n) := h4.kp kW (fun _ _ e => e)
   have K5 : Kp (fun k => k = gp) w (wr.drew.alloc (.cells #[.string m.name, .slice fa nF fc, .slice ra nR rc] 40)) := K4.trans2 kW (fun k hk e => e.elim)
   have HF5 := own_kpH HF4 kW (fun _ _ e => e)
   have HO5 := own_kpH HO4 kW (fun _ _ e => e)
   rw [HNF.out] at HF5
   rw [HNR.out] at HO5
   clear h4 HS4 BG BE BGd BEd BM4 K4
   obtain ⟨v6, w6, hrun, ho6, hg6, _, hat6⟩ := run_append_own_at (P := Tryz.prog) (wr.drew.alloc (.cells #[.string m.name, .slice fa nF fc, .slice ra nR rc] 40)) (gs + 1) 23 23 40 i0 _ 3 64 Tryz.underlying23 hi hz0 hz1 hz2 rfl (by decide) _ _ _ HS5.out.ms.own ⟨wr.drew.heap.size, 0, none⟩ 1 1 [.string m.name, .slice fa nF fc, .slice ra nR rc] rfl (cells_new _ #[.string m.name, .slice fa nF fc, .slice ra nR rc] _) (by intro u hu; simp at hu; rcases hu with rfl | rfl | rfl <;> rfl) (by unfold maxLen; omega) (by omega) (by have e : (wr.drew.alloc (.cells #[.string m.name, .slice fa nF fc, .slice ra nR rc] 40)).heap.size = wr.drew.heap.size + 1 := Array.size_push ..; rw [e]; omega)
   have k56 : Kp (fun k => vm.ownBlock = some k) (wr.drew.alloc (.cells #[.string m.name, .slice fa nF fc, .slice ra nR rc] 40)) w6 := (Kp.refl _ _).grown hg6 (fun k hk _ => hk)
   have hvb : ∀ k, vm.ownBlock = some k → gs + 1 ≤ k := fun k hk => (HS5.out.ms.own.lt k hk).1
   have h7 : Rf w6 gp V ts (.inl n) := h5.kp k56 (fun k hk e => by have := hvb k e; omega)
   have K7 : Kp (fun k => k = gp ∨ gs ≤ k) w w6 := (K5.weak (fun _ _ e => .inl e)).trans2 k56 (fun k hk e => .inr (by have := hvb k e; omega))
   have BM7 := HS5.out.bs.kp k56 (fun e => by have := hvb _ e; omega)
   obtain ⟨nA, hnA⟩ : ∃ n, s.msgs.length = n := ⟨_, rfl⟩
   have HNA : Hid (s.msgs.length = nA) := hnA
   rw [hnA] at ho6
   obtain ⟨va, vc, hvv⟩ := own_form ho6
   subst hvv
   have HSF : Hid (SO (w6.setCell ⟨gs, 1, none⟩ (.slice va (nA + 1) vc)) gs ⟨s.name, s.msgs ++ [m], s.enums, s.methods⟩ (.slice va (nA + 1) vc) ve vt (pm ++ [(.slice fa nF fc, .slice ra nR rc)]) pe) := HS5.out.msg (m := m) (H := M + 1) (fun i p k hp hk => by have := HH.out i p k hp hk; omega) (by omega) (by rw [HNF.out]; exact HF5.out) (by rw [HNR.out]; exact HO5.out) (by rw [HNA.out]; exact ho6) k56
   have mc' := BM7.cell 1
   have mf := BM7.froz 1
   simp only [List.getElem?_toArray, List.getElem?_cons_succ, List.getElem?_cons_zero] at mc'
   clear ho6 hg6 hat6 k56 hvb HS5 h5 K5 BM7 hnA kW
   refine rg_run 7 38 (.slice va (nA + 1) vc) (w6) rfl rfl (by kernel_rfl) (by rfl) (listed' := #[true, true, true, true, true, true, true, true, false, false, false]) (by kernel_rfl) ?_ trivial ?_
   ·exact append_run rfl rfl rfl hrun
   simp only [List.setIfInBounds_toArray, List.set_cons_zero, List.set_cons_succ]
   clear hrun
   refine rg_run 8 39 (.pointer (some ⟨gs, 0, none⟩)) (w6) rfl rfl (by kernel_rfl) (by rfl) (listed' := #[true, true, true, true, true, true, true, true, true, false, false]) (by kernel_rfl) ?_ trivial ?_
   ·go_simp
   simp only [List.setIfInBounds_toArray, List.set_cons_zero, List.set_cons_succ]
   refine rg_run 9 40 (.pointer (some ⟨gs, 1, none⟩)) (w6) rfl rfl (by kernel_rfl) (by rfl) (listed' := #[true, true, true, true, true, true, true, true, true, true, false]) (by kernel_rfl) ?_ trivial ?_
   ·go_simp
   simp only [List.setIfInBounds_toArray, List.set_cons_zero, List.set_cons_succ]
   refine rg_store 10 (w6.setCell ⟨gs, 1, none⟩ (.slice va (nA + 1) vc)) rfl rfl (by kernel_rfl) (by rfl) (listed' := #[true, true, true, true, true, true, true, true, true, true, true]) (by kernel_rfl) ?_ trivial ?_
   ·go_simp
   refine wpAnyH_done (by kernel_rfl) ?_ _
   have h9 : Rf (w6.setCell ⟨gs, 1, none⟩ (.slice va (nA + 1) vc)) gp V ts (.inl n) := h7.other hgs _
   have K9 : Kp (fun k => k = gp ∨ gs ≤ k) w (w6.setCell ⟨gs, 1, none⟩ (.slice va (nA + 1) vc)) := K7.setCell (fun _ => .inr (Nat.le_refl _)) _
   clear h7 K7 mc' mf
   go_wp2_with fail
   refine bodyPost_end (results_none' rfl _ _ _) rfl ?_
   exact ⟨rfl, ⟨s.name, s.msgs ++ [m], s.enums, s.methods⟩, _, _, _, _, _, HQ.out.2, by rw [HQ.out.1]; exact h9, HSF.out, K9, HBD.out m⟩
  ·have HE : Hid (stX (pOn (.inr rs) (pTake [kShut])) = .inr rs ∧ anyS [kShut] (headS (.inr rs)) = false) := ⟨e1, e2⟩
   have HZ2 : Hid (∀ m' : MsS, Res (pMember m rs) m' → Z = pOn (stX (pMember m rs)) fun r => pMembers (r.length + 1) m' r) := by
    intro v hv
    rw [HZ.out]
    exact members_step hns hv
   have HW : Hid (weigh (stX (pMember m rs)) < msrf gp ts.length wr) := by show _ < _; rw [hms]; exact weigh_lt (member_lt m rs) (member_in m rs)
   clear HZ e1 e2 hms hns
   simp only [badS] at hc2
   go_wp2_with fail
   refine (ris_any kShut hr (by decide +kernel)).mono ?_
   rintro e w3 ⟨rfl, h4, k4⟩
   rw [HE.out.1] at h4
   rw [HE.out.2]
   have BM4 := BM.kp k4 (by omega)
   have K4 := KR.trans k4
   have HO4 := own_kpH HO k4 (fun k hk => by omega)
   have HF4 := own_kpH HF k4 (fun k hk => by omega)
   clear hr KR HO HF BM k4 HE hc2
   go_wp2_with fail
   refine (rmember_any h4 hgM BM4 HF4.out HO4.out HB.out.1 HB.out.2).mono ?_
   rintro e w4 ⟨rfl, m', vf', vr', rm, h5, BM5, hf5, ho5, k5, b5, b6⟩
   have K5 : Kp (fun k => k = gp) w w4 := K4.trans2 k5 (fun k hk e => by omega)
   have HZ3 : Hid (Z = pOn (stX (pMember m rs)) fun r => pMembers (r.length + 1) m' r) := HZ2.out m' rm
   have HB5 : Hid (Bd ts.length (stX (pMember m rs)) m'.fields.length ∧ Bd ts.length (stX (pMember m rs)) m'.reserved.length) := ⟨b5, b6⟩
   have HF5 : Hid (w4.ownsRow (M + 1) 90 5 vf' m'.fields.length (flRows m'.fields).flatten) := hf5
   have HO5 : Hid (w4.ownsRow (M + 1) 3 1 vr' m'.reserved.length (inRows m'.reserved).flatten) := ho5
   have HM : Hid (msrf gp ts.length w4 < msrf gp ts.length wr) := by
    show _ < _
    rw [msr_rf h5]; exact HW.out
   clear h4 K4 BM4 HF4 HO4 HB HZ2 rm b5 b6 hf5 ho5 HW k5
   generalize stX (pMember m rs) = σ4 at *
   go_wp2_with fail
   go_roundw
   case rel => exact ⟨m', vf', vr', σ4, HZ3, HF5, HO5, h5, K5, HB5, BM5⟩
   case measure => exact HM.out
theorem take_no {k t : ByteArray} {r : List ByteArray} (h : anyS [k] t = false) : pOn (.inr (t :: r)) (pTake [k]) = .inr (noT, t :: r) := by
 show (if anyS [k] t = true then _ else _) = _
 rw [h]; rfl
set_option maxHeartbeats 8000000 in
theorem rdecl_enum {w : World} {gp gs : Nat} {V : Value} {ts : List Tk} {t : ByteArray} {r : List ByteArray} {s : ScS} {vm ve vt : Value} {pm : List (Value × Value)} {pe : List Value} (h : Rf w gp V ts (.inr (t :: r))) (ht : t.data.toList = kEnum.data.toList) (hgs : gp < gs) (hS : SO w gs s vm ve vt pm pe) (hB : Bd3 ts.length (.inr (t :: r)) s) :
  Calls Tryz.prog 39 #[.pointer (some ⟨gp, 0, none⟩), .pointer (some ⟨gs, 0, none⟩)] w fun e w' => e = .returned (.tuple #[]) ∧ DeclQ w gp gs V ts s (t :: r) w' := by
 obtain ⟨i0, hi, hz0, hz1, hz2⟩ := info_parts infoE
 obtain ⟨iN, hiN, hzN0, hzN1, hzN2⟩ := info_parts infoN
 have hfew := h.few
 obtain ⟨Z, hZ⟩ : ∃ Z, pEnum r = Z := ⟨_, rfl⟩
 have HZ0 : Hid (Z = pOn (stX (pOn (stX (pOn (.inr r) pName)) (pMust kOpen))) fun r' => pValues (r'.length + 1) ⟨res noT (pOn (.inr r) pName), []⟩ r') := by
  show Z = _
  rw [← hZ]; exact enu_st (.inr r)
 have HD : Hid (∀ m, Res Z m → stX (pDecl s (t :: r)) = stX Z ∧ Res (pDecl s (t :: r)) ⟨s.name, s.msgs, s.enums ++ [m], s.methods⟩) := fun m hm => by
  rw [← hZ] at hm ⊢
  exact decl_enum ht hm
 have HBD : Hid (∀ m, Bd3 ts.length (stX (pDecl s (t :: r))) ⟨s.name, s.msgs, s.enums ++ [m], s.methods⟩) := fun m => ⟨hB.1.keep (decl_lt s (t :: r)).le, by show Bd _ _ (s.enums ++ [m]).length; rw [List.length_append]; exact hB.2.1.step (decl_lt s (t :: r)), hB.2.2.keep (decl_lt s (t :: r)).le⟩
 have hlenM : s.enums.length ≤ 100000 := by have := hB.2.1.2 _ rfl; omega
 have e0 : anyS [kMessage] t = false := by rw [any_one, ht]; decide +kernel
 have e1 : anyS [kEnum] t = true := by rw [any_one, ht]; decide +kernel
 have HE0 : Hid (stX (pOn (.inr (t :: r)) (pTake [kMessage])) = .inr (t :: r) ∧ anyS [kMessage] (headS (.inr (t :: r))) = false) := ⟨by rw [take_no e0]; rfl, e0⟩
 have HE : Hid (stX (pOn (.inr (t :: r)) (pTake [kEnum])) = .inr r ∧ anyS [kEnum] (headS (.inr (t :: r))) = true) := ⟨by rw [any1_take _ _ _ e1]; rfl, e1⟩
 have HSO : Hid (SO w gs s vm ve vt pm pe) := hS
 have hgw : gs < w.heap.size := hS.bs.lt
 clear hZ hB e0 e1 ht hS
 go_enter Tryz.func39, Tryz.ntmps39
 go_wp2_with fail
 refine (ris_any kMessage h (by decide +kernel)).mono ?_
 rintro e w0 ⟨rfl, h0, K0⟩
 rw [HE0.out.1] at h0
 rw [HE0.out.2]
 clear h HE0
 go_wp2_with fail
 refine (ris_any kEnum h0 (by decide +kernel)).mono ?_
 rintro e w1 ⟨rfl, h1, k1⟩
 rw [HE.out.1] at h1
 rw [HE.out.2]
 have K1 := K0.trans k1
 clear h0 K0 k1 HE
 go_wp2_with fail
 refine (pname_any h1).mono ?_
 rintro e w2 ⟨rfl, h2, k2⟩
 have K2 := K1.trans k2
 clear h1 K1 k2
 generalize res noT (pOn (.inr r) pName) = x1 at *
 generalize stX (pOn (.inr r) pName) = σ2 at *
 have BM := Blk.new w2 #[.string x1, .slice none 0 0] 44
 have h3 := h2.alloc (.cells #[.string x1, .slice none 0 0] 44)
 have K3 := K2.alloc (.cells #[.string x1, .slice none 0 0] 44)
 have hgM : gp < w2.heap.size := h2.lt
 have hwM : w.heap.size ≤ w2.heap.size := K2.size
 clear h2 K2
 go_wp2_with fail
 refine (rmust_any kOpen h3 (by decide +kernel)).mono ?_
 rintro e w3 ⟨rfl, h4, k4⟩
 generalize w2.heap.size = M at *
 have BM4 := BM.kp k4 (by omega)
 have K4 := K3.trans k4
 clear h3 k4 BM K3
 generalize stX (pOn σ2 (pMust kOpen)) = σ3 at *
 go_wp2_with fail
 go_loopw [49] (fun _ wr => ∃ (m : EnS) (vv : Value) (σ1 : Sg), Hid (Z = pOn σ1 fun r => pValues (r.length + 1) m r) ∧ Hid (wr.ownsRow (M + 1) 96 2 vv m.values.length (nmRows m.values).flatten) ∧ Rf wr gp V ts σ1 ∧ Kp (fun k => k = gp) w wr ∧ Hid (Bd ts.length σ1 m.values.length) ∧ Blk wr M #[.string m.name, vv] 44) (fun _ wr => msrf gp ts.length wr)
 case atStart =>
  have hb : Bd ts.length σ3 0 := ⟨by simp, fun r hr => by have := h4.left; rw [hr] at this; simp only [leftS] at this; simpa using this⟩
  exact ⟨⟨x1, []⟩, _, σ3, HZ0, World.ownsRow_nil _ _ _ _, h4, K4, hb, BM4⟩
 case round =>
  obtain ⟨m, vv, σ, HZ, HF, hr, KR, HB, BM⟩ := hrel
  clear HZ0 h4 K4 BM4
  have hms := msr_rf hr
  have hc2 := bad_cell hr
  rcases shut3 σ with ⟨t', r', rfl, ht', e1, e2⟩ | ⟨n, rfl⟩ | ⟨rs, rfl, hns, e1, e2⟩
  ·have eZ : Z = .inr (m, r') := by rw [HZ.out]; exact values_shut ht'
   subst eZ
   have HE : Hid (stX (pOn (.inr (t' :: r')) (pTake [kShut])) = .inr r' ∧ anyS [kShut] (headS (.inr (t' :: r'))) = true) := ⟨e1, e2⟩
   obtain ⟨q1, q2⟩ := HD.out m Res.yes
   simp only [stX] at q1
   have HQ : Hid (stX (pDecl s (t :: r)) = .inr r' ∧ Res (pDecl s (t :: r)) ⟨s.name, s.msgs, s.enums ++ [m], s.methods⟩) := ⟨q1, q2⟩
   clear HZ e1 e2 hms HB ht' q1 q2 HD
   simp only [badS] at hc2
   go_wp2_with fail
   refine (ris_any kShut hr (by decide +kernel)).mono ?_
   rintro e w3 ⟨rfl, h4, k4⟩
   rw [HE.out.1] at h4
   rw [HE.out.2]
   have BM4 := BM.kp k4 (by omega)
   have K4 := KR.trans k4
   have HF4 := own_kpH HF k4 (fun k hk => by omega)
   clear hr KR HF BM k4 HE hc2
   obtain ⟨fa, fc, hvv⟩ := own_form HF4.out
   subst hvv
   obtain ⟨nF, hnF⟩ : ∃ n, m.values.length = n := ⟨_, rfl⟩
   have HNF : Hid (m.values.length = nF) := hnF
   rw [hnF] at BM4
   clear hnF
   go_wp2_with fail
   have HS4 : Hid (SO w3 gs s vm ve vt pm pe) := HSO.out.kp K4 (fun k hk => by omega)
   have BG := HS4.out.bs
   have BE := BM4
   have hM6 : gs + 1 ≤ w3.drew.heap.size := by have := K4.size; show gs + 1 ≤ w3.heap.size; omega
   refine wp_region_held_drew (S := fun _ => True) (by kernel_rfl) trivial (fun hS => ?_)
   refine rg_take 0 75 (.pointer (some ⟨gs, 0, none⟩)) _ rfl rfl (by kernel_rfl) (by kernel_rfl) (by kernel_rfl) (fun _ _ _ h => h) (by rfl) (fun w' hw' => ?_) trivial (listed' := #[true, false, false, false, false, false, false, false, false, false, false]) (by kernel_rfl) rfl ?_
   ·go_simp
   simp only [List.setIfInBounds_toArray, List.set_cons_zero, List.set_cons_succ]
   refine rg_take 1 76 (.pointer (some ⟨gs, 0, none⟩)) _ rfl rfl (by kernel_rfl) (by kernel_rfl) (by kernel_rfl) (fun _ _ _ h => h) (by rfl) (fun w' hw' => ?_) trivial (listed' := #[true, true, false, false, false, false, false, false, false, false, false]) (by kernel_rfl) rfl ?_
   ·go_simp
   simp only [List.setIfInBounds_toArray, List.set_cons_zero, List.set_cons_succ]
   refine rg_take 2 77 (.pointer (some ⟨gs, 0, none⟩)) _ rfl rfl (by kernel_rfl) (by kernel_rfl) (by kernel_rfl) (fun _ _ _ h => h) (by rfl) (fun w' hw' => ?_) trivial (listed' := #[true, true, true, false, false, false, false, false, false, false, false]) (by kernel_rfl) rfl ?_
   ·go_simp
   simp only [List.setIfInBounds_toArray, List.set_cons_zero, List.set_cons_succ]
   refine rg_take 3 78 (.pointer (some ⟨gs, 2, none⟩)) _ rfl rfl (by kernel_rfl) (by kernel_rfl) (by kernel_rfl) (fun _ _ _ h => h) (by rfl) (fun w' hw' => ?_) trivial (listed' := #[true, true, true, true, false, false, false, false, false, false, false]) (by kernel_rfl) rfl ?_
   ·go_simp
   simp only [List.setIfInBounds_toArray, List.set_cons_zero, List.set_cons_succ]
   have BGd := BG.below (Below.refl _ _).drew
   have BEd := BE.below (Below.refl _ _).drew
   refine rg_llb 4 5 6 79 80 81 ve (.agg #[.string m.name, .slice fa nF fc]) (.slice (some ⟨w3.drew.heap.size, 0, none⟩) 1 1) (w3.drew.alloc (.cells #[.string m.name, .slice fa nF fc] 44)) rfl rfl rfl rfl rfl rfl (by kernel_rfl) (by kernel_rfl) (by kernel_rfl) (by kernel_rfl) (by kernel_rfl) (fun _ => rfl) (fun _ => rfl) (fun _ => rfl) (by decide) (by decide) (by decide) (by decide) ?g0 ?g1 ?g2 ?g3 ?g4 ?g5 ?g6 ?_
   case g0 => have hg0 := (BGd.cell 2).trans rfl; go_simp
   case g1 => have hg0 := (BGd.cell 2).trans rfl; simp only [List.setIfInBounds_toArray, List.set_cons_zero, List.set_cons_succ]; go_simp
   case g2 => have hg0 : (w3.alloc (.cells #[.string m.name, .slice fa nF fc] 44)).cell? ⟨gs, 2, none⟩ = some (ve) := ((BG.below ((Below.refl _ _).alloc (Nat.le_refl _) (.cells #[.string m.name, .slice fa nF fc] 44))).cell 2).trans rfl; simp only [List.setIfInBounds_toArray, List.set_cons_zero, List.set_cons_succ]; go_simp
   case g3 => have he0 := (BEd.cell 0).trans rfl; have he1 := (BEd.cell 1).trans rfl; go_simp
   case g4 => have he0 := (BEd.cell 0).trans rfl; have he1 := (BEd.cell 1).trans rfl; simp only [List.setIfInBounds_toArray, List.set_cons_zero, List.set_cons_succ]; go_simp
   case g5 => simp only [List.setIfInBounds_toArray, List.set_cons_zero, List.set_cons_succ]; go_simp
   case g6 => simp only [List.setIfInBounds_toArray, List.set_cons_zero, List.set_cons_succ]; go_simp
   simp only [List.setIfInBounds_toArray, List.set_cons_zero, List.set_cons_succ]
   have kW : Kp (fun _ => False) w3 (w3.drew.alloc (.cells #[.string m.name, .slice fa nF fc] 44)) := (Kp.ofBelow (Below.refl _ _).drew).below ((Below.refl _ _).alloc (Nat.le_refl _) (.cells #[.string m.name, .slice fa nF fc] 44))
   have HS5 : Hid (SO (w3.drew.alloc (.cells #[.string m.name, .slice fa nF fc] 44)) gs s vm ve vt pm pe) := HS4.out.kp kW (fun _ _ e => e)
   have h5 : Rf (w3.drew.alloc (.cells #[.string m.name, .slice fa nF fc] 44)) gp V ts (.inr r') := h4.kp kW (fun _ _ e => e)
   have K5 : Kp (fun k => k = gp) w (w3.drew.alloc (.cells #[.string m.name, .slice fa nF fc] 44)) := K4.trans2 kW (fun k hk e => e.elim)
   have HF5 := own_kpH HF4 kW (fun _ _ e => e)
   rw [HNF.out] at HF5
   clear h4 HS4 BG BE BGd BEd BM4 K4
   obtain ⟨v6, w6, hrun, ho6, hg6, _, hat6⟩ := run_append_own_at (P := Tryz.prog) (w3.drew.alloc (.cells #[.string m.name, .slice fa nF fc] 44)) (gs + 1) 24 24 44 i0 _ 2 40 Tryz.underlying24 hi hz0 hz1 hz2 rfl (by decide) _ _ _ HS5.out.en.own ⟨w3.drew.heap.size, 0, none⟩ 1 1 [.string m.name, .slice fa nF fc] rfl (cells_new _ #[.string m.name, .slice fa nF fc] _) (by intro u hu; simp at hu; rcases hu with rfl | rfl <;> rfl) (by unfold maxLen; omega) (by omega) (by have e : (w3.drew.alloc (.cells #[.string m.name, .slice fa nF fc] 44)).heap.size = w3.drew.heap.size + 1 := Array.size_push ..; rw [e]; omega)
   have k56 : Kp (fun k => ve.ownBlock = some k) (w3.drew.alloc (.cells #[.string m.name, .slice fa nF fc] 44)) w6 := (Kp.refl _ _).grown hg6 (fun k hk _ => hk)
   have hvb : ∀ k, ve.ownBlock = some k → gs + 1 ≤ k := fun k hk => (HS5.out.en.own.lt k hk).1
   have h7 : Rf w6 gp V ts (.inr r') := h5.kp k56 (fun k hk e => by have := hvb k e; omega)
   have K7 : Kp (fun k => k = gp ∨ gs ≤ k) w w6 := (K5.weak (fun _ _ e => .inl e)).trans2 k56 (fun k hk e => .inr (by have := hvb k e; omega))
   have BM7 := HS5.out.bs.kp k56 (fun e => by have := hvb _ e; omega)
   obtain ⟨nA, hnA⟩ : ∃ n, s.enums.length = n := ⟨_, rfl⟩
   have HNA : Hid (s.enums.length = nA) := hnA
   rw [hnA] at ho6
   obtain ⟨va, vc, hvv⟩ := own_form ho6
   subst hvv
   have HSF : Hid (SO (w6.setCell ⟨gs, 2, none⟩ (.slice va (nA + 1) vc)) gs ⟨s.name, s.msgs, s.enums ++ [m], s.methods⟩ vm (.slice va (nA + 1) vc) vt pm (pe ++ [.slice fa nF fc])) := HS5.out.enu (m := m) (H := M + 1) (by omega) (by rw [HNF.out]; exact HF5.out) (by rw [HNA.out]; exact ho6) k56
   have mc' := BM7.cell 2
   have mf := BM7.froz 2
   simp only [List.getElem?_toArray, List.getElem?_cons_succ, List.getElem?_cons_zero] at mc'
   clear ho6 hg6 hat6 k56 hvb HS5 h5 K5 BM7 hnA kW
   refine rg_run 7 82 (.slice va (nA + 1) vc) (w6) rfl rfl (by kernel_rfl) (by rfl) (listed' := #[true, true, true, true, true, true, true, true, false, false, false]) (by kernel_rfl) ?_ trivial ?_
   ·exact append_run rfl rfl rfl hrun
   simp only [List.setIfInBounds_toArray, List.set_cons_zero, List.set_cons_succ]
   clear hrun
   refine rg_run 8 83 (.pointer (some ⟨gs, 0, none⟩)) (w6) rfl rfl (by kernel_rfl) (by rfl) (listed' := #[true, true, true, true, true, true, true, true, true, false, false]) (by kernel_rfl) ?_ trivial ?_
   ·go_simp
   simp only [List.setIfInBounds_toArray, List.set_cons_zero, List.set_cons_succ]
   refine rg_run 9 84 (.pointer (some ⟨gs, 2, none⟩)) (w6) rfl rfl (by kernel_rfl) (by rfl) (listed' := #[true, true, true, true, true, true, true, true, true, true, false]) (by kernel_rfl) ?_ trivial ?_
   ·go_simp
   simp only [List.setIfInBounds_toArray, List.set_cons_zero, List.set_cons_succ]
   refine rg_store 10 (w6.setCell ⟨gs, 2, none⟩ (.slice va (nA + 1) vc)) rfl rfl (by kernel_rfl) (by rfl) (listed' := #[true, true, true, true, true, true, true, true, true, true, true]) (by kernel_rfl) ?_ trivial ?_
   ·go_simp
   refine wpAnyH_done (by kernel_rfl) ?_ _
   have h9 : Rf (w6.setCell ⟨gs, 2, none⟩ (.slice va (nA + 1) vc)) gp V ts (.inr r') := h7.other hgs _
   have K9 : Kp (fun k => k = gp ∨ gs ≤ k) w (w6.setCell ⟨gs, 2, none⟩ (.slice va (nA + 1) vc)) := K7.setCell (fun _ => .inr (Nat.le_refl _)) _
   clear h7 K7 mc' mf
   go_wp2_with fail
   refine bodyPost_end (results_none' rfl _ _ _) rfl ?_
   exact ⟨rfl, ⟨s.name, s.msgs, s.enums ++ [m], s.methods⟩, _, _, _, _, _, HQ.out.2, by rw [HQ.out.1]; exact h9, HSF.out, K9, HBD.out m⟩
  ·have eZ : Z = .inl n := by rw [HZ.out]; rfl
   subst eZ
   obtain ⟨q1, q2⟩ := HD.out m Res.no
   simp only [stX] at q1
   have HQ : Hid (stX (pDecl s (t :: r)) = .inl n ∧ Res (pDecl s (t :: r)) ⟨s.name, s.msgs, s.enums ++ [m], s.methods⟩) := ⟨q1, q2⟩
   clear HZ hms HB q1 q2 HD
   simp only [badS] at hc2
   have h4 := hr
   have K4 := KR
   have BM4 := BM
   have HF4 := HF
   clear hr KR HF BM
   obtain ⟨fa, fc, hvv⟩ := own_form HF4.out
   subst hvv
   obtain ⟨nF, hnF⟩ : ∃ n, m.values.length = n := ⟨_, rfl⟩
   have HNF : Hid (m.values.length = nF) := hnF
   rw [hnF] at BM4
   clear hnF
   go_wp2_with fail
   clear hc2
   have HS4 : Hid (SO wr gs s vm ve vt pm pe) := HSO.out.kp K4 (fun k hk => by omega)
   have BG := HS4.out.bs
   have BE := BM4
   have hM6 : gs + 1 ≤ wr.drew.heap.size := by have := K4.size; show gs + 1 ≤ wr.heap.size; omega
   refine wp_region_held_drew (S := fun _ => True) (by kernel_rfl) trivial (fun hS => ?_)
   refine rg_take 0 75 (.pointer (some ⟨gs, 0, none⟩)) _ rfl rfl (by kernel_rfl) (by kernel_rfl) (by kernel_rfl) (fun _ _ _ h => h) (by rfl) (fun w' hw' => ?_) trivial (listed' := #[true, false, false, false, false, false, false, false, false, false, false]) (by kernel_rfl) rfl ?_
   ·go_simp
   simp only [List.setIfInBounds_toArray, List.set_cons_zero, List.set_cons_succ]
   refine rg_take 1 76 (.pointer (some ⟨gs, 0, none⟩)) _ rfl rfl (by kernel_rfl) (by kernel_rfl) (by kernel_rfl) (fun _ _ _ h => h) (by rfl) (fun w' hw' => ?_) trivial (listed' := #[true, true, false, false, false, false, false, false, false, false, false]) (by kernel_rfl) rfl ?_
   ·go_simp
   simp only [List.setIfInBounds_toArray, List.set_cons_zero, List.set_cons_succ]
   refine rg_take 2 77 (.pointer (some ⟨gs, 0, none⟩)) _ rfl rfl (by kernel_rfl) (by kernel_rfl) (by kernel_rfl) (fun _ _ _ h => h) (by rfl) (fun w' hw' => ?_) trivial (listed' := #[true, true, true, false, false, false, false, false, false, false, false]) (by kernel_rfl) rfl ?_
   ·go_simp
   simp only [List.setIfInBounds_toArray, List.set_cons_zero, List.set_cons_succ]
   refine rg_take 3 78 (.pointer (some ⟨gs, 2, none⟩)) _ rfl rfl (by kernel_rfl) (by kernel_rfl) (by kernel_rfl) (fun _ _ _ h => h) (by rfl) (fun w' hw' => ?_) trivial (listed' := #[true, true, true, true, false, false, false, false, false, false, false]) (by kernel_rfl) rfl ?_
   ·go_simp
   simp only [List.setIfInBounds_toArray, List.set_cons_zero, List.set_cons_succ]
   have BGd := BG.below (Below.refl _ _).drew
   have BEd := BE.below (Below.refl _ _).drew
   refine rg_llb 4 5 6 79 80 81 ve (.agg #[.string m.name, .slice fa nF fc]) (.slice (some ⟨wr.drew.heap.size, 0, none⟩) 1 1) (wr.drew.alloc (.cells #[.string m.name, .slice fa nF fc] 44)) rfl rfl rfl rfl rfl rfl (by kernel_rfl) (by kernel_rfl) (by kernel_rfl) (by kernel_rfl) (by kernel_rfl) (fun _ => rfl) (fun _ => rfl) (fun _ => rfl) (by decide) (by decide) (by decide) (by decide) ?g0 ?g1 ?g2 ?g3 ?g4 ?g5 ?g6 ?_
   case g0 => have hg0 := (BGd.cell 2).trans rfl; go_simp
   case g1 => have hg0 := (BGd.cell 2).trans rfl; simp only [List.setIfInBounds_toArray, List.set_cons_zero, List.set_cons_succ]; go_simp
   case g2 => have hg0 : (wr.alloc (.cells #[.string m.name, .slice fa nF fc] 44)).cell? ⟨gs, 2, none⟩ = some (ve) := ((BG.below ((Below.refl _ _).alloc (Nat.le_refl _) (.cells #[.string m.name, .slice fa nF fc] 44))).cell 2).trans rfl; simp only [List.setIfInBounds_toArray, List.set_cons_zero, List.set_cons_succ]; go_simp
   case g3 => have he0 := (BEd.cell 0).trans rfl; have he1 := (BEd.cell 1).trans rfl; go_simp
   case g4 => have he0 := (BEd.cell 0).trans rfl; have he1 := (BEd.cell 1).trans rfl; simp only [List.setIfInBounds_toArray, List.set_cons_zero, List.set_cons_succ]; go_simp
   case g5 => simp only [List.setIfInBounds_toArray, List.set_cons_zero, List.set_cons_succ]; go_simp
   case g6 => simp only [List.setIfInBounds_toArray, List.set_cons_zero, List.set_cons_succ]; go_simp
   simp only [List.setIfInBounds_toArray, List.set_cons_zero, List.set_cons_succ]
   have kW : Kp (fun _ => False) wr (wr.drew.alloc (.cells #[.string m.name, .slice fa nF fc] 44)) := (Kp.ofBelow (Below.refl _ _).drew).below ((Below.refl _ _).alloc (Nat.le_refl _) (.cells #[.string m.name, .slice fa nF fc] 44))
   have HS5 : Hid (SO (wr.drew.alloc (.cells #[.string m.name, .slice fa nF fc] 44)) gs s vm ve vt pm pe) := HS4.out.kp kW (fun _ _ e => e)
   have h5 : Rf (wr.drew.alloc (.cells #[.string m.name, .slice fa nF fc] 44)) gp V ts (.inl n) := h4.kp kW (fun _ _ e => e)
   have K5 : Kp (fun k => k = gp) w (wr.drew.alloc (.cells #[.string m.name, .slice fa nF fc] 44)) := K4.trans2 kW (fun k hk e => e.elim)
   have HF5 := own_kpH HF4 kW (fun _ _ e => e)
   rw [HNF.out] at HF5
   clear h4 HS4 BG BE BGd BEd BM4 K4
   obtain ⟨v6, w6, hrun, ho6, hg6, _, hat6⟩ := run_append_own_at (P := Tryz.prog) (wr.drew.alloc (.cells #[.string m.name, .slice fa nF fc] 44)) (gs + 1) 24 24 44 i0 _ 2 40 Tryz.underlying24 hi hz0 hz1 hz2 rfl (by decide) _ _ _ HS5.out.en.own ⟨wr.drew.heap.size, 0, none⟩ 1 1 [.string m.name, .slice fa nF fc] rfl (cells_new _ #[.string m.name, .slice fa nF fc] _) (by intro u hu; simp at hu; rcases hu with rfl | rfl <;> rfl) (by unfold maxLen; omega) (by omega) (by have e : (wr.drew.alloc (.cells #[.string m.name, .slice fa nF fc] 44)).heap.size = wr.drew.heap.size + 1 := Array.size_push ..; rw [e]; omega)
   have k56 : Kp (fun k => ve.ownBlock = some k) (wr.drew.alloc (.cells #[.string m.name, .slice fa nF fc] 44)) w6 := (Kp.refl _ _).grown hg6 (fun k hk _ => hk)
   have hvb : ∀ k, ve.ownBlock = some k → gs + 1 ≤ k := fun k hk => (HS5.out.en.own.lt k hk).1
   have h7 : Rf w6 gp V ts (.inl n) := h5.kp k56 (fun k hk e => by have := hvb k e; omega)
   have K7 : Kp (fun k => k = gp ∨ gs ≤ k) w w6 := (K5.weak (fun _ _ e => .inl e)).trans2 k56 (fun k hk e => .inr (by have := hvb k e; omega))
   have BM7 := HS5.out.bs.kp k56 (fun e => by have := hvb _ e; omega)
   obtain ⟨nA, hnA⟩ : ∃ n, s.enums.length = n := ⟨_, rfl⟩
   have HNA : Hid (s.enums.length = nA) := hnA
   rw [hnA] at ho6
   obtain ⟨va, vc, hvv⟩ := own_form ho6
   subst hvv
   have HSF : Hid (SO (w6.setCell ⟨gs, 2, none⟩ (.slice va (nA + 1) vc)) gs ⟨s.name, s.msgs, s.enums ++ [m], s.methods⟩ vm (.slice va (nA + 1) vc) vt pm (pe ++ [.slice fa nF fc])) := HS5.out.enu (m := m) (H := M + 1) (by omega) (by rw [HNF.out]; exact HF5.out) (by rw [HNA.out]; exact ho6) k56
   have mc' := BM7.cell 2
   have mf := BM7.froz 2
   simp only [List.getElem?_toArray, List.getElem?_cons_succ, List.getElem?_cons_zero] at mc'
   clear ho6 hg6 hat6 k56 hvb HS5 h5 K5 BM7 hnA kW
   refine rg_run 7 82 (.slice va (nA + 1) vc) (w6) rfl rfl (by kernel_rfl) (by rfl) (listed' := #[true, true, true, true, true, true, true, true, false, false, false]) (by kernel_rfl) ?_ trivial ?_
   ·exact append_run rfl rfl rfl hrun
   simp only [List.setIfInBounds_toArray, List.set_cons_zero, List.set_cons_succ]
   clear hrun
   refine rg_run 8 83 (.pointer (some ⟨gs, 0, none⟩)) (w6) rfl rfl (by kernel_rfl) (by rfl) (listed' := #[true, true, true, true, true, true, true, true, true, false, false]) (by kernel_rfl) ?_ trivial ?_
   ·go_simp
   simp only [List.setIfInBounds_toArray, List.set_cons_zero, List.set_cons_succ]
   refine rg_run 9 84 (.pointer (some ⟨gs, 2, none⟩)) (w6) rfl rfl (by kernel_rfl) (by rfl) (listed' := #[true, true, true, true, true, true, true, true, true, true, false]) (by kernel_rfl) ?_ trivial ?_
   ·go_simp
   simp only [List.setIfInBounds_toArray, List.set_cons_zero, List.set_cons_succ]
   refine rg_store 10 (w6.setCell ⟨gs, 2, none⟩ (.slice va (nA + 1) vc)) rfl rfl (by kernel_rfl) (by rfl) (listed' := #[true, true, true, true, true, true, true, true, true, true, true]) (by kernel_rfl) ?_ trivial ?_
   ·go_simp
   refine wpAnyH_done (by kernel_rfl) ?_ _
   have h9 : Rf (w6.setCell ⟨gs, 2, none⟩ (.slice va (nA + 1) vc)) gp V ts (.inl n) := h7.other hgs _
   have K9 : Kp (fun k => k = gp ∨ gs ≤ k) w (w6.setCell ⟨gs, 2, none⟩ (.slice va (nA + 1) vc)) := K7.setCell (fun _ => .inr (Nat.le_refl _)) _
   clear h7 K7 mc' mf
   go_wp2_with fail
   refine bodyPost_end (results_none' rfl _ _ _) rfl ?_
   exact ⟨rfl, ⟨s.name, s.msgs, s.enums ++ [m], s.methods⟩, _, _, _, _, _, HQ.out.2, by rw [HQ.out.1]; exact h9, HSF.out, K9, HBD.out m⟩
  ·have HE : Hid (stX (pOn (.inr rs) (pTake [kShut])) = .inr rs ∧ anyS [kShut] (headS (.inr rs)) = false) := ⟨e1, e2⟩
   have HZ2 : Hid (∀ v : NmS, Res (pValue rs) v → Z = pOn (stX (pValue rs)) fun r => pValues (r.length + 1) ⟨m.name, m.values ++ [v]⟩ r) := by
    intro v hv
    rw [HZ.out]
    exact values_step hns hv
   have HB2 : Hid (Bd ts.length (stX (pValue rs)) (m.values.length + 1)) := HB.out.step (value_lt rs)
   have hlen : m.values.length ≤ 100000 := by have := HB.out.2 rs rfl; omega
   have HW : Hid (weigh (stX (pValue rs)) < msrf gp ts.length wr) := by show _ < _; rw [hms]; exact weigh_lt (value_lt rs) (value_in rs)
   have HV : Hid (stX (pOn (stX (pOn (stX (pOn (stX (pOn (.inr rs) pName)) (pMust kEq))) pNum)) (pMust kSemi)) = stX (pValue rs) ∧ Res (pValue rs) ⟨res noT (pOn (.inr rs) pName), (res 0 (pOn (stX (pOn (stX (pOn (.inr rs) pName)) (pMust kEq))) pNum) : Nat)⟩) := value_st (.inr rs)
   clear HZ e1 e2 hms hns HB
   simp only [badS] at hc2
   go_wp2_with fail
   refine (ris_any kShut hr (by decide +kernel)).mono ?_
   rintro e w3 ⟨rfl, h4, k4⟩
   rw [HE.out.1] at h4
   rw [HE.out.2]
   have BM4 := BM.kp k4 (by omega)
   have K4 := KR.trans k4
   have HF4 := own_kpH HF k4 (fun k hk => by omega)
   clear hr KR HF BM k4 HE hc2
   go_wp2_with fail
   refine (pname_any h4).mono ?_
   rintro e w4 ⟨rfl, h5, k5⟩
   have BM5 := BM4.kp k5 (by omega)
   have K5 := K4.trans k5
   have HF5 := own_kpH HF4 k5 (fun k hk => by omega)
   clear h4 k5 BM4 K4 HF4
   generalize res noT (pOn (.inr rs) pName) = y1 at *
   generalize stX (pOn (.inr rs) pName) = σ4 at *
   have BN := Blk.new w4 #[.string y1, .int .i64 0] 96
   have kN : Kp (fun k => k = gp) w4 (w4.alloc (.cells #[.string y1, .int .i64 0] 96)) := (Kp.refl _ _).alloc _
   have h6 := h5.alloc (.cells #[.string y1, .int .i64 0] 96)
   have K6 := K5.trans kN
   have BM6 := BM5.kp kN (by omega)
   have HF6 := own_kpH HF5 kN (fun k hk => by omega)
   have hMN : M + 1 ≤ w4.heap.size := BM5.lt
   have HVB : Hid (∀ k, vv.ownBlock = some k → k < w4.heap.size) := fun k hk => (HF5.out.lt k hk).2
   have hwN : w.heap.size ≤ w4.heap.size := K5.size
   clear h5 K5 BM5 HF5 kN
   go_wp2_with fail
   refine (rmust_any kEq h6 (by decide +kernel)).mono ?_
   rintro e w5 ⟨rfl, h7, k7⟩
   generalize w4.heap.size = N at *
   have BN7 := BN.kp k7 (by omega)
   have BM7 := BM6.kp k7 (by omega)
   have K7 := K6.trans k7
   have HF7 := own_kpH HF6 k7 (fun k hk => by omega)
   clear h6 k7 BN BM6 K6 HF6
   generalize stX (pOn σ4 (pMust kEq)) = σ5 at *
   go_wp2_with fail
   refine (pnumber_any h7).mono ?_
   rintro e w6 ⟨rfl, h8, k8⟩
   have BN8 := BN7.kp k8 (by omega)
   have BM8 := BM7.kp k8 (by omega)
   have K8 := K7.trans k8
   have HF8 := own_kpH HF7 k8 (fun k hk => by omega)
   clear h7 k8 BN7 BM7 K7 HF7
   generalize (res 0 (pOn σ5 pNum) : Nat) = y2 at *
   generalize stX (pOn σ5 pNum) = σ6 at *
   have s0 := BN8.cell 1
   have f0 := BN8.froz 1
   simp only [List.getElem?_toArray, List.getElem?_cons_succ, List.getElem?_cons_zero] at s0
   have kS : Kp (fun k => k = N) w6 (w6.setCell ⟨N, 1, none⟩ (.int .i64 (y2 : Int))) := gs_kp w6 N 1 _
   have BN9 := BN8.set 1 (.int .i64 (y2 : Int)) rfl
   simp only [List.setIfInBounds_toArray, List.set_cons_zero, List.set_cons_succ] at BN9
   have BM9 := BM8.kp kS (by omega)
   have h9 : Rf (w6.setCell ⟨N, 1, none⟩ (.int .i64 (y2 : Int))) gp V ts σ6 := h8.other (by simp only; omega) _
   have K9 : Kp (fun k => k = gp) w (w6.setCell ⟨N, 1, none⟩ (.int .i64 (y2 : Int))) := K8.setCell (fun hlt => by simp only at hlt; omega) _
   have HF9 : Hid ((w6.setCell ⟨N, 1, none⟩ (.int .i64 (y2 : Int))).ownsRow (M + 1) 96 2 vv m.values.length (nmRows m.values).flatten) := own_kpV HF8.out kS (fun k hk e => by have := HVB.out k hk; omega)
   go_wp2_with fail
   clear s0 f0 kS BN8 BM8 h8 K8 HF8
   refine (rmust_any kSemi h9 (by decide +kernel)).mono ?_
   rintro e w7 ⟨rfl, h10, k10⟩
   have BN10 := BN9.kp k10 (by omega)
   have BM10 := BM9.kp k10 (by omega)
   have K10 := K9.trans k10
   have HF10 := own_kpH HF9 k10 (fun k hk => by omega)
   clear h9 k10 BN9 BM9 K9 HF9
   rw [HV.out.1] at h10
   have HZ3 : Hid (Z = pOn (stX (pValue rs)) fun r => pValues (r.length + 1) ⟨m.name, m.values ++ [⟨y1, (y2 : Int)⟩]⟩ r) := HZ2.out _ HV.out.2
   clear HZ2 HV
   generalize stX (pValue rs) = σ7 at *
   obtain ⟨nA, hnA⟩ : ∃ n, m.values.length = n := ⟨_, rfl⟩
   rw [hnA] at hlen HF10 HB2
   have HNA : Hid (m.values.length = nA) := hnA
   clear hnA
   have m1 := BM10.cell 1
   have fm1 := BM10.froz 1
   have n0 := BN10.cell 0
   have n1 := BN10.cell 1
   simp only [List.getElem?_toArray, List.getElem?_cons_succ, List.getElem?_cons_zero] at m1 n0 n1
   have hM7 : M + 1 ≤ w7.heap.size := BM10.lt
   have HMV : Hid (∀ W : World, Kp (fun k => M + 1 ≤ k) w7 W → W.cell? ⟨M, 1, none⟩ = some vv ∧ W.frozen? ⟨M, 1, none⟩ = false) := fun W hW => by
    have := BM10.kp hW (by omega)
    exact ⟨(this.cell 1).trans rfl, this.froz 1⟩
   go_wp2_with (first
    | (at_builtin; refine wpList_append_own_at _ rfl _ _ 42 rfl (M + 1) 96 iN _ 2 24 Tryz.underlying42 hiN hzN0 hzN1 hzN2 rfl (by decide) _ _ _ rfl (HF10.out.alloc _) ⟨w7.heap.size, 0, none⟩ 1 1 [.string y1, .int .i64 (y2 : Int)] rfl rfl (cells_new _ #[.string y1, .int .i64 (y2 : Int)] _) ?c2 ?c3 ?c4 ?c5 ?_)
    | fail)
   case c2 => intro u hu; simp at hu; rcases hu with rfl | rfl <;> rfl
   case c3 => unfold maxLen; omega
   case c4 => omega
   case c5 => simp; omega
   intro v8 w8 ho6 hg6 _ hat6
   have k56 : Kp (fun k => M + 1 ≤ k) w7 w8 := ((Kp.refl _ _).alloc _).grown hg6 (fun k hk _ => (HF10.out.lt k hk).1)
   have h11 : Rf w8 gp V ts σ7 := h10.kp k56 (fun k hk => by omega)
   have BM11 := BM10.kp k56 (by omega)
   have K11 : Kp (fun k => k = gp) w w8 := K10.trans2 k56 (fun k hk hS => by omega)
   obtain ⟨mc, mf⟩ := HMV.out w8 k56
   have HO6 : Hid (w8.ownsRow (M + 1) 96 2 v8 (m.values ++ [(⟨y1, (y2 : Int)⟩ : NmS)]).length (nmRows (m.values ++ [⟨y1, (y2 : Int)⟩])).flatten) := by
    show World.ownsRow _ _ _ _ _ _ _
    rw [nm_snoc, List.length_append, HNA.out]; exact ho6
   have HB6 : Hid (Bd ts.length σ7 (m.values ++ [(⟨y1, (y2 : Int)⟩ : NmS)]).length) := by
    show Bd _ _ _
    rw [List.length_append, HNA.out]; exact HB2.out
   obtain ⟨va, vc, hv6⟩ := own_form ho6
   subst hv6
   clear ho6 hg6 hat6 k56 HF10 h10 K10 BM10 HMV m1 fm1 n0 n1 HB2 BN10
   have h12 : Rf (w8.setCell ⟨M, 1, none⟩ (.slice va (nA + 1) vc)) gp V ts σ7 := h11.other hgM _
   have BM12 : Blk (w8.setCell ⟨M, 1, none⟩ (.slice va (nA + 1) vc)) M #[.string m.name, .slice va (nA + 1) vc] 44 := BM11.set 1 _ rfl
   have K12 : Kp (fun k => k = gp) w (w8.setCell ⟨M, 1, none⟩ (.slice va (nA + 1) vc)) := K11.setCell (fun hlt => by simp only at hlt; omega) _
   have HO7 : Hid ((w8.setCell ⟨M, 1, none⟩ (.slice va (nA + 1) vc)).ownsRow (M + 1) 96 2 (.slice va (nA + 1) vc) (m.values ++ [(⟨y1, (y2 : Int)⟩ : NmS)]).length (nmRows (m.values ++ [⟨y1, (y2 : Int)⟩])).flatten) := own_kp HO6.out (gs_kp w8 M 1 _) (fun k hk => by omega)
   have HM : Hid (msrf gp ts.length (w8.setCell ⟨M, 1, none⟩ (.slice va (nA + 1) vc)) < msrf gp ts.length wr) := by
    show _ < _
    rw [msr_rf h12]; exact HW.out
   clear h11 BM11 K11 HO6 HW
   go_wp2_with fail
   go_roundw
   case rel => exact ⟨⟨m.name, m.values ++ [⟨y1, (y2 : Int)⟩]⟩, _, σ7, HZ3, HO7, h12, K12, HB6, BM12⟩
   case measure => exact HM.out
theorem call_chain {σ σ1 σ2 σ3 σ4 σ5 σ6 σ7 σ8 σ9 : Sg} {n a b : ByteArray} (e1 : stX (pOn σ pName) = σ1) (n1 : res noT (pOn σ pName) = n) (e2 : stX (pOn σ1 (pMust kPar)) = σ2) (e3 : stX (pOn σ2 pName) = σ3) (a3 : res noT (pOn σ2 pName) = a) (e4 : stX (pOn σ3 (pMust kRap)) = σ4) (e5 : stX (pOn σ4 (pMust kReturns)) = σ5)
  (e6 : stX (pOn σ5 (pMust kPar)) = σ6) (e7 : stX (pOn σ6 pName) = σ7) (b7 : res noT (pOn σ6 pName) = b) (e8 : stX (pOn σ7 (pMust kRap)) = σ8) (e9 : stX (pOn σ8 (pMust kSemi)) = σ9) : σ9 = stX (pOn σ pCall) ∧ Res (pOn σ pCall) ⟨n, a, b⟩ := by
 have h1 := in_st σ1
 have h2 := in_st σ5
 rw [e2, e3, e4] at h1
 rw [e6, e7, e8] at h2
 rw [a3] at h1
 rw [b7] at h2
 have ha : Res (pOn (stX (pOn σ pName)) pIn) a := by rw [e1]; exact h1.2
 have hb : Res (pOn (stX (pOn (stX (pOn (stX (pOn σ pName)) pIn)) (pMust kReturns))) pIn) b := by rw [e1, ← h1.1, e5]; exact h2.2
 have h3 := call_st σ a b ha hb
 rw [n1] at h3
 rw [e1, ← h1.1, e5, ← h2.1, e9] at h3
 exact h3
set_option maxHeartbeats 8000000 in
theorem rdecl_call {w : World} {gp gs : Nat} {V : Value} {ts : List Tk} {t : ByteArray} {r : List ByteArray} {s : ScS} {vm ve vt : Value} {pm : List (Value × Value)} {pe : List Value} (h : Rf w gp V ts (.inr (t :: r))) (ht : t.data.toList = kCall.data.toList) (hgs : gp < gs) (hS : SO w gs s vm ve vt pm pe) (hB : Bd3 ts.length (.inr (t :: r)) s) :
  Calls Tryz.prog 39 #[.pointer (some ⟨gp, 0, none⟩), .pointer (some ⟨gs, 0, none⟩)] w fun e w' => e = .returned (.tuple #[]) ∧ DeclQ w gp gs V ts s (t :: r) w' := by
 obtain ⟨i0, hi, hz0, hz1, hz2⟩ := info_parts infoT
 have hfew := h.few
 have HD : Hid (∀ m, Res (pCall r) m → stX (pDecl s (t :: r)) = stX (pCall r) ∧ Res (pDecl s (t :: r)) ⟨s.name, s.msgs, s.enums, s.methods ++ [m]⟩) := fun m hm => decl_call ht hm
 have HBD : Hid (∀ m, Bd3 ts.length (stX (pDecl s (t :: r))) ⟨s.name, s.msgs, s.enums, s.methods ++ [m]⟩) := fun m => ⟨hB.1.keep (decl_lt s (t :: r)).le, hB.2.1.keep (decl_lt s (t :: r)).le, by show Bd _ _ (s.methods ++ [m]).length; rw [List.length_append]; exact hB.2.2.step (decl_lt s (t :: r))⟩
 have hlenM : s.methods.length ≤ 100000 := by have := hB.2.2.2 _ rfl; omega
 have e0 : anyS [kMessage] t = false := by rw [any_one, ht]; decide +kernel
 have e0' : anyS [kEnum] t = false := by rw [any_one, ht]; decide +kernel
 have e1 : anyS [kCall] t = true := by rw [any_one, ht]; decide +kernel
 have HE0 : Hid (stX (pOn (.inr (t :: r)) (pTake [kMessage])) = .inr (t :: r) ∧ anyS [kMessage] (headS (.inr (t :: r))) = false) := ⟨by rw [take_no e0]; rfl, e0⟩
 have HE1 : Hid (stX (pOn (.inr (t :: r)) (pTake [kEnum])) = .inr (t :: r) ∧ anyS [kEnum] (headS (.inr (t :: r))) = false) := ⟨by rw [take_no e0']; rfl, e0'⟩
 have HE : Hid (stX (pOn (.inr (t :: r)) (pTake [kCall])) = .inr r ∧ anyS [kCall] (headS (.inr (t :: r))) = true) := ⟨by rw [any1_take _ _ _ e1]; rfl, e1⟩
 have HSO : Hid (SO w gs s vm ve vt pm pe) := hS
 have hgw : gs < w.heap.size := hS.bs.lt
 clear hB e0 e0' e1 ht hS
 go_enter Tryz.func39, Tryz.ntmps39
 go_wp2_with fail
 refine (ris_any kMessage h (by decide +kernel)).mono ?_
 rintro e w0 ⟨rfl, h0, K0⟩
 rw [HE0.out.1] at h0
 rw [HE0.out.2]
 clear h HE0
 go_wp2_with fail
 refine (ris_any kEnum h0 (by decide +kernel)).mono ?_
 rintro e w0' ⟨rfl, h0', k0'⟩
 rw [HE1.out.1] at h0'
 rw [HE1.out.2]
 have K0' := K0.trans k0'
 clear h0 K0 k0' HE1
 go_wp2_with fail
 refine (ris_any kCall h0' (by decide +kernel)).mono ?_
 rintro e w1 ⟨rfl, h1, k1⟩
 rw [HE.out.1] at h1
 rw [HE.out.2]
 have K1 := K0'.trans k1
 clear h0' K0' k1 HE
 go_wp2_with fail
 refine (pname_any h1).mono ?_
 rintro e w2 ⟨rfl, h2, k2⟩
 have K2 := K1.trans k2
 clear h1 K1 k2
 obtain ⟨x1, n1⟩ : ∃ x, res noT (pOn (.inr r) pName) = x := ⟨_, rfl⟩
 obtain ⟨σ1, e1⟩ : ∃ x, stX (pOn (.inr r) pName) = x := ⟨_, rfl⟩
 rw [e1] at h2
 rw [n1]
 have E1 : Hid (stX (pOn (.inr r) pName) = σ1 ∧ res noT (pOn (.inr r) pName) = x1) := ⟨e1, n1⟩
 clear e1 n1
 have BM := Blk.new w2 #[.string x1, .string ⟨#[]⟩, .string ⟨#[]⟩] 46
 have h3 := h2.alloc (.cells #[.string x1, .string ⟨#[]⟩, .string ⟨#[]⟩] 46)
 have K3 := K2.alloc (.cells #[.string x1, .string ⟨#[]⟩, .string ⟨#[]⟩] 46)
 have hgM : gp < w2.heap.size := h2.lt
 have hwM : w.heap.size ≤ w2.heap.size := K2.size
 clear h2 K2
 go_wp2_with fail
 refine (rmust_any kPar h3 (by decide +kernel)).mono ?_
 rintro e w3 ⟨rfl, hw3, kw3⟩
 generalize w2.heap.size = M at *
 have Bw3 := BM.kp kw3 (by omega)
 have Kw3 := K3.trans kw3
 obtain ⟨σ2, e2⟩ : ∃ x, stX (pOn σ1 (pMust kPar)) = x := ⟨_, rfl⟩
 rw [e2] at hw3
 have E2 : Hid (stX (pOn σ1 (pMust kPar)) = σ2) := e2
 clear e2 h3 kw3 BM K3
 go_wp2_with fail
 refine (pname_any hw3).mono ?_
 rintro e w4 ⟨rfl, hw4, kw4⟩
 have Bw4 := Bw3.kp kw4 (by omega)
 have Kw4 := Kw3.trans kw4
 obtain ⟨x2, a1⟩ : ∃ x, res noT (pOn σ2 pName) = x := ⟨_, rfl⟩
 obtain ⟨σ3, e1⟩ : ∃ x, stX (pOn σ2 pName) = x := ⟨_, rfl⟩
 rw [e1] at hw4
 rw [a1]
 have E3 : Hid (stX (pOn σ2 pName) = σ3 ∧ res noT (pOn σ2 pName) = x2) := ⟨e1, a1⟩
 clear e1 a1 hw3 kw4 Bw3 Kw3
 have s0 := Bw4.cell 1
 have f0 := Bw4.froz 1
 simp only [List.getElem?_toArray, List.getElem?_cons_succ, List.getElem?_cons_zero] at s0
 have hSw4 : Rf (w4.setCell ⟨M, 1, none⟩ (.string x2)) gp V ts σ3 := hw4.other hgM _
 have BSw4 := Bw4.set 1 (.string x2) rfl
 simp only [List.setIfInBounds_toArray, List.set_cons_zero, List.set_cons_succ] at BSw4
 have KSw4 : Kp (fun k => k = gp) w (w4.setCell ⟨M, 1, none⟩ (.string x2)) := Kw4.setCell (fun hlt => by simp only at hlt; omega) _
 go_wp2_with fail
 clear s0 f0 hw4 Bw4 Kw4
 refine (rmust_any kRap hSw4 (by decide +kernel)).mono ?_
 rintro e w5 ⟨rfl, hw5, kw5⟩
 have Bw5 := BSw4.kp kw5 (by omega)
 have Kw5 := KSw4.trans kw5
 obtain ⟨σ4, e4⟩ : ∃ x, stX (pOn σ3 (pMust kRap)) = x := ⟨_, rfl⟩
 rw [e4] at hw5
 have E4 : Hid (stX (pOn σ3 (pMust kRap)) = σ4) := e4
 clear e4 hSw4 kw5 BSw4 KSw4
 go_wp2_with fail
 refine (rmust_any kReturns hw5 (by decide +kernel)).mono ?_
 rintro e w6a ⟨rfl, hw6a, kw6a⟩
 have Bw6a := Bw5.kp kw6a (by omega)
 have Kw6a := Kw5.trans kw6a
 obtain ⟨σ5, e5⟩ : ∃ x, stX (pOn σ4 (pMust kReturns)) = x := ⟨_, rfl⟩
 rw [e5] at hw6a
 have E5 : Hid (stX (pOn σ4 (pMust kReturns)) = σ5) := e5
 clear e5 hw5 kw6a Bw5 Kw5
 go_wp2_with fail
 refine (rmust_any kPar hw6a (by decide +kernel)).mono ?_
 rintro e w7 ⟨rfl, hw7, kw7⟩
 have Bw7 := Bw6a.kp kw7 (by omega)
 have Kw7 := Kw6a.trans kw7
 obtain ⟨σ6, e6⟩ : ∃ x, stX (pOn σ5 (pMust kPar)) = x := ⟨_, rfl⟩
 rw [e6] at hw7
 have E6 : Hid (stX (pOn σ5 (pMust kPar)) = σ6) := e6
 clear e6 hw6a kw7 Bw6a Kw6a
 go_wp2_with fail
 refine (pname_any hw7).mono ?_
 rintro e w8 ⟨rfl, hw8, kw8⟩
 have Bw8 := Bw7.kp kw8 (by omega)
 have Kw8 := Kw7.trans kw8
 obtain ⟨x3, a1⟩ : ∃ x, res noT (pOn σ6 pName) = x := ⟨_, rfl⟩
 obtain ⟨σ7, e1⟩ : ∃ x, stX (pOn σ6 pName) = x := ⟨_, rfl⟩
 rw [e1] at hw8
 rw [a1]
 have E7 : Hid (stX (pOn σ6 pName) = σ7 ∧ res noT (pOn σ6 pName) = x3) := ⟨e1, a1⟩
 clear e1 a1 hw7 kw8 Bw7 Kw7
 have s0 := Bw8.cell 2
 have f0 := Bw8.froz 2
 simp only [List.getElem?_toArray, List.getElem?_cons_succ, List.getElem?_cons_zero] at s0
 have hSw8 : Rf (w8.setCell ⟨M, 2, none⟩ (.string x3)) gp V ts σ7 := hw8.other hgM _
 have BSw8 := Bw8.set 2 (.string x3) rfl
 simp only [List.setIfInBounds_toArray, List.set_cons_zero, List.set_cons_succ] at BSw8
 have KSw8 : Kp (fun k => k = gp) w (w8.setCell ⟨M, 2, none⟩ (.string x3)) := Kw8.setCell (fun hlt => by simp only at hlt; omega) _
 go_wp2_with fail
 clear s0 f0 hw8 Bw8 Kw8
 refine (rmust_any kRap hSw8 (by decide +kernel)).mono ?_
 rintro e w9 ⟨rfl, hw9, kw9⟩
 have Bw9 := BSw8.kp kw9 (by omega)
 have Kw9 := KSw8.trans kw9
 obtain ⟨σ8, e8⟩ : ∃ x, stX (pOn σ7 (pMust kRap)) = x := ⟨_, rfl⟩
 rw [e8] at hw9
 have E8 : Hid (stX (pOn σ7 (pMust kRap)) = σ8) := e8
 clear e8 hSw8 kw9 BSw8 KSw8
 go_wp2_with fail
 refine (rmust_any kSemi hw9 (by decide +kernel)).mono ?_
 rintro e w10 ⟨rfl, hw10, kw10⟩
 have Bw10 := Bw9.kp kw10 (by omega)
 have Kw10 := Kw9.trans kw10
 obtain ⟨σ9, e9⟩ : ∃ x, stX (pOn σ8 (pMust kSemi)) = x := ⟨_, rfl⟩
 rw [e9] at hw10
 have E9 : Hid (stX (pOn σ8 (pMust kSemi)) = σ9) := e9
 clear e9 hw9 kw10 Bw9 Kw9
 obtain ⟨c1, c2⟩ := call_chain (σ := .inr r) E1.out.1 E1.out.2 E2.out E3.out.1 E3.out.2 E4.out E5.out E6.out E7.out.1 E7.out.2 E8.out E9.out
 obtain ⟨q1, q2⟩ := HD.out ⟨x1, x2, x3⟩ c2
 have HQ : Hid (stX (pDecl s (t :: r)) = σ9 ∧ Res (pDecl s (t :: r)) ⟨s.name, s.msgs, s.enums, s.methods ++ [⟨x1, x2, x3⟩]⟩) := ⟨by rw [q1, c1]; rfl, q2⟩
 clear E1 E2 E3 E4 E5 E6 E7 E8 E9 c1 c2 q1 q2 HD
 have h4 := hw10
 have K4 := Kw10
 have BM4 := Bw10
 clear hw10 Kw10 Bw10
 go_wp2_with fail
 have HS4 : Hid (SO w10 gs s vm ve vt pm pe) := HSO.out.kp K4 (fun k hk => by omega)
 have BG := HS4.out.bs
 have BE := BM4
 have hM6 : gs + 1 ≤ w10.drew.heap.size := by have := K4.size; show gs + 1 ≤ w10.heap.size; omega
 refine wp_region_held_drew (S := fun _ => True) (by kernel_rfl) trivial (fun hS => ?_)
 refine rg_take 0 109 (.pointer (some ⟨gs, 0, none⟩)) _ rfl rfl (by kernel_rfl) (by kernel_rfl) (by kernel_rfl) (fun _ _ _ h => h) (by rfl) (fun w' hw' => ?_) trivial (listed' := #[true, false, false, false, false, false, false, false, false, false, false]) (by kernel_rfl) rfl ?_
 ·go_simp
 simp only [List.setIfInBounds_toArray, List.set_cons_zero, List.set_cons_succ]
 refine rg_take 1 110 (.pointer (some ⟨gs, 0, none⟩)) _ rfl rfl (by kernel_rfl) (by kernel_rfl) (by kernel_rfl) (fun _ _ _ h => h) (by rfl) (fun w' hw' => ?_) trivial (listed' := #[true, true, false, false, false, false, false, false, false, false, false]) (by kernel_rfl) rfl ?_
 ·go_simp
 simp only [List.setIfInBounds_toArray, List.set_cons_zero, List.set_cons_succ]
 refine rg_take 2 111 (.pointer (some ⟨gs, 0, none⟩)) _ rfl rfl (by kernel_rfl) (by kernel_rfl) (by kernel_rfl) (fun _ _ _ h => h) (by rfl) (fun w' hw' => ?_) trivial (listed' := #[true, true, true, false, false, false, false, false, false, false, false]) (by kernel_rfl) rfl ?_
 ·go_simp
 simp only [List.setIfInBounds_toArray, List.set_cons_zero, List.set_cons_succ]
 refine rg_take 3 112 (.pointer (some ⟨gs, 3, none⟩)) _ rfl rfl (by kernel_rfl) (by kernel_rfl) (by kernel_rfl) (fun _ _ _ h => h) (by rfl) (fun w' hw' => ?_) trivial (listed' := #[true, true, true, true, false, false, false, false, false, false, false]) (by kernel_rfl) rfl ?_
 ·go_simp
 simp only [List.setIfInBounds_toArray, List.set_cons_zero, List.set_cons_succ]
 have BGd := BG.below (Below.refl _ _).drew
 have BEd := BE.below (Below.refl _ _).drew
 refine rg_llb 4 5 6 113 114 115 vt (.agg #[.string x1, .string x2, .string x3]) (.slice (some ⟨w10.drew.heap.size, 0, none⟩) 1 1) (w10.drew.alloc (.cells #[.string x1, .string x2, .string x3] 46)) rfl rfl rfl rfl rfl rfl (by kernel_rfl) (by kernel_rfl) (by kernel_rfl) (by kernel_rfl) (by kernel_rfl) (fun _ => rfl) (fun _ => rfl) (fun _ => rfl) (by decide) (by decide) (by decide) (by decide) ?g0 ?g1 ?g2 ?g3 ?g4 ?g5 ?g6 ?_
 case g0 => have hg0 := (BGd.cell 3).trans rfl; go_simp
 case g1 => have hg0 := (BGd.cell 3).trans rfl; simp only [List.setIfInBounds_toArray, List.set_cons_zero, List.set_cons_succ]; go_simp
 case g2 => have hg0 : (w10.alloc (.cells #[.string x1, .string x2, .string x3] 46)).cell? ⟨gs, 3, none⟩ = some (vt) := ((BG.below ((Below.refl _ _).alloc (Nat.le_refl _) (.cells #[.string x1, .string x2, .string x3] 46))).cell 3).trans rfl; simp only [List.setIfInBounds_toArray, List.set_cons_zero, List.set_cons_succ]; go_simp
 case g3 => have he0 := (BEd.cell 0).trans rfl; have he1 := (BEd.cell 1).trans rfl; have he2 := (BEd.cell 2).trans rfl; go_simp
 case g4 => have he0 := (BEd.cell 0).trans rfl; have he1 := (BEd.cell 1).trans rfl; have he2 := (BEd.cell 2).trans rfl; simp only [List.setIfInBounds_toArray, List.set_cons_zero, List.set_cons_succ]; go_simp
 case g5 => simp only [List.setIfInBounds_toArray, List.set_cons_zero, List.set_cons_succ]; go_simp
 case g6 => simp only [List.setIfInBounds_toArray, List.set_cons_zero, List.set_cons_succ]; go_simp
 simp only [List.setIfInBounds_toArray, List.set_cons_zero, List.set_cons_succ]
 have kW : Kp (fun _ => False) w10 (w10.drew.alloc (.cells #[.string x1, .string x2, .string x3] 46)) := (Kp.ofBelow (Below.refl _ _).drew).below ((Below.refl _ _).alloc (Nat.le_refl _) (.cells #[.string x1, .string x2, .string x3] 46))
 have HS5 : Hid (SO (w10.drew.alloc (.cells #[.string x1, .string x2, .string x3] 46)) gs s vm ve vt pm pe) := HS4.out.kp kW (fun _ _ e => e)
 have h5 : Rf (w10.drew.alloc (.cells #[.string x1, .string x2, .string x3] 46)) gp V ts σ9 := h4.kp kW (fun _ _ e => e)
 have K5 : Kp (fun k => k = gp) w (w10.drew.alloc (.cells #[.string x1, .string x2, .string x3] 46)) := K4.trans2 kW (fun k hk e => e.elim)
 clear h4 HS4 BG BE BGd BEd BM4 K4
 obtain ⟨v6, w6, hrun, ho6, hg6, _, hat6⟩ := run_append_own_at (P := Tryz.prog) (w10.drew.alloc (.cells #[.string x1, .string x2, .string x3] 46)) (gs + 1) 25 25 46 i0 _ 3 48 Tryz.underlying25 hi hz0 hz1 hz2 rfl (by decide) _ _ _ HS5.out.mt ⟨w10.drew.heap.size, 0, none⟩ 1 1 [.string x1, .string x2, .string x3] rfl (cells_new _ #[.string x1, .string x2, .string x3] _) (by intro u hu; simp at hu; rcases hu with rfl | rfl | rfl <;> rfl) (by unfold maxLen; omega) (by omega) (by have e : (w10.drew.alloc (.cells #[.string x1, .string x2, .string x3] 46)).heap.size = w10.drew.heap.size + 1 := Array.size_push ..; rw [e]; omega)
 have k56 : Kp (fun k => vt.ownBlock = some k) (w10.drew.alloc (.cells #[.string x1, .string x2, .string x3] 46)) w6 := (Kp.refl _ _).grown hg6 (fun k hk _ => hk)
 have hvb : ∀ k, vt.ownBlock = some k → gs + 1 ≤ k := fun k hk => (HS5.out.mt.lt k hk).1
 have h7 : Rf w6 gp V ts σ9 := h5.kp k56 (fun k hk e => by have := hvb k e; omega)
 have K7 : Kp (fun k => k = gp ∨ gs ≤ k) w w6 := (K5.weak (fun _ _ e => .inl e)).trans2 k56 (fun k hk e => .inr (by have := hvb k e; omega))
 have BM7 := HS5.out.bs.kp k56 (fun e => by have := hvb _ e; omega)
 obtain ⟨nA, hnA⟩ : ∃ n, s.methods.length = n := ⟨_, rfl⟩
 have HNA : Hid (s.methods.length = nA) := hnA
 rw [hnA] at ho6
 obtain ⟨va, vc, hvv⟩ := own_form ho6
 subst hvv
 have HSF : Hid (SO (w6.setCell ⟨gs, 3, none⟩ (.slice va (nA + 1) vc)) gs ⟨s.name, s.msgs, s.enums, s.methods ++ [⟨x1, x2, x3⟩]⟩ vm ve (.slice va (nA + 1) vc) pm pe) := HS5.out.mtd (m := ⟨x1, x2, x3⟩) (by rw [HNA.out]; exact ho6) k56
 have mc' := BM7.cell 3
 have mf := BM7.froz 3
 simp only [List.getElem?_toArray, List.getElem?_cons_succ, List.getElem?_cons_zero] at mc'
 clear ho6 hg6 hat6 k56 hvb HS5 h5 K5 BM7 hnA kW
 refine rg_run 7 116 (.slice va (nA + 1) vc) (w6) rfl rfl (by kernel_rfl) (by rfl) (listed' := #[true, true, true, true, true, true, true, true, false, false, false]) (by kernel_rfl) ?_ trivial ?_
 ·exact append_run rfl rfl rfl hrun
 simp only [List.setIfInBounds_toArray, List.set_cons_zero, List.set_cons_succ]
 clear hrun
 refine rg_run 8 117 (.pointer (some ⟨gs, 0, none⟩)) (w6) rfl rfl (by kernel_rfl) (by rfl) (listed' := #[true, true, true, true, true, true, true, true, true, false, false]) (by kernel_rfl) ?_ trivial ?_
 ·go_simp
 simp only [List.setIfInBounds_toArray, List.set_cons_zero, List.set_cons_succ]
 refine rg_run 9 118 (.pointer (some ⟨gs, 3, none⟩)) (w6) rfl rfl (by kernel_rfl) (by rfl) (listed' := #[true, true, true, true, true, true, true, true, true, true, false]) (by kernel_rfl) ?_ trivial ?_
 ·go_simp
 simp only [List.setIfInBounds_toArray, List.set_cons_zero, List.set_cons_succ]
 refine rg_store 10 (w6.setCell ⟨gs, 3, none⟩ (.slice va (nA + 1) vc)) rfl rfl (by kernel_rfl) (by rfl) (listed' := #[true, true, true, true, true, true, true, true, true, true, true]) (by kernel_rfl) ?_ trivial ?_
 ·go_simp
 refine wpAnyH_done (by kernel_rfl) ?_ _
 have h9 : Rf (w6.setCell ⟨gs, 3, none⟩ (.slice va (nA + 1) vc)) gp V ts σ9 := h7.other hgs _
 have K9 : Kp (fun k => k = gp ∨ gs ≤ k) w (w6.setCell ⟨gs, 3, none⟩ (.slice va (nA + 1) vc)) := K7.setCell (fun _ => .inr (Nat.le_refl _)) _
 clear h7 K7 mc' mf
 go_wp2_with fail
 refine bodyPost_end (results_none' rfl _ _ _) rfl ?_
 exact ⟨rfl, ⟨s.name, s.msgs, s.enums, s.methods ++ [⟨x1, x2, x3⟩]⟩, _, _, _, _, _, HQ.out.2, by rw [HQ.out.1]; exact h9, HSF.out, K9, HBD.out _⟩
set_option maxHeartbeats 8000000 in
theorem rdecl_bad {w : World} {gp gs : Nat} {V : Value} {ts : List Tk} {t : ByteArray} {r : List ByteArray} {s : ScS} {vm ve vt : Value} {pm : List (Value × Value)} {pe : List Value} (h : Rf w gp V ts (.inr (t :: r))) (h0 : ¬ t.data.toList = kMessage.data.toList) (h1 : ¬ t.data.toList = kEnum.data.toList) (h2 : ¬ t.data.toList = kCall.data.toList) (hgs : gp < gs) (hS : SO w gs s vm ve vt pm pe) (hB : Bd3 ts.length (.inr (t :: r)) s) :
  Calls Tryz.prog 39 #[.pointer (some ⟨gp, 0, none⟩), .pointer (some ⟨gs, 0, none⟩)] w fun e w' => e = .returned (.tuple #[]) ∧ DeclQ w gp gs V ts s (t :: r) w' := by
 have hfew := h.few
 have hno : ∀ k : ByteArray, ¬ t.data.toList = k.data.toList → anyS [k] t = false := fun k hk => by rw [any_one, beq_eq_false_iff_ne]; exact fun e => hk e.symm
 have hp : pDecl s (t :: r) = .inl (r.length + 1) := by
  unfold pDecl
  rw [if_neg (by rw [is_cons]; exact h0), if_neg (by rw [is_cons]; exact h1), if_neg (by rw [is_cons]; exact h2)]; rfl
 have HP : Hid (pDecl s (t :: r) = .inl (r.length + 1)) := hp
 have HBD : Hid (Bd3 ts.length (stX (pDecl s (t :: r))) s) := ⟨hB.1.keep (decl_lt s (t :: r)).le, hB.2.1.keep (decl_lt s (t :: r)).le, hB.2.2.keep (decl_lt s (t :: r)).le⟩
 have HE0 : Hid (stX (pOn (.inr (t :: r)) (pTake [kMessage])) = .inr (t :: r) ∧ anyS [kMessage] (headS (.inr (t :: r))) = false) := ⟨by rw [take_no (hno _ h0)]; rfl, hno _ h0⟩
 have HE1 : Hid (stX (pOn (.inr (t :: r)) (pTake [kEnum])) = .inr (t :: r) ∧ anyS [kEnum] (headS (.inr (t :: r))) = false) := ⟨by rw [take_no (hno _ h1)]; rfl, hno _ h1⟩
 have HE : Hid (stX (pOn (.inr (t :: r)) (pTake [kCall])) = .inr (t :: r) ∧ anyS [kCall] (headS (.inr (t :: r))) = false) := ⟨by rw [take_no (hno _ h2)]; rfl, hno _ h2⟩
 have HSO : Hid (SO w gs s vm ve vt pm pe) := hS
 clear hB hno hp h0 h1 h2 hS
 go_enter Tryz.func39, Tryz.ntmps39
 go_wp2_with fail
 refine (ris_any kMessage h (by decide +kernel)).mono ?_
 rintro e w0 ⟨rfl, h0, K0⟩
 rw [HE0.out.1] at h0
 rw [HE0.out.2]
 clear h HE0
 go_wp2_with fail
 refine (ris_any kEnum h0 (by decide +kernel)).mono ?_
 rintro e w0' ⟨rfl, h0', k0'⟩
 rw [HE1.out.1] at h0'
 rw [HE1.out.2]
 have K0' := K0.trans k0'
 clear h0 K0 k0' HE1
 go_wp2_with fail
 refine (ris_any kCall h0' (by decide +kernel)).mono ?_
 rintro e w1 ⟨rfl, h1, k1⟩
 rw [HE.out.1] at h1
 rw [HE.out.2]
 have K1 := K0'.trans k1
 clear h0' K0' k1 HE
 obtain ⟨n, hn, hm, c0, c1, c3, f1, f3⟩ := h1.open
 have HR : Hid (Rf (w1.setCell ⟨gp, 2, none⟩ (.bool true)) gp V ts (.inl (r.length + 1))) := h1.wrong
 clear h1 hn hm c0 c1 f1
 go_wp2_with fail
 refine bodyPost_end (results_none' rfl _ _ _) rfl ?_
 have K2 : Kp (fun k => k = gp) w (w1.setCell ⟨gp, 2, none⟩ (.bool true)) := K1.setCell (fun _ => rfl) _
 exact ⟨rfl, s, _, _, _, _, _, by rw [HP.out]; exact Res.no, by rw [HP.out]; exact HR.out, HSO.out.kp K2 (fun k hk => by omega), K2.weak (fun _ _ e => .inl e), HBD.out⟩
theorem rdecl_any {w : World} {gp gs : Nat} {V : Value} {ts : List Tk} {t : ByteArray} {r : List ByteArray} {s : ScS} {vm ve vt : Value} {pm : List (Value × Value)} {pe : List Value} (h : Rf w gp V ts (.inr (t :: r))) (hgs : gp < gs) (hS : SO w gs s vm ve vt pm pe) (hB : Bd3 ts.length (.inr (t :: r)) s) :
  Calls Tryz.prog 39 #[.pointer (some ⟨gp, 0, none⟩), .pointer (some ⟨gs, 0, none⟩)] w fun e w' => e = .returned (.tuple #[]) ∧ DeclQ w gp gs V ts s (t :: r) w' := by
 by_cases h0 : t.data.toList = kMessage.data.toList
 ·exact rdecl_msg h h0 hgs hS hB
 ·by_cases h1 : t.data.toList = kEnum.data.toList
  ·exact rdecl_enum h h1 hgs hS hB
  ·by_cases h2 : t.data.toList = kCall.data.toList
   ·exact rdecl_call h h2 hgs hS hB
   ·exact rdecl_bad h h0 h1 h2 hgs hS hB
set_option maxHeartbeats 8000000 in
theorem rschema_any {w : World} {g : Nat} {V : Value} {ts : List Tk} {E : Nat} {σ : Sg} (h : Rd w g V ts E σ) :
    Calls Tryz.prog 23 #[.pointer (some ⟨g, 0, none⟩)] w fun e w' => ∃ (s : ScS) (vm ve vt : Value) (pm : List (Value × Value)) (pe : List Value) (B : Nat), e = .returned (.agg #[.string s.name, vm, ve, vt]) ∧ Res (pOn σ pText) s ∧ Rd w' g V ts E (stX (pOn σ pText)) ∧ Kp (fun k => k = g) w w' ∧ w.heap.size ≤ B ∧ MsO w' B vm (s.msgs.map preM) pm ∧ EnO w' B ve s.enums pe ∧ w'.ownsRow B 46 3 vt s.methods.length (mtRows s.methods).flatten := by
  obtain ⟨iM, hiM, hzM0, hzM1, hzM2⟩ := info_parts infoM
  obtain ⟨iE, hiE, hzE0, hzE1, hzE2⟩ := info_parts infoE
  obtain ⟨iT, hiT, hzT0, hzT1, hzT2⟩ := info_parts infoT
  have hfew := h.few
  have hg := h.lt
  obtain ⟨Z, hZ⟩ : ∃ Z, pOn σ pText = Z := ⟨_, rfl⟩
  have HZ0 : Hid (Z = pOn (stX (pOn (stX (pOn (stX (pOn σ (pMust kSchema))) pName)) (pMust kSemi))) fun r => pDecls r.length ⟨res noT (pOn (stX (pOn σ (pMust kSchema))) pName), [], [], []⟩ r) := by
    show Z = _
    rw [← hZ]
    exact text_st σ
  rw [hZ]
  clear hZ
  have h0 := h.alloc (.cells #[.string ⟨#[]⟩, .slice none 0 0, .slice none 0 0, .slice none 0 0] 27)
  have B0 := Blk.new w #[.string ⟨#[]⟩, .slice none 0 0, .slice none 0 0, .slice none 0 0] 27
  have K0 : Kp (fun k => k = g) w (w.alloc (.cells #[.string ⟨#[]⟩, .slice none 0 0, .slice none 0 0, .slice none 0 0] 27)) := (Kp.refl _ _).alloc _
  clear h
  obtain ⟨R, hR⟩ : ∃ R, w.heap.size = R := ⟨_, rfl⟩
  have HR : Hid (w.heap.size = R) := hR
  rw [hR] at hg B0
  go_enter Tryz.func23, Tryz.ntmps23
  go_wp2_with fail
  refine (one_new kSchema _ (by simp; exact hR.symm) h0 (by decide +kernel)).mono ?_
  rintro e w1 ⟨x0, rfl, h1, k1⟩
  clear hR
  have B1 := B0.kp k1 (by omega)
  have K1 := K0.trans k1
  clear h0 k1 B0 K0
  generalize stX (pOn σ (pMust kSchema)) = σ1 at *
  go_wp2_with fail
  refine (rname_any h1).mono ?_
  rintro e w2 ⟨rfl, h2, k2⟩
  have B2 := B1.kp k2 (by omega)
  have K2 := K1.trans k2
  clear h1 k2 B1 K1
  generalize res noT (pOn σ1 pName) = x1 at *
  generalize stX (pOn σ1 pName) = σ2 at *
  have hgM : g < w2.heap.size := h2.lt
  have hRM : R < w2.heap.size := B2.lt
  have BM := Blk.new w2 #[.string x1, .slice none 0 0, .slice none 0 0, .slice none 0 0] 27
  have h3 := h2.alloc (.cells #[.string x1, .slice none 0 0, .slice none 0 0, .slice none 0 0] 27)
  have B3 := B2.below ((Below.refl _ _).alloc (Nat.le_refl _) (.cells #[.string x1, .slice none 0 0, .slice none 0 0, .slice none 0 0] 27))
  have K3 := K2.alloc (.cells #[.string x1, .slice none 0 0, .slice none 0 0, .slice none 0 0] 27)
  clear h2 B2 K2
  go_wp2_with fail
  refine (one_new kSemi _ (by simp) h3 (by decide +kernel)).mono ?_
  rintro e w3 ⟨x2, rfl, h4, k4⟩
  generalize w2.heap.size = M at *
  have B4 := B3.kp k4 (by omega)
  have BM4 := BM.kp k4 (by omega)
  have K4 := K3.trans k4
  clear h3 k4 B3 BM K3
  generalize stX (pOn σ2 (pMust kSemi)) = σ3 at *
  go_wp2_with fail
  go_loopw [18] (fun _ wr => ∃ (s : ScS) (vm ve vt : Value) (pm : List (Value × Value)) (pe : List Value) (σ1 : Sg), Hid (Z = pOn σ1 fun r => pDecls r.length s r) ∧ Hid (MsO wr (M + 1) vm (s.msgs.map preM) pm) ∧ Hid (EnO wr (M + 1) ve s.enums pe) ∧ Hid (wr.ownsRow (M + 1) 46 3 vt s.methods.length (mtRows s.methods).flatten) ∧ Rd wr g V ts E σ1 ∧ Kp (fun k => k = g) w wr ∧ Hid (Bd ts.length σ1 s.msgs.length ∧ Bd ts.length σ1 s.enums.length ∧ Bd ts.length σ1 s.methods.length) ∧ Blk wr R #[.string ⟨#[]⟩, .slice none 0 0, .slice none 0 0, .slice none 0 0] 27 ∧ Blk wr M #[.string s.name, vm, ve, vt] 27) (fun _ wr => msr g ts.length wr)
  case atStart =>
    have hb : Bd ts.length σ3 0 := ⟨by simp, fun r hr => by have := h4.left; rw [hr] at this; simp only [leftS] at this; simpa using this⟩
    exact ⟨⟨x1, [], [], []⟩, _, _, _, [], [], σ3, HZ0, MsO.nil _ _, EnO.nil _ _, World.ownsRow_nil _ _ _ _, h4, K4, ⟨hb, hb, hb⟩, B4, BM4⟩
  case round =>
    obtain ⟨s, vm, ve, vt, pm, pe, σ, HZ, HMs, HEs, HTs, hr, KR, HB, BR, BM⟩ := hrel
    clear HZ0 h4 K4 B4 BM4
    have hms := msr_rd hr
    cases σ with
    | inl n =>
      have eZ : Z = .inl n := by rw [HZ.out]; rfl
      subst eZ
      clear HZ hms HB
      go_wp2_with fail
      refine (more_any hr).mono ?_
      rintro e w4 ⟨rfl, hb5⟩
      have k5 : Kp (fun k => k = g) wr w4 := Kp.ofBelow hb5
      have h5 := hr.below hb5
      have BR5 := BR.kp k5 (by omega)
      have BM5 := BM.kp k5 (by omega)
      have K5 := KR.trans k5
      have HMs5 : Hid (MsO w4 (M + 1) vm (s.msgs.map preM) pm) := HMs.out.kp k5 (fun k hk => by omega)
      have HEs5 : Hid (EnO w4 (M + 1) ve s.enums pe) := HEs.out.kp k5 (fun k hk => by omega)
      have HTs5 := own_kpH HTs k5 (fun k hk => by omega)
      clear hr KR HMs HEs HTs BR BM k5 hb5
      simp only [badS, Bool.not_true, Bool.false_and]
      obtain ⟨ma, mc, hvv⟩ := own_form HMs5.out.own
      subst hvv
      obtain ⟨ea, ec, hvv⟩ := own_form HEs5.out.own
      subst hvv
      obtain ⟨ta, tc, hvv⟩ := own_form HTs5.out
      subst hvv
      generalize hnM : (s.msgs.map preM).length = nM at *
      generalize hnE : s.enums.length = nE at *
      generalize hnT : s.methods.length = nT at *
      have HNT : Hid (s.methods.length = nT) := hnT
      clear hnM hnE hnT
      have m0 := BM5.cell 0
      have m1 := BM5.cell 1
      have m2 := BM5.cell 2
      have m3 := BM5.cell 3
      have r0 := BR5.cell 0
      have r1 := BR5.cell 1
      have r2 := BR5.cell 2
      have r3 := BR5.cell 3
      have f0 := BR5.froz 0
      have f1 := BR5.froz 1
      have f2 := BR5.froz 2
      have f3 := BR5.froz 3
      simp only [List.getElem?_toArray, List.getElem?_cons_succ, List.getElem?_cons_zero] at m0 m1 m2 m3 r0 r1 r2 r3
      go_wp2_with fail
      refine bodyPost_ret (results_cell rfl _ _ _ ⟨R, 0, none⟩ (.agg #[.string s.name, .slice ma nM mc, .slice ea nE ec, .slice ta nT tc]) (by go_simp) (by go_simp)) rfl ?_
      have hlt : R < w.heap.size → R = g := fun hlt => by have := HR.out; omega
      have k6 : Kp (fun k => k = R) w4 ((((w4.setCell ⟨R, 0, none⟩ (.string s.name)).setCell ⟨R, 1, none⟩ (.slice ma nM mc)).setCell ⟨R, 2, none⟩ (.slice ea nE ec)).setCell ⟨R, 3, none⟩ (.slice ta nT tc)) := Kp.setCell (p := ⟨R, 3, none⟩) (Kp.setCell (p := ⟨R, 2, none⟩) (Kp.setCell (p := ⟨R, 1, none⟩) (Kp.setCell (p := ⟨R, 0, none⟩) (Kp.refl (fun k => k = R) w4) (fun _ => rfl) _) (fun _ => rfl) _) (fun _ => rfl) _) (fun _ => rfl) _
      refine ⟨s, _, _, _, pm, pe, M + 1, rfl, Res.no, (((h5.other hg _).other hg _).other hg _).other hg _, (((K5.setCell hlt _).setCell hlt _).setCell hlt _).setCell hlt _, by have := HR.out; omega, HMs5.out.kp k6 (fun k hk => by omega), HEs5.out.kp k6 (fun k hk => by omega), ?_⟩
      rw [HNT.out]
      exact own_kp HTs5.out k6 (fun k hk => by omega)
    | inr rs =>
     cases rs with
     | nil =>
      have eZ : Z = .inr (s, []) := by rw [HZ.out]; rfl
      subst eZ
      clear HZ hms HB
      go_wp2_with fail
      refine (more_any hr).mono ?_
      rintro e w4 ⟨rfl, hb5⟩
      have k5 : Kp (fun k => k = g) wr w4 := Kp.ofBelow hb5
      have h5 := hr.below hb5
      have BR5 := BR.kp k5 (by omega)
      have BM5 := BM.kp k5 (by omega)
      have K5 := KR.trans k5
      have HMs5 : Hid (MsO w4 (M + 1) vm (s.msgs.map preM) pm) := HMs.out.kp k5 (fun k hk => by omega)
      have HEs5 : Hid (EnO w4 (M + 1) ve s.enums pe) := HEs.out.kp k5 (fun k hk => by omega)
      have HTs5 := own_kpH HTs k5 (fun k hk => by omega)
      clear hr KR HMs HEs HTs BR BM k5 hb5
      simp only [badS, leftS, List.length_nil, Nat.lt_irrefl, decide_false, Bool.and_false]
      obtain ⟨ma, mc, hvv⟩ := own_form HMs5.out.own
      subst hvv
      obtain ⟨ea, ec, hvv⟩ := own_form HEs5.out.own
      subst hvv
      obtain ⟨ta, tc, hvv⟩ := own_form HTs5.out
      subst hvv
      generalize hnM : (s.msgs.map preM).length = nM at *
      generalize hnE : s.enums.length = nE at *
      generalize hnT : s.methods.length = nT at *
      have HNT : Hid (s.methods.length = nT) := hnT
      clear hnM hnE hnT
      have m0 := BM5.cell 0
      have m1 := BM5.cell 1
      have m2 := BM5.cell 2
      have m3 := BM5.cell 3
      have r0 := BR5.cell 0
      have r1 := BR5.cell 1
      have r2 := BR5.cell 2
      have r3 := BR5.cell 3
      have f0 := BR5.froz 0
      have f1 := BR5.froz 1
      have f2 := BR5.froz 2
      have f3 := BR5.froz 3
      simp only [List.getElem?_toArray, List.getElem?_cons_succ, List.getElem?_cons_zero] at m0 m1 m2 m3 r0 r1 r2 r3
      go_wp2_with fail
      refine bodyPost_ret (results_cell rfl _ _ _ ⟨R, 0, none⟩ (.agg #[.string s.name, .slice ma nM mc, .slice ea nE ec, .slice ta nT tc]) (by go_simp) (by go_simp)) rfl ?_
      have hlt : R < w.heap.size → R = g := fun hlt => by have := HR.out; omega
      have k6 : Kp (fun k => k = R) w4 ((((w4.setCell ⟨R, 0, none⟩ (.string s.name)).setCell ⟨R, 1, none⟩ (.slice ma nM mc)).setCell ⟨R, 2, none⟩ (.slice ea nE ec)).setCell ⟨R, 3, none⟩ (.slice ta nT tc)) := Kp.setCell (p := ⟨R, 3, none⟩) (Kp.setCell (p := ⟨R, 2, none⟩) (Kp.setCell (p := ⟨R, 1, none⟩) (Kp.setCell (p := ⟨R, 0, none⟩) (Kp.refl (fun k => k = R) w4) (fun _ => rfl) _) (fun _ => rfl) _) (fun _ => rfl) _) (fun _ => rfl) _
      refine ⟨s, _, _, _, pm, pe, M + 1, rfl, Res.yes, (((h5.other hg _).other hg _).other hg _).other hg _, (((K5.setCell hlt _).setCell hlt _).setCell hlt _).setCell hlt _, by have := HR.out; omega, HMs5.out.kp k6 (fun k hk => by omega), HEs5.out.kp k6 (fun k hk => by omega), ?_⟩
      rw [HNT.out]
      exact own_kp HTs5.out k6 (fun k hk => by omega)
     | cons t r =>
      have HZ2 : Hid (∀ s' : ScS, Res (pDecl s (t :: r)) s' → Z = pOn (stX (pDecl s (t :: r))) fun r => pDecls r.length s' r) := by
        intro v hv
        rw [HZ.out]
        exact decls_step hv
      have HW : Hid (weigh (stX (pDecl s (t :: r))) < msr g ts.length wr) := by show _ < _; rw [hms]; exact weigh_lt (decl_lt s (t :: r)) (decl_in s (t :: r))
      clear HZ hms
      go_wp2_with fail
      refine (more_any hr).mono ?_
      rintro e w4 ⟨rfl, hb5⟩
      have k5 : Kp (fun k => k = g) wr w4 := Kp.ofBelow hb5
      have h5 := hr.below hb5
      have BR5 := BR.kp k5 (by omega)
      have BM5 := BM.kp k5 (by omega)
      have K5 := KR.trans k5
      have HMs5 : Hid (MsO w4 (M + 1) vm (s.msgs.map preM) pm) := HMs.out.kp k5 (fun k hk => by omega)
      have HEs5 : Hid (EnO w4 (M + 1) ve s.enums pe) := HEs.out.kp k5 (fun k hk => by omega)
      have HTs5 := own_kpH HTs k5 (fun k hk => by omega)
      clear hr KR HMs HEs HTs BR BM k5 hb5
      simp only [badS, leftS, List.length_cons, Nat.zero_lt_succ, decide_true, Bool.not_false, Bool.and_true]
      go_wp2_with fail
      refine (one_new3 kMessage kEnum kCall _ rfl h5 (by decide +kernel)).mono ?_
      rintro e w5 ⟨rfl, h6, k6⟩
      have BR6 := BR5.kp k6 (by omega)
      have BM6 := BM5.kp k6 (by omega)
      have K6 := K5.trans k6
      have HMs6 : Hid (MsO w5 (M + 1) vm (s.msgs.map preM) pm) := HMs5.out.kp k6 (fun k hk => by omega)
      have HEs6 : Hid (EnO w5 (M + 1) ve s.enums pe) := HEs5.out.kp k6 (fun k hk => by omega)
      have HTs6 := own_kpH HTs5 k6 (fun k hk => by omega)
      have hM6 : M + 1 ≤ w5.heap.size := BM6.lt
      clear h5 K5 HMs5 HEs5 HTs5 BR5 BM5 k6
      rcases one3_cases s t r with ⟨ht, e1⟩ | ⟨ht, e1⟩ | ⟨ht, e1⟩ | ⟨e1, e2⟩
      · have HE : Hid (pOn (.inr (t :: r)) (pOne [kMessage, kEnum, kCall]) = .inr (t, r)) := e1
        rw [HE.out] at h6 ⊢
        simp only [res, stX] at h6 ⊢
        have hd0 : (t.toList == [109, 101, 115, 115, 97, 103, 101]) = true := by rw [ByteArray.toList_eq, ht]; decide +kernel
        have HT : Hid (t.data.toList = kMessage.data.toList) := ht
        clear e1 ht HE
        go_wp2_with fail
        refine wp_region_held_drew (S := fun _ => True) (by kernel_rfl) trivial (fun hS => ?_)
        refine rg_take 0 20 (.pointer (some ⟨M, 1, none⟩)) _ rfl rfl (by kernel_rfl) (by kernel_rfl) (by kernel_rfl) (fun _ _ _ h => h) (by rfl) (fun w' hw' => ?_) hS (listed' := #[true, false, false, false, false, false, false, false]) (by kernel_rfl) rfl ?_
        · go_simp
        simp only [List.setIfInBounds_toArray, List.set_cons_zero, List.set_cons_succ]
        refine rg_take 2 22 (.pointer (some ⟨g, 0, none⟩)) _ rfl rfl (by kernel_rfl) (by kernel_rfl) (by kernel_rfl) (fun _ _ _ h => h) (by rfl) (fun w' hw' => ?_) hS (listed' := #[true, false, true, false, false, false, false, false]) (by kernel_rfl) rfl ?_
        · go_simp
        simp only [List.setIfInBounds_toArray, List.set_cons_zero, List.set_cons_succ]
        refine rg_lcb 1 3 4 21 23 24 vm 58 #[.pointer (some ⟨g, 0, none⟩)] (fun W => W.cell? ⟨M, 1, none⟩ = some vm) rfl rfl rfl rfl rfl rfl (by kernel_rfl) (by kernel_rfl) (by kernel_rfl) (by kernel_rfl) (by kernel_rfl) (fun _ => rfl) (fun _ => rfl) (fun _ => rfl) (by decide) (by decide) (by decide) (by decide) ?g0 ?g1 ?g2 ?g3 ?g4 ?_
        case g0 => have hcv := (BM6.cell 1).trans rfl; go_simp
        case g1 => intro v W hW; simp only [List.setIfInBounds_toArray, List.set_cons_zero, List.set_cons_succ]; go_simp
        case g2 => intro v s W hW; simp only [List.setIfInBounds_toArray, List.set_cons_zero, List.set_cons_succ]; go_simp
        case g3 => go_simp
        case g4 => intro W; simp only [List.setIfInBounds_toArray, List.set_cons_zero, List.set_cons_succ]; go_simp
        have h6d : Rd w5.drew g V ts E (.inr r) := h6.below (Below.refl _ _).drew
        have hH := HMs6.out.high
        refine (rmessage_any h6d).mono ?_
        rintro e w6 ⟨m, vf, vr, rfl, rm, h7, k7, hf, hrv⟩
        have e0 : pOn (.inr r) pMsg = pMsg r := rfl
        rw [e0] at h7 rm
        clear e0
        have k7' : Kp (fun k => k = g) w5 w6 := ⟨k7.os, k7.tape, k7.output, k7.size, k7.block⟩
        have hdh : w5.drew.heap.size = w5.heap.size := rfl
        have BR7 := BR6.kp k7' (by omega)
        have BM7 := BM6.kp k7' (by omega)
        have K7 := K6.trans k7'
        have HMs7 : Hid (MsO w6 (M + 1) vm (s.msgs.map preM) pm) := HMs6.out.kp k7' (fun k hk => by omega)
        have HEs7 : Hid (EnO w6 (M + 1) ve s.enums pe) := HEs6.out.kp k7' (fun k hk => by omega)
        have HTs7 := own_kpH HTs6 k7' (fun k hk => by omega)
        obtain ⟨q7, q8⟩ := decl_msg (s := s) HT.out rm
        have HZ7 : Hid (Z = pOn (stX (pDecl s (t :: r))) fun r => pDecls r.length ⟨s.name, s.msgs ++ [m], s.enums, s.methods⟩ r) := HZ2.out _ q8
        rw [← q7] at h7
        have HB7 : Hid (Bd ts.length (stX (pDecl s (t :: r))) (s.msgs ++ [m]).length ∧ Bd ts.length (stX (pDecl s (t :: r))) s.enums.length ∧ Bd ts.length (stX (pDecl s (t :: r))) s.methods.length) := by
          show _ ∧ _ ∧ _
          exact ⟨by rw [List.length_append]; exact HB.out.1.step (decl_lt s (t :: r)), HB.out.2.1.keep (decl_lt s (t :: r)).le, HB.out.2.2.keep (decl_lt s (t :: r)).le⟩
        have hlen : s.msgs.length ≤ 100000 := by have h1 := HB.out.1.2 _ rfl; have h2 := HB.out.2.1.2 _ rfl; have h3 := HB.out.2.2.2 _ rfl; omega
        clear h6 h6d K6 HMs6 HEs6 HTs6 BR6 BM6 k7 k7' HB HZ2 q7 q8 rm HT
        generalize stX (pDecl s (t :: r)) = σ4 at *
        have hM7 : M + 1 ≤ w6.heap.size := BM7.lt
        rw [hdh] at hf hrv
        obtain ⟨fa, fc, hvv⟩ := own_form hf
        subst hvv
        obtain ⟨ra, rc, hvv⟩ := own_form hrv
        subst hvv
        obtain ⟨nF, hnF⟩ : ∃ n, m.fields.length = n := ⟨_, rfl⟩
        have HNF : Hid (m.fields.length = nF) := hnF
        obtain ⟨nR, hnR⟩ : ∃ n, m.reserved.length = n := ⟨_, rfl⟩
        have HNR : Hid (m.reserved.length = nR) := hnR
        rw [hnF] at hf
        rw [hnR] at hrv
        rw [hnF, hnR]
        clear hnF hnR
        refine ⟨_, rfl, (BM7.cell 1).trans rfl, .slice (some ⟨w6.heap.size, 0, none⟩) 1 1, w6.alloc (.cells #[.string m.name, .slice fa nF fc, .slice ra nR rc] 40), ((BM7.below ((Below.refl _ _).alloc (Nat.le_refl _) _)).cell 1).trans rfl, by simp only [List.setIfInBounds_toArray, List.set_cons_zero, List.set_cons_succ]; go_simp, by simp only [List.setIfInBounds_toArray, List.set_cons_zero, List.set_cons_succ]; go_simp, ?_⟩
        have HOv : Hid (w6.ownsRow (M + 1) 40 3 vm s.msgs.length (msRows (s.msgs.map preM) pm).flatten) := by have := HMs7.out.own; rw [List.length_map] at this; exact this
        obtain ⟨v6, w7, hrun, ho6, hg6, _, hat6⟩ := run_append_own_at (P := Tryz.prog) (w6.alloc (.cells #[.string m.name, .slice fa nF fc, .slice ra nR rc] 40)) (M + 1) 23 23 40 iM _ 3 64 Tryz.underlying23 hiM hzM0 hzM1 hzM2 rfl (by decide) _ _ _ (HOv.out.alloc _) ⟨w6.heap.size, 0, none⟩ 1 1 [.string m.name, .slice fa nF fc, .slice ra nR rc] rfl (cells_new _ #[.string m.name, .slice fa nF fc, .slice ra nR rc] _) (by intro u hu; simp at hu; rcases hu with rfl | rfl | rfl <;> rfl) (by unfold maxLen; omega) (by omega) (by simp; omega)
        have k67 : Kp (fun k => vm.ownBlock = some k) w6 w7 := ((Kp.refl _ _).alloc _).grown hg6 (fun k hk _ => hk)
        have hvb : ∀ k, vm.ownBlock = some k → M + 1 ≤ k := fun k hk => (HOv.out.lt k hk).1
        have h8 : Rd w7 g V ts E σ4 := h7.kp k67 (fun k hk e => by have := hvb k e; omega)
        have BR8 := BR7.kp k67 (fun e => by have := hvb _ e; omega)
        have BM8 := BM7.kp k67 (fun e => by have := hvb _ e; omega)
        have K8 : Kp (fun k => k = g) w w7 := K7.trans2 k67 (fun k hk e => by have := HR.out; have := hvb k e; omega)
        have HMs8 : Hid (MsO w7 (M + 1) v6 ((s.msgs ++ [m]).map preM) (pm ++ [(.slice fa nF fc, .slice ra nR rc)])) := by
          show MsO _ _ _ _ _
          rw [List.map_append]
          refine HMs7.out.snoc (m := preM m) hH (by omega) ?_ ?_ (by rw [List.length_map]; exact ho6) k67
          · show World.ownsRow _ _ _ _ _ (m.fields.map pre7).length _
            rw [List.length_map, HNF.out]; exact hf
          · show World.ownsRow _ _ _ _ _ m.reserved.length _
            rw [HNR.out]; exact hrv
        have HEs8 : Hid (EnO w7 (M + 1) ve s.enums pe) := HEs7.out.beside HOv.out (by decide) (by decide) k67
        have HTs8 : Hid (w7.ownsRow (M + 1) 46 3 vt s.methods.length (mtRows s.methods).flatten) := own_kpV HTs7.out k67 (fun k hk e => own_apart HOv.out HTs7.out (by decide) k e hk)
        obtain ⟨nA, hnA⟩ : ∃ n, s.msgs.length = n := ⟨_, rfl⟩
        rw [hnA] at ho6
        obtain ⟨va, vc, hvv⟩ := own_form ho6
        subst hvv
        have mc := BM8.cell 1
        have mf := BM8.froz 1
        simp only [List.getElem?_toArray, List.getElem?_cons_succ, List.getElem?_cons_zero] at mc
        clear ho6 hg6 hat6 k67 hvb h7 BR7 BM7 K7 HMs7 HEs7 HTs7 hnA HOv hH
        simp only [List.setIfInBounds_toArray, List.set_cons_zero, List.set_cons_succ]
        refine rg_run 5 25 (.slice va (nA + 1) vc) w7 rfl rfl (by kernel_rfl) (by rfl) (listed' := #[true, true, true, true, true, true, false, false]) (by kernel_rfl) ?_ trivial ?_
        · exact append_run rfl rfl rfl hrun
        clear hrun
        simp only [List.setIfInBounds_toArray, List.set_cons_zero, List.set_cons_succ]
        refine rg_run 6 26 (.pointer (some ⟨M, 1, none⟩)) w7 rfl rfl (by kernel_rfl) (by rfl) (listed' := #[true, true, true, true, true, true, true, false]) (by kernel_rfl) ?_ trivial ?_
        · go_simp
        simp only [List.setIfInBounds_toArray, List.set_cons_zero, List.set_cons_succ]
        refine rg_store 7 (w7.setCell ⟨M, 1, none⟩ (.slice va (nA + 1) vc)) rfl rfl (by kernel_rfl) (by rfl) (listed' := #[true, true, true, true, true, true, true, true]) (by kernel_rfl) ?_ trivial ?_
        · go_simp
        refine wpAnyH_done (by kernel_rfl) ?_ _
        have k9 : Kp (fun k => k = M) w7 (w7.setCell ⟨M, 1, none⟩ (.slice va (nA + 1) vc)) := Kp.setCell (p := ⟨M, 1, none⟩) (Kp.refl (fun k => k = M) w7) (fun _ => rfl) _
        have h9 : Rd (w7.setCell ⟨M, 1, none⟩ (.slice va (nA + 1) vc)) g V ts E σ4 := h8.other hgM _
        have BR9 := BR8.kp k9 (by omega)
        have BM9 : Blk (w7.setCell ⟨M, 1, none⟩ (.slice va (nA + 1) vc)) M #[.string s.name, .slice va (nA + 1) vc, ve, vt] 27 := BM8.set 1 _ rfl
        have K9 : Kp (fun k => k = g) w (w7.setCell ⟨M, 1, none⟩ (.slice va (nA + 1) vc)) := K8.setCell (fun hlt => by have := HR.out; simp only at hlt; omega) _
        have HMs9 := HMs8.out.kp k9 (fun k hk => by omega)
        have HEs9 := HEs8.out.kp k9 (fun k hk => by omega)
        have HTs9 := own_kp HTs8.out k9 (fun k hk => by omega)
        have HMs10 : Hid _ := HMs9
        have HEs10 : Hid _ := HEs9
        have HTs10 : Hid _ := HTs9
        have HM : Hid (msr g ts.length (w7.setCell ⟨M, 1, none⟩ (.slice va (nA + 1) vc)) < msr g ts.length wr) := by
          show _ < _
          rw [msr_rd h9]; exact HW.out
        clear h8 BR8 BM8 K8 HMs8 HEs8 HTs8 HW mc mf HMs9 HEs9 HTs9 k9
        go_wp2_with fail
        go_roundw
        case rel => exact ⟨⟨s.name, s.msgs ++ [m], s.enums, s.methods⟩, _, ve, vt, pm ++ [(_, _)], pe, σ4, HZ7, HMs10, HEs10, HTs10, h9, K9, HB7, BR9, BM9⟩
        case measure => exact HM.out
      · have HE : Hid (pOn (.inr (t :: r)) (pOne [kMessage, kEnum, kCall]) = .inr (t, r)) := e1
        rw [HE.out] at h6 ⊢
        simp only [res, stX] at h6 ⊢
        have hd0 : (t.toList == [109, 101, 115, 115, 97, 103, 101]) = false := by rw [ByteArray.toList_eq, ht]; decide +kernel
        have hd1 : (t.toList == [101, 110, 117, 109]) = true := by rw [ByteArray.toList_eq, ht]; decide +kernel
        have HT : Hid (t.data.toList = kEnum.data.toList) := ht
        clear e1 ht HE
        go_wp2_with fail
        refine wp_region_held_drew (S := fun _ => True) (by kernel_rfl) trivial (fun hS => ?_)
        refine rg_take 0 29 (.pointer (some ⟨M, 2, none⟩)) _ rfl rfl (by kernel_rfl) (by kernel_rfl) (by kernel_rfl) (fun _ _ _ h => h) (by rfl) (fun w' hw' => ?_) hS (listed' := #[true, false, false, false, false, false, false, false]) (by kernel_rfl) rfl ?_
        · go_simp
        simp only [List.setIfInBounds_toArray, List.set_cons_zero, List.set_cons_succ]
        refine rg_take 2 31 (.pointer (some ⟨g, 0, none⟩)) _ rfl rfl (by kernel_rfl) (by kernel_rfl) (by kernel_rfl) (fun _ _ _ h => h) (by rfl) (fun w' hw' => ?_) hS (listed' := #[true, false, true, false, false, false, false, false]) (by kernel_rfl) rfl ?_
        · go_simp
        simp only [List.setIfInBounds_toArray, List.set_cons_zero, List.set_cons_succ]
        refine rg_lcb 1 3 4 30 32 33 ve 59 #[.pointer (some ⟨g, 0, none⟩)] (fun W => W.cell? ⟨M, 2, none⟩ = some ve) rfl rfl rfl rfl rfl rfl (by kernel_rfl) (by kernel_rfl) (by kernel_rfl) (by kernel_rfl) (by kernel_rfl) (fun _ => rfl) (fun _ => rfl) (fun _ => rfl) (by decide) (by decide) (by decide) (by decide) ?g0 ?g1 ?g2 ?g3 ?g4 ?_
        case g0 => have hcv := (BM6.cell 2).trans rfl; go_simp
        case g1 => intro v W hW; simp only [List.setIfInBounds_toArray, List.set_cons_zero, List.set_cons_succ]; go_simp
        case g2 => intro v s W hW; simp only [List.setIfInBounds_toArray, List.set_cons_zero, List.set_cons_succ]; go_simp
        case g3 => go_simp
        case g4 => intro W; simp only [List.setIfInBounds_toArray, List.set_cons_zero, List.set_cons_succ]; go_simp
        have h6d : Rd w5.drew g V ts E (.inr r) := h6.below (Below.refl _ _).drew
        have hH := HMs6.out.high
        refine (renum_any h6d).mono ?_
        rintro e w6 ⟨m, vv, rfl, rm, h7, k7, hf, _⟩
        have e0 : pOn (.inr r) pEnum = pEnum r := rfl
        rw [e0] at h7 rm
        clear e0
        have k7' : Kp (fun k => k = g) w5 w6 := ⟨k7.os, k7.tape, k7.output, k7.size, k7.block⟩
        have hdh : w5.drew.heap.size = w5.heap.size := rfl
        have BR7 := BR6.kp k7' (by omega)
        have BM7 := BM6.kp k7' (by omega)
        have K7 := K6.trans k7'
        have HMs7 : Hid (MsO w6 (M + 1) vm (s.msgs.map preM) pm) := HMs6.out.kp k7' (fun k hk => by omega)
        have HEs7 : Hid (EnO w6 (M + 1) ve s.enums pe) := HEs6.out.kp k7' (fun k hk => by omega)
        have HTs7 := own_kpH HTs6 k7' (fun k hk => by omega)
        obtain ⟨q7, q8⟩ := decl_enum (s := s) HT.out rm
        have HZ7 : Hid (Z = pOn (stX (pDecl s (t :: r))) fun r => pDecls r.length ⟨s.name, s.msgs, s.enums ++ [m], s.methods⟩ r) := HZ2.out _ q8
        rw [← q7] at h7
        have HB7 : Hid (Bd ts.length (stX (pDecl s (t :: r))) s.msgs.length ∧ Bd ts.length (stX (pDecl s (t :: r))) (s.enums ++ [m]).length ∧ Bd ts.length (stX (pDecl s (t :: r))) s.methods.length) := by
          show _ ∧ _ ∧ _
          exact ⟨HB.out.1.keep (decl_lt s (t :: r)).le, by rw [List.length_append]; exact HB.out.2.1.step (decl_lt s (t :: r)), HB.out.2.2.keep (decl_lt s (t :: r)).le⟩
        have hlen : s.enums.length ≤ 100000 := by have h1 := HB.out.1.2 _ rfl; have h2 := HB.out.2.1.2 _ rfl; have h3 := HB.out.2.2.2 _ rfl; omega
        clear h6 h6d K6 HMs6 HEs6 HTs6 BR6 BM6 k7 k7' HB HZ2 q7 q8 rm HT
        generalize stX (pDecl s (t :: r)) = σ4 at *
        have hM7 : M + 1 ≤ w6.heap.size := BM7.lt
        rw [hdh] at hf
        obtain ⟨fa, fc, hvv⟩ := own_form hf
        subst hvv
        obtain ⟨nF, hnF⟩ : ∃ n, m.values.length = n := ⟨_, rfl⟩
        have HNF : Hid (m.values.length = nF) := hnF
        rw [hnF] at hf
        rw [hnF]
        clear hnF
        refine ⟨_, rfl, (BM7.cell 2).trans rfl, .slice (some ⟨w6.heap.size, 0, none⟩) 1 1, w6.alloc (.cells #[.string m.name, .slice fa nF fc] 44), ((BM7.below ((Below.refl _ _).alloc (Nat.le_refl _) _)).cell 2).trans rfl, by simp only [List.setIfInBounds_toArray, List.set_cons_zero, List.set_cons_succ]; go_simp, by simp only [List.setIfInBounds_toArray, List.set_cons_zero, List.set_cons_succ]; go_simp, ?_⟩
        have HOv : Hid (w6.ownsRow (M + 1) 44 2 ve s.enums.length (enRows s.enums pe).flatten) := HEs7.out.own
        obtain ⟨v6, w7, hrun, ho6, hg6, _, hat6⟩ := run_append_own_at (P := Tryz.prog) (w6.alloc (.cells #[.string m.name, .slice fa nF fc] 44)) (M + 1) 24 24 44 iE _ 2 40 Tryz.underlying24 hiE hzE0 hzE1 hzE2 rfl (by decide) _ _ _ (HOv.out.alloc _) ⟨w6.heap.size, 0, none⟩ 1 1 [.string m.name, .slice fa nF fc] rfl (cells_new _ #[.string m.name, .slice fa nF fc] _) (by intro u hu; simp at hu; rcases hu with rfl | rfl <;> rfl) (by unfold maxLen; omega) (by omega) (by simp; omega)
        have k67 : Kp (fun k => ve.ownBlock = some k) w6 w7 := ((Kp.refl _ _).alloc _).grown hg6 (fun k hk _ => hk)
        have hvb : ∀ k, ve.ownBlock = some k → M + 1 ≤ k := fun k hk => (HOv.out.lt k hk).1
        have h8 : Rd w7 g V ts E σ4 := h7.kp k67 (fun k hk e => by have := hvb k e; omega)
        have BR8 := BR7.kp k67 (fun e => by have := hvb _ e; omega)
        have BM8 := BM7.kp k67 (fun e => by have := hvb _ e; omega)
        have K8 : Kp (fun k => k = g) w w7 := K7.trans2 k67 (fun k hk e => by have := HR.out; have := hvb k e; omega)
        have HEs8 : Hid (EnO w7 (M + 1) v6 (s.enums ++ [m]) (pe ++ [.slice fa nF fc])) := by
          refine HEs7.out.snoc (m := m) (H := w5.heap.size) (by omega) ?_ ho6 k67
          rw [HNF.out]; exact hf
        have HMs8 : Hid (MsO w7 (M + 1) vm (s.msgs.map preM) pm) := HMs7.out.beside HOv.out (by decide) (by decide) (by decide) k67
        have HTs8 : Hid (w7.ownsRow (M + 1) 46 3 vt s.methods.length (mtRows s.methods).flatten) := own_kpV HTs7.out k67 (fun k hk e => own_apart HOv.out HTs7.out (by decide) k e hk)
        obtain ⟨nA, hnA⟩ : ∃ n, s.enums.length = n := ⟨_, rfl⟩
        rw [hnA] at ho6
        obtain ⟨va, vc, hvv⟩ := own_form ho6
        subst hvv
        have mc := BM8.cell 2
        have mf := BM8.froz 2
        simp only [List.getElem?_toArray, List.getElem?_cons_succ, List.getElem?_cons_zero] at mc
        clear ho6 hg6 hat6 k67 hvb h7 BR7 BM7 K7 HMs7 HEs7 HTs7 hnA HOv hH
        simp only [List.setIfInBounds_toArray, List.set_cons_zero, List.set_cons_succ]
        refine rg_run 5 34 (.slice va (nA + 1) vc) w7 rfl rfl (by kernel_rfl) (by rfl) (listed' := #[true, true, true, true, true, true, false, false]) (by kernel_rfl) ?_ trivial ?_
        · exact append_run rfl rfl rfl hrun
        clear hrun
        simp only [List.setIfInBounds_toArray, List.set_cons_zero, List.set_cons_succ]
        refine rg_run 6 35 (.pointer (some ⟨M, 2, none⟩)) w7 rfl rfl (by kernel_rfl) (by rfl) (listed' := #[true, true, true, true, true, true, true, false]) (by kernel_rfl) ?_ trivial ?_
        · go_simp
        simp only [List.setIfInBounds_toArray, List.set_cons_zero, List.set_cons_succ]
        refine rg_store 7 (w7.setCell ⟨M, 2, none⟩ (.slice va (nA + 1) vc)) rfl rfl (by kernel_rfl) (by rfl) (listed' := #[true, true, true, true, true, true, true, true]) (by kernel_rfl) ?_ trivial ?_
        · go_simp
        refine wpAnyH_done (by kernel_rfl) ?_ _
        have k9 : Kp (fun k => k = M) w7 (w7.setCell ⟨M, 2, none⟩ (.slice va (nA + 1) vc)) := Kp.setCell (p := ⟨M, 2, none⟩) (Kp.refl (fun k => k = M) w7) (fun _ => rfl) _
        have h9 : Rd (w7.setCell ⟨M, 2, none⟩ (.slice va (nA + 1) vc)) g V ts E σ4 := h8.other hgM _
        have BR9 := BR8.kp k9 (by omega)
        have BM9 : Blk (w7.setCell ⟨M, 2, none⟩ (.slice va (nA + 1) vc)) M #[.string s.name, vm, .slice va (nA + 1) vc, vt] 27 := BM8.set 2 _ rfl
        have K9 : Kp (fun k => k = g) w (w7.setCell ⟨M, 2, none⟩ (.slice va (nA + 1) vc)) := K8.setCell (fun hlt => by have := HR.out; simp only at hlt; omega) _
        have HMs9 := HMs8.out.kp k9 (fun k hk => by omega)
        have HEs9 := HEs8.out.kp k9 (fun k hk => by omega)
        have HTs9 := own_kp HTs8.out k9 (fun k hk => by omega)
        have HMs10 : Hid _ := HMs9
        have HEs10 : Hid _ := HEs9
        have HTs10 : Hid _ := HTs9
        have HM : Hid (msr g ts.length (w7.setCell ⟨M, 2, none⟩ (.slice va (nA + 1) vc)) < msr g ts.length wr) := by
          show _ < _
          rw [msr_rd h9]; exact HW.out
        clear h8 BR8 BM8 K8 HMs8 HEs8 HTs8 HW mc mf HMs9 HEs9 HTs9 k9
        go_wp2_with fail
        go_roundw
        case rel => exact ⟨⟨s.name, s.msgs, s.enums ++ [m], s.methods⟩, vm, _, vt, pm, pe ++ [_], σ4, HZ7, HMs10, HEs10, HTs10, h9, K9, HB7, BR9, BM9⟩
        case measure => exact HM.out
      · have HE : Hid (pOn (.inr (t :: r)) (pOne [kMessage, kEnum, kCall]) = .inr (t, r)) := e1
        rw [HE.out] at h6 ⊢
        simp only [res, stX] at h6 ⊢
        have hd0 : (t.toList == [109, 101, 115, 115, 97, 103, 101]) = false := by rw [ByteArray.toList_eq, ht]; decide +kernel
        have hd1 : (t.toList == [101, 110, 117, 109]) = false := by rw [ByteArray.toList_eq, ht]; decide +kernel
        have hd2 : (t.toList == [99, 97, 108, 108]) = true := by rw [ByteArray.toList_eq, ht]; decide +kernel
        have HT : Hid (t.data.toList = kCall.data.toList) := ht
        clear e1 ht HE
        go_wp2_with fail
        refine wp_region_held_drew (S := fun _ => True) (by kernel_rfl) trivial (fun hS => ?_)
        refine rg_take 0 38 (.pointer (some ⟨M, 3, none⟩)) _ rfl rfl (by kernel_rfl) (by kernel_rfl) (by kernel_rfl) (fun _ _ _ h => h) (by rfl) (fun w' hw' => ?_) hS (listed' := #[true, false, false, false, false, false, false, false]) (by kernel_rfl) rfl ?_
        · go_simp
        simp only [List.setIfInBounds_toArray, List.set_cons_zero, List.set_cons_succ]
        refine rg_take 2 40 (.pointer (some ⟨g, 0, none⟩)) _ rfl rfl (by kernel_rfl) (by kernel_rfl) (by kernel_rfl) (fun _ _ _ h => h) (by rfl) (fun w' hw' => ?_) hS (listed' := #[true, false, true, false, false, false, false, false]) (by kernel_rfl) rfl ?_
        · go_simp
        simp only [List.setIfInBounds_toArray, List.set_cons_zero, List.set_cons_succ]
        refine rg_lcb 1 3 4 39 41 42 vt 60 #[.pointer (some ⟨g, 0, none⟩)] (fun W => W.cell? ⟨M, 3, none⟩ = some vt) rfl rfl rfl rfl rfl rfl (by kernel_rfl) (by kernel_rfl) (by kernel_rfl) (by kernel_rfl) (by kernel_rfl) (fun _ => rfl) (fun _ => rfl) (fun _ => rfl) (by decide) (by decide) (by decide) (by decide) ?g0 ?g1 ?g2 ?g3 ?g4 ?_
        case g0 => have hcv := (BM6.cell 3).trans rfl; go_simp
        case g1 => intro v W hW; simp only [List.setIfInBounds_toArray, List.set_cons_zero, List.set_cons_succ]; go_simp
        case g2 => intro v s W hW; simp only [List.setIfInBounds_toArray, List.set_cons_zero, List.set_cons_succ]; go_simp
        case g3 => go_simp
        case g4 => intro W; simp only [List.setIfInBounds_toArray, List.set_cons_zero, List.set_cons_succ]; go_simp
        have h6d : Rd w5.drew g V ts E (.inr r) := h6.below (Below.refl _ _).drew
        have hH := HMs6.out.high
        refine (rcall_any h6d).mono ?_
        rintro e w6 ⟨m, rfl, rm, h7, k7⟩
        have e0 : pOn (.inr r) pCall = pCall r := rfl
        rw [e0] at h7 rm
        clear e0
        have k7' : Kp (fun k => k = g) w5 w6 := ⟨k7.os, k7.tape, k7.output, k7.size, k7.block⟩
        have hdh : w5.drew.heap.size = w5.heap.size := rfl
        have BR7 := BR6.kp k7' (by omega)
        have BM7 := BM6.kp k7' (by omega)
        have K7 := K6.trans k7'
        have HMs7 : Hid (MsO w6 (M + 1) vm (s.msgs.map preM) pm) := HMs6.out.kp k7' (fun k hk => by omega)
        have HEs7 : Hid (EnO w6 (M + 1) ve s.enums pe) := HEs6.out.kp k7' (fun k hk => by omega)
        have HTs7 := own_kpH HTs6 k7' (fun k hk => by omega)
        obtain ⟨q7, q8⟩ := decl_call (s := s) HT.out rm
        have HZ7 : Hid (Z = pOn (stX (pDecl s (t :: r))) fun r => pDecls r.length ⟨s.name, s.msgs, s.enums, s.methods ++ [m]⟩ r) := HZ2.out _ q8
        rw [← q7] at h7
        have HB7 : Hid (Bd ts.length (stX (pDecl s (t :: r))) s.msgs.length ∧ Bd ts.length (stX (pDecl s (t :: r))) s.enums.length ∧ Bd ts.length (stX (pDecl s (t :: r))) (s.methods ++ [m]).length) := by
          show _ ∧ _ ∧ _
          exact ⟨HB.out.1.keep (decl_lt s (t :: r)).le, HB.out.2.1.keep (decl_lt s (t :: r)).le, by rw [List.length_append]; exact HB.out.2.2.step (decl_lt s (t :: r))⟩
        have hlen : s.methods.length ≤ 100000 := by have h1 := HB.out.1.2 _ rfl; have h2 := HB.out.2.1.2 _ rfl; have h3 := HB.out.2.2.2 _ rfl; omega
        clear h6 h6d K6 HMs6 HEs6 HTs6 BR6 BM6 k7 k7' HB HZ2 q7 q8 rm HT
        generalize stX (pDecl s (t :: r)) = σ4 at *
        have hM7 : M + 1 ≤ w6.heap.size := BM7.lt
        refine ⟨_, rfl, (BM7.cell 3).trans rfl, .slice (some ⟨w6.heap.size, 0, none⟩) 1 1, w6.alloc (.cells #[.string m.name, .string m.inn, .string m.out] 46), ((BM7.below ((Below.refl _ _).alloc (Nat.le_refl _) _)).cell 3).trans rfl, by simp only [List.setIfInBounds_toArray, List.set_cons_zero, List.set_cons_succ]; go_simp, by simp only [List.setIfInBounds_toArray, List.set_cons_zero, List.set_cons_succ]; go_simp, ?_⟩
        have HOv : Hid (w6.ownsRow (M + 1) 46 3 vt s.methods.length (mtRows s.methods).flatten) := HTs7.out
        obtain ⟨v6, w7, hrun, ho6, hg6, _, hat6⟩ := run_append_own_at (P := Tryz.prog) (w6.alloc (.cells #[.string m.name, .string m.inn, .string m.out] 46)) (M + 1) 25 25 46 iT _ 3 48 Tryz.underlying25 hiT hzT0 hzT1 hzT2 rfl (by decide) _ _ _ (HOv.out.alloc _) ⟨w6.heap.size, 0, none⟩ 1 1 [.string m.name, .string m.inn, .string m.out] rfl (cells_new _ #[.string m.name, .string m.inn, .string m.out] _) (by intro u hu; simp at hu; rcases hu with rfl | rfl | rfl <;> rfl) (by unfold maxLen; omega) (by omega) (by simp; omega)
        have k67 : Kp (fun k => vt.ownBlock = some k) w6 w7 := ((Kp.refl _ _).alloc _).grown hg6 (fun k hk _ => hk)
        have hvb : ∀ k, vt.ownBlock = some k → M + 1 ≤ k := fun k hk => (HOv.out.lt k hk).1
        have h8 : Rd w7 g V ts E σ4 := h7.kp k67 (fun k hk e => by have := hvb k e; omega)
        have BR8 := BR7.kp k67 (fun e => by have := hvb _ e; omega)
        have BM8 := BM7.kp k67 (fun e => by have := hvb _ e; omega)
        have K8 : Kp (fun k => k = g) w w7 := K7.trans2 k67 (fun k hk e => by have := HR.out; have := hvb k e; omega)
        have HTs8 : Hid (w7.ownsRow (M + 1) 46 3 v6 (s.methods ++ [m]).length (mtRows (s.methods ++ [m])).flatten) := by
          show World.ownsRow _ _ _ _ _ _ _
          rw [mt_snoc, List.length_append]; exact ho6
        have HMs8 : Hid (MsO w7 (M + 1) vm (s.msgs.map preM) pm) := HMs7.out.beside HOv.out (by decide) (by decide) (by decide) k67
        have HEs8 : Hid (EnO w7 (M + 1) ve s.enums pe) := HEs7.out.beside HOv.out (by decide) (by decide) k67
        obtain ⟨nA, hnA⟩ : ∃ n, s.methods.length = n := ⟨_, rfl⟩
        rw [hnA] at ho6
        obtain ⟨va, vc, hvv⟩ := own_form ho6
        subst hvv
        have mc := BM8.cell 3
        have mf := BM8.froz 3
        simp only [List.getElem?_toArray, List.getElem?_cons_succ, List.getElem?_cons_zero] at mc
        clear ho6 hg6 hat6 k67 hvb h7 BR7 BM7 K7 HMs7 HEs7 HTs7 hnA HOv hH
        simp only [List.setIfInBounds_toArray, List.set_cons_zero, List.set_cons_succ]
        refine rg_run 5 43 (.slice va (nA + 1) vc) w7 rfl rfl (by kernel_rfl) (by rfl) (listed' := #[true, true, true, true, true, true, false, false]) (by kernel_rfl) ?_ trivial ?_
        · exact append_run rfl rfl rfl hrun
        clear hrun
        simp only [List.setIfInBounds_toArray, List.set_cons_zero, List.set_cons_succ]
        refine rg_run 6 44 (.pointer (some ⟨M, 3, none⟩)) w7 rfl rfl (by kernel_rfl) (by rfl) (listed' := #[true, true, true, true, true, true, true, false]) (by kernel_rfl) ?_ trivial ?_
        · go_simp
        simp only [List.setIfInBounds_toArray, List.set_cons_zero, List.set_cons_succ]
        refine rg_store 7 (w7.setCell ⟨M, 3, none⟩ (.slice va (nA + 1) vc)) rfl rfl (by kernel_rfl) (by rfl) (listed' := #[true, true, true, true, true, true, true, true]) (by kernel_rfl) ?_ trivial ?_
        · go_simp
        refine wpAnyH_done (by kernel_rfl) ?_ _
        have k9 : Kp (fun k => k = M) w7 (w7.setCell ⟨M, 3, none⟩ (.slice va (nA + 1) vc)) := Kp.setCell (p := ⟨M, 3, none⟩) (Kp.refl (fun k => k = M) w7) (fun _ => rfl) _
        have h9 : Rd (w7.setCell ⟨M, 3, none⟩ (.slice va (nA + 1) vc)) g V ts E σ4 := h8.other hgM _
        have BR9 := BR8.kp k9 (by omega)
        have BM9 : Blk (w7.setCell ⟨M, 3, none⟩ (.slice va (nA + 1) vc)) M #[.string s.name, vm, ve, .slice va (nA + 1) vc] 27 := BM8.set 3 _ rfl
        have K9 : Kp (fun k => k = g) w (w7.setCell ⟨M, 3, none⟩ (.slice va (nA + 1) vc)) := K8.setCell (fun hlt => by have := HR.out; simp only at hlt; omega) _
        have HMs9 := HMs8.out.kp k9 (fun k hk => by omega)
        have HEs9 := HEs8.out.kp k9 (fun k hk => by omega)
        have HTs9 := own_kp HTs8.out k9 (fun k hk => by omega)
        have HMs10 : Hid _ := HMs9
        have HEs10 : Hid _ := HEs9
        have HTs10 : Hid _ := HTs9
        have HM : Hid (msr g ts.length (w7.setCell ⟨M, 3, none⟩ (.slice va (nA + 1) vc)) < msr g ts.length wr) := by
          show _ < _
          rw [msr_rd h9]; exact HW.out
        clear h8 BR8 BM8 K8 HMs8 HEs8 HTs8 HW mc mf HMs9 HEs9 HTs9 k9
        go_wp2_with fail
        go_roundw
        case rel => exact ⟨⟨s.name, s.msgs, s.enums, s.methods ++ [m]⟩, vm, ve, _, pm, pe, σ4, HZ7, HMs10, HEs10, HTs10, h9, K9, HB7, BR9, BM9⟩
        case measure => exact HM.out
      · have HE : Hid (pOn (.inr (t :: r)) (pOne [kMessage, kEnum, kCall]) = .inl (r.length + 1)) := e1
        rw [HE.out] at h6 ⊢
        simp only [res, stX, noT] at h6 ⊢
        have HZ7 : Hid (Z = pOn (.inl (r.length + 1)) fun r => pDecls r.length s r) := by
          have := HZ2.out s (by rw [e2]; exact Res.no)
          rw [e2] at this
          exact this
        have HB7 : Hid (Bd ts.length (.inl (r.length + 1)) s.msgs.length ∧ Bd ts.length (.inl (r.length + 1)) s.enums.length ∧ Bd ts.length (.inl (r.length + 1)) s.methods.length) := ⟨⟨HB.out.1.1, fun _ e => by cases e⟩, ⟨HB.out.2.1.1, fun _ e => by cases e⟩, ⟨HB.out.2.2.1, fun _ e => by cases e⟩⟩
        have HM : Hid (msr g ts.length w5 < msr g ts.length wr) := by
          show _ < _
          rw [msr_rd h6]
          have := HW.out
          rw [e2] at this
          exact this
        clear e1 e2 HE HZ2 HB HW
        go_wp2_with fail
        go_roundw
        case rel => exact ⟨s, vm, ve, vt, pm, pe, _, HZ7, HMs6, HEs6, HTs6, h6, K6, HB7, BR6, BM6⟩
        case measure => exact HM.out
end Go.Proofs.YtcjfeandnmochaaGreatDoor
namespace Go.Proofs.YtcjfeandnmochaaGreatDoor
open Go.RowKit
set_option linter.unusedVariables false
set_option linter.unusedSimpArgs false
set_option maxRecDepth 20000
theorem tokA_small {s : ByteArray} (h : s.size ≤ 16384) : tokA s = ansA (lexO s.data.toList 0) := by unfold tokA; rw [if_neg (by omega)]
theorem tokA_ok {s : ByteArray} {ts : List Tk} (h : s.size ≤ 16384) (he : lexO s.data.toList 0 = .inr ts) : tokA s = (ts, 0, 0) := by rw [tokA_small h, he]; rfl
theorem lex_err {l : List UInt8} {p e : Nat} (h : lexO l 0 = .inl (p, e)) : (e = 9 ∨ e = 5) ∧ p < l.length := by
 obtain ⟨pos, acc, h1, h2⟩ := lex_ends l
 rw [h] at h2
 rcases h2 with ⟨_, h5⟩ | ⟨h3, h4, h5⟩ | ⟨c, m, h3, h4, h5⟩
 ·cases h5
 ·simp only [Sum.inl.injEq, Prod.mk.injEq] at h5
  exact ⟨.inl h5.2, by omega⟩
 ·simp only [Sum.inl.injEq, Prod.mk.injEq] at h5
  refine ⟨.inr h5.2, ?_⟩
  have := nx_len h3
  rw [List.length_drop] at this
  omega
def endOf (acc : List Tk) : Nat := match acc.getLast? with
 | none => 0
 | some t => t.pos + t.text.length
theorem Read.endOf {l : List UInt8} {pos : Nat} {acc : List Tk} (h : Read l pos acc) : endOf acc = pos := by
 rcases h.inv with ⟨rfl, rfl⟩ | ⟨p, a, t, _, hs, rfl⟩
 ·rfl
 ·have := hs.bd
  unfold Proofs.YtcjfeandnmochaaGreatDoor.endOf
  rw [List.getLast?_append]
  simp
  omega
theorem piece_at {l : List UInt8} {ts : List Tk} (h : lexO l 0 = .inr ts) {i : Nat} {t : Tk} (ht : ts[i]? = some t) :
  t.pos = endOf (ts.take i) + skipN (l.drop (endOf (ts.take i))) ∧ t.pos + t.text.length ≤ l.length ∧ 1 ≤ t.text.length ∧ t.text = (l.drop t.pos).take t.text.length ∧ endOf (ts.take (i + 1)) = t.pos + t.text.length ∧ t.kind ≤ 3 ∧ Read l (endOf (ts.take i)) (ts.take i) ∧ StepAt l (endOf (ts.take i)) t (t.pos + t.text.length) := by
 obtain ⟨pos, h1, h2⟩ := lex_ok h
 obtain ⟨p, e, g1, g2, g3, g4⟩ := h1.at i t ht
 have hb := g2.bd
 have hp := g2
 obtain ⟨c, m, q1, _⟩ := hp
 rw [g1.endOf, g3.endOf]
 have e1 : t.text.length = e - t.pos := hb.2.2.2.1
 have e2 : e = t.pos + t.text.length := by omega
 refine ⟨q1, by omega, by omega, ?_, e2, hb.2.2.2.2.2, g1, ?_⟩
 ·rw [e1]; exact hb.2.2.2.2.1
 ·rw [← e2]; exact g2
theorem lex_len {l : List UInt8} {ts : List Tk} (h : lexO l 0 = .inr ts) : ts.length ≤ l.length := by
 obtain ⟨pos, h1, _⟩ := lex_ok h
 have := h1.bd
 omega
theorem Tk.size (t : Tk) : t.bytes.size = t.text.length := by unfold Tk.bytes; exact size_list _
theorem parse_awake : parseA ⟨#[115, 99, 104, 101, 109, 97, 32, 97, 59, 32, 109, 101, 115, 115, 97, 103, 101, 32, 109, 32, 123, 32, 105, 110, 116, 51, 50, 32, 120, 32, 61, 32, 49, 59, 32, 125]⟩ = (⟨⟨#[97]⟩, [⟨⟨#[109]⟩, [⟨⟨#[120]⟩, 1, 1, 1, ⟨#[]⟩⟩], []⟩], [], []⟩, 0, 0) := by kernel_rfl
theorem pBind_inr {α β : Type} {x : PR α} {f : α → List ByteArray → PR β} {b : β} {r : List ByteArray} (h : pBind x f = .inr (b, r)) : ∃ a r', x = .inr (a, r') ∧ f a r' = .inr (b, r) := by
 cases x with
 | inl n => simp [pBind] at h
 | inr y => obtain ⟨a, r'⟩ := y; exact ⟨a, r', rfl, h⟩
theorem pName_inr {ts r : List ByteArray} {n : ByteArray} (h : pName ts = .inr (n, r)) : nameK n.data.toList = true := by
 unfold pName at h
 split at h
 ·cases h
 ·split at h
  ·rename_i hk
   simp only [Sum.inr.injEq, Prod.mk.injEq] at h
   rw [← h.1]; exact hk
  ·cases h
end Go.Proofs.YtcjfeandnmochaaGreatDoor
