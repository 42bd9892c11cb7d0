/- What the reference's 'decl' does: a message. What the reference's 'decl' does: an enumeration. What the reference's 'decl' does: a call, and what is none. A field's kind, any, written in place: what the rows are then; how far the aim is met. -/
import Derived.Test.YtfffjfccochccaaDoorRfPackB
import Derived.Test.YtfffjfccochccaaDoorIdRow
/- What the reference's 'decl' does: a message. -/
namespace Go.Proofs.YtfffjfccochccaaDoor
open Go.ChangeShapes Go.WideShapes Go.ChangeAt Go.RowKit
set_option linter.unusedVariables false
set_option linter.unusedSimpArgs false
set_option maxRecDepth 20000

set_option maxHeartbeats 8000000 in
theorem rdecl_msg {w : World} {gp gs : Nat} {V : Value} {ts : List Tk} {t : ByteArray} {r : List ByteArray} {s : ScS} {vm ve vt : Value} {pm : List (Value × Value)} {pe : List Value} (h : Rf w gp V ts (.inr (t :: r))) (ht : t.data.toList = kMessage.data.toList) (hgs : gp < gs) (hS : SO w gs s vm ve vt pm pe) (hB : Bd3 ts.length (.inr (t :: r)) s) :
    Calls Tryd.prog 22 #[.pointer (some ⟨gp, 0, none⟩), .pointer (some ⟨gs, 0, none⟩)] w fun e w' => e = .returned (.tuple #[]) ∧ DeclQ w gp gs V ts s (t :: r) w' := by
  obtain ⟨i0, hi, hz0, hz1, hz2⟩ := info_parts infoM
  have hfew := h.few
  obtain ⟨Z, hZ⟩ : ∃ Z, pMsg r = Z := ⟨_, rfl⟩
  have HZ0 : Hid (Z = pOn (stX (pOn (stX (pOn (.inr r) pName)) (pMust kOpen))) fun r' => pMembers (r'.length + 1) ⟨res noT (pOn (.inr r) pName), [], []⟩ r') := by
    show Z = _
    rw [← hZ]; exact msg_st (.inr r)
  have HD : Hid (∀ m, Res Z m → stX (pDecl s (t :: r)) = stX Z ∧ Res (pDecl s (t :: r)) ⟨s.name, s.msgs ++ [m], s.enums, s.methods⟩) := fun m hm => by
    rw [← hZ] at hm ⊢
    exact decl_msg ht hm
  have HBD : Hid (∀ m, Bd3 ts.length (stX (pDecl s (t :: r))) ⟨s.name, s.msgs ++ [m], s.enums, s.methods⟩) := fun m => ⟨by show Bd _ _ (s.msgs ++ [m]).length; rw [List.length_append]; exact hB.1.step (decl_lt s (t :: r)), hB.2.1.keep (decl_lt s (t :: r)).le, hB.2.2.keep (decl_lt s (t :: r)).le⟩
  have hlenM : s.msgs.length ≤ 100000 := by have := hB.1.2 _ rfl; omega
  have e1 : anyS [kMessage] t = true := by rw [any_one, ht]; decide +kernel
  have HE : Hid (stX (pOn (.inr (t :: r)) (pTake [kMessage])) = .inr r ∧ anyS [kMessage] (headS (.inr (t :: r))) = true) := ⟨by rw [any1_take _ _ _ e1]; rfl, e1⟩
  have HSO : Hid (SO w gs s vm ve vt pm pe) := hS
  have HH : Hid (∀ (i : Nat) (p : Value × Value) (k : Nat), pm[i]? = some p → p.1.ownBlock = some k → k < w.heap.size) := hS.ms.high
  have hgw : gs < w.heap.size := hS.bs.lt
  clear hZ hB e1 ht hS
  go_enter Tryd.func22, Tryd.ntmps22
  go_wp2_with fail
  refine (ris_any kMessage h (by decide +kernel)).mono ?_
  rintro e w1 ⟨rfl, h1, K1⟩
  rw [HE.out.1] at h1
  rw [HE.out.2]
  clear h HE
  go_wp2_with fail
  refine (pname_any h1).mono ?_
  rintro e w2 ⟨rfl, h2, k2⟩
  have K2 := K1.trans k2
  clear h1 K1 k2
  generalize res noT (pOn (.inr r) pName) = x1 at *
  generalize stX (pOn (.inr r) pName) = σ2 at *
  have BM := Blk.new w2 #[.string x1, .slice none 0 0, .slice none 0 0] 45
  have h3 := h2.alloc (.cells #[.string x1, .slice none 0 0, .slice none 0 0] 45)
  have K3 := K2.alloc (.cells #[.string x1, .slice none 0 0, .slice none 0 0] 45)
  have hgM : gp < w2.heap.size := h2.lt
  have hwM : w.heap.size ≤ w2.heap.size := K2.size
  clear h2 K2
  go_wp2_with fail
  refine (rmust_any kOpen h3 (by decide +kernel)).mono ?_
  rintro e w3 ⟨rfl, h4, k4⟩
  generalize w2.heap.size = M at *
  have BM4 := BM.kp k4 (by omega)
  have K4 := K3.trans k4
  clear h3 k4 BM K3
  generalize stX (pOn σ2 (pMust kOpen)) = σ3 at *
  go_wp2_with fail
  go_loopw [19] (fun _ wr => ∃ (m : MsS) (vf vr : Value) (σ1 : Sg), Hid (Z = pOn σ1 fun r => pMembers (r.length + 1) m r) ∧ Hid (wr.ownsRow (M + 1) 43 5 vf m.fields.length (flRows m.fields).flatten) ∧ Hid (wr.ownsRow (M + 1) 3 1 vr m.reserved.length (inRows m.reserved).flatten) ∧ Rf wr gp V ts σ1 ∧ Kp (fun k => k = gp) w wr ∧ Hid (Bd ts.length σ1 m.fields.length ∧ Bd ts.length σ1 m.reserved.length) ∧ Blk wr M #[.string m.name, vf, vr] 45) (fun _ wr => msrf gp ts.length wr)
  case atStart =>
    have hb : Bd ts.length σ3 0 := ⟨by simp, fun r hr => by have := h4.left; rw [hr] at this; simp only [leftS] at this; simpa using this⟩
    exact ⟨⟨x1, [], []⟩, _, _, σ3, HZ0, World.ownsRow_nil _ _ _ _, World.ownsRow_nil _ _ _ _, h4, K4, ⟨hb, hb⟩, BM4⟩
  case round =>
    obtain ⟨m, vf, vr, σ, HZ, HF, HO, hr, KR, HB, BM⟩ := hrel
    clear HZ0 h4 K4 BM4
    have hms := msr_rf hr
    have hc2 := bad_cell hr
    rcases shut3 σ with ⟨t', r', rfl, ht', e1, e2⟩ | ⟨n, rfl⟩ | ⟨rs, rfl, hns, e1, e2⟩
    · have eZ : Z = .inr (m, r') := by rw [HZ.out]; exact members_shut ht'
      subst eZ
      have HE : Hid (stX (pOn (.inr (t' :: r')) (pTake [kShut])) = .inr r' ∧ anyS [kShut] (headS (.inr (t' :: r'))) = true) := ⟨e1, e2⟩
      obtain ⟨q1, q2⟩ := HD.out m Res.yes
      simp only [stX] at q1
      have HQ : Hid (stX (pDecl s (t :: r)) = .inr r' ∧ Res (pDecl s (t :: r)) ⟨s.name, s.msgs ++ [m], s.enums, s.methods⟩) := ⟨q1, q2⟩
      clear HZ e1 e2 hms HB ht' q1 q2 HD
      simp only [badS] at hc2
      go_wp2_with fail
      refine (ris_any kShut hr (by decide +kernel)).mono ?_
      rintro e w3 ⟨rfl, h4, k4⟩
      rw [HE.out.1] at h4
      rw [HE.out.2]
      have BM4 := BM.kp k4 (by omega)
      have K4 := KR.trans k4
      have HO4 := own_kpH HO k4 (fun k hk => by omega)
      have HF4 := own_kpH HF k4 (fun k hk => by omega)
      clear hr KR HO HF BM k4 HE hc2
      obtain ⟨fa, fc, hvv⟩ := own_form HF4.out
      subst hvv
      obtain ⟨ra, rc, hvv⟩ := own_form HO4.out
      subst hvv
      obtain ⟨nF, hnF⟩ : ∃ n, m.fields.length = n := ⟨_, rfl⟩
      have HNF : Hid (m.fields.length = nF) := hnF
      obtain ⟨nR, hnR⟩ : ∃ n, m.reserved.length = n := ⟨_, rfl⟩
      have HNR : Hid (m.reserved.length = nR) := hnR
      rw [hnF] at BM4
      rw [hnR] at BM4
      clear hnF hnR
      go_wp2_with fail
      have HS4 : Hid (SO w3 gs s vm ve vt pm pe) := HSO.out.kp K4 (fun k hk => by omega)
      have BG := HS4.out.bs
      have BE := BM4
      have hM6 : gs + 1 ≤ w3.drew.heap.size := by have := K4.size; show gs + 1 ≤ w3.heap.size; omega
      refine wp_region_held_drew (S := fun _ => True) (by kernel_rfl) trivial (fun hS => ?_)
      refine rg_take 0 31 (.pointer (some ⟨gs, 0, none⟩)) _ rfl rfl (by kernel_rfl) (by kernel_rfl) (by kernel_rfl) (fun _ _ _ h => h) (by rfl) (fun w' hw' => ?_) trivial (listed' := #[true, false, false, false, false, false, false, false, false, false, false]) (by kernel_rfl) rfl ?_
      · go_simp
      simp only [List.setIfInBounds_toArray, List.set_cons_zero, List.set_cons_succ]
      refine rg_take 1 32 (.pointer (some ⟨gs, 0, none⟩)) _ rfl rfl (by kernel_rfl) (by kernel_rfl) (by kernel_rfl) (fun _ _ _ h => h) (by rfl) (fun w' hw' => ?_) trivial (listed' := #[true, true, false, false, false, false, false, false, false, false, false]) (by kernel_rfl) rfl ?_
      · go_simp
      simp only [List.setIfInBounds_toArray, List.set_cons_zero, List.set_cons_succ]
      refine rg_take 2 33 (.pointer (some ⟨gs, 0, none⟩)) _ rfl rfl (by kernel_rfl) (by kernel_rfl) (by kernel_rfl) (fun _ _ _ h => h) (by rfl) (fun w' hw' => ?_) trivial (listed' := #[true, true, true, false, false, false, false, false, false, false, false]) (by kernel_rfl) rfl ?_
      · go_simp
      simp only [List.setIfInBounds_toArray, List.set_cons_zero, List.set_cons_succ]
      refine rg_take 3 34 (.pointer (some ⟨gs, 1, none⟩)) _ rfl rfl (by kernel_rfl) (by kernel_rfl) (by kernel_rfl) (fun _ _ _ h => h) (by rfl) (fun w' hw' => ?_) trivial (listed' := #[true, true, true, true, false, false, false, false, false, false, false]) (by kernel_rfl) rfl ?_
      · go_simp
      simp only [List.setIfInBounds_toArray, List.set_cons_zero, List.set_cons_succ]
      have BGd := BG.below (Below.refl _ _).drew
      have BEd := BE.below (Below.refl _ _).drew
      refine rg_llb 4 5 6 35 36 37 vm (.agg #[.string m.name, .slice fa nF fc, .slice ra nR rc]) (.slice (some ⟨w3.drew.heap.size, 0, none⟩) 1 1) (w3.drew.alloc (.cells #[.string m.name, .slice fa nF fc, .slice ra nR rc] 45)) rfl rfl rfl rfl rfl rfl (by kernel_rfl) (by kernel_rfl) (by kernel_rfl) (by kernel_rfl) (by kernel_rfl) (fun _ => rfl) (fun _ => rfl) (fun _ => rfl) (by decide) (by decide) (by decide) (by decide) ?g0 ?g1 ?g2 ?g3 ?g4 ?g5 ?g6 ?_
      case g0 => have hg0 := (BGd.cell 1).trans rfl; go_simp
      case g1 => have hg0 := (BGd.cell 1).trans rfl; simp only [List.setIfInBounds_toArray, List.set_cons_zero, List.set_cons_succ]; go_simp
      case g2 => have hg0 : (w3.alloc (.cells #[.string m.name, .slice fa nF fc, .slice ra nR rc] 45)).cell? ⟨gs, 1, none⟩ = some (vm) := ((BG.below ((Below.refl _ _).alloc (Nat.le_refl _) (.cells #[.string m.name, .slice fa nF fc, .slice ra nR rc] 45))).cell 1).trans rfl; simp only [List.setIfInBounds_toArray, List.set_cons_zero, List.set_cons_succ]; go_simp
      case g3 => have he0 := (BEd.cell 0).trans rfl; have he1 := (BEd.cell 1).trans rfl; have he2 := (BEd.cell 2).trans rfl; go_simp
      case g4 => have he0 := (BEd.cell 0).trans rfl; have he1 := (BEd.cell 1).trans rfl; have he2 := (BEd.cell 2).trans rfl; simp only [List.setIfInBounds_toArray, List.set_cons_zero, List.set_cons_succ]; go_simp
      case g5 => simp only [List.setIfInBounds_toArray, List.set_cons_zero, List.set_cons_succ]; go_simp
      case g6 => simp only [List.setIfInBounds_toArray, List.set_cons_zero, List.set_cons_succ]; go_simp
      simp only [List.setIfInBounds_toArray, List.set_cons_zero, List.set_cons_succ]
      have kW : Kp (fun _ => False) w3 (w3.drew.alloc (.cells #[.string m.name, .slice fa nF fc, .slice ra nR rc] 45)) := (Kp.ofBelow (Below.refl _ _).drew).below ((Below.refl _ _).alloc (Nat.le_refl _) (.cells #[.string m.name, .slice fa nF fc, .slice ra nR rc] 45))
      have HS5 : Hid (SO (w3.drew.alloc (.cells #[.string m.name, .slice fa nF fc, .slice ra nR rc] 45)) gs s vm ve vt pm pe) := HS4.out.kp kW (fun _ _ e => e)
      have h5 : Rf (w3.drew.alloc (.cells #[.string m.name, .slice fa nF fc, .slice ra nR rc] 45)) gp V ts (.inr r') := h4.kp kW (fun _ _ e => e)
      have K5 : Kp (fun k => k = gp) w (w3.drew.alloc (.cells #[.string m.name, .slice fa nF fc, .slice ra nR rc] 45)) := K4.trans2 kW (fun k hk e => e.elim)
      have HF5 := own_kpH HF4 kW (fun _ _ e => e)
      have HO5 := own_kpH HO4 kW (fun _ _ e => e)
      rw [HNF.out] at HF5
      rw [HNR.out] at HO5
      clear h4 HS4 BG BE BGd BEd BM4 K4
      obtain ⟨v6, w6, hrun, ho6, hg6, _, hat6⟩ := run_append_own_at (P := Tryd.prog) (w3.drew.alloc (.cells #[.string m.name, .slice fa nF fc, .slice ra nR rc] 45)) (gs + 1) 23 23 45 i0 _ 3 64 Tryd.underlying23 hi hz0 hz1 hz2 rfl (by decide) _ _ _ HS5.out.ms.own ⟨w3.drew.heap.size, 0, none⟩ 1 1 [.string m.name, .slice fa nF fc, .slice ra nR rc] rfl (cells_new _ #[.string m.name, .slice fa nF fc, .slice ra nR rc] _) (by intro u hu; simp at hu; rcases hu with rfl | rfl | rfl <;> rfl) (by unfold maxLen; omega) (by omega) (by have e : (w3.drew.alloc (.cells #[.string m.name, .slice fa nF fc, .slice ra nR rc] 45)).heap.size = w3.drew.heap.size + 1 := Array.size_push ..; rw [e]; omega)
      have k56 : Kp (fun k => vm.ownBlock = some k) (w3.drew.alloc (.cells #[.string m.name, .slice fa nF fc, .slice ra nR rc] 45)) w6 := (Kp.refl _ _).grown hg6 (fun k hk _ => hk)
      have hvb : ∀ k, vm.ownBlock = some k → gs + 1 ≤ k := fun k hk => (HS5.out.ms.own.lt k hk).1
      have h7 : Rf w6 gp V ts (.inr r') := h5.kp k56 (fun k hk e => by have := hvb k e; omega)
      have K7 : Kp (fun k => k = gp ∨ gs ≤ k) w w6 := (K5.weak (fun _ _ e => .inl e)).trans2 k56 (fun k hk e => .inr (by have := hvb k e; omega))
      have BM7 := HS5.out.bs.kp k56 (fun e => by have := hvb _ e; omega)
      obtain ⟨nA, hnA⟩ : ∃ n, s.msgs.length = n := ⟨_, rfl⟩
      have HNA : Hid (s.msgs.length = nA) := hnA
      rw [hnA] at ho6
      obtain ⟨va, vc, hvv⟩ := own_form ho6
      subst hvv
      have HSF : Hid (SO (w6.setCell ⟨gs, 1, none⟩ (.slice va (nA + 1) vc)) gs ⟨s.name, s.msgs ++ [m], s.enums, s.methods⟩ (.slice va (nA + 1) vc) ve vt (pm ++ [(.slice fa nF fc, .slice ra nR rc)]) pe) := HS5.out.msg (m := m) (H := M + 1) (fun i p k hp hk => by have := HH.out i p k hp hk; omega) (by omega) (by rw [HNF.out]; exact HF5.out) (by rw [HNR.out]; exact HO5.out) (by rw [HNA.out]; exact ho6) k56
      have mc' := BM7.cell 1
      have mf := BM7.froz 1
      simp only [List.getElem?_toArray, List.getElem?_cons_succ, List.getElem?_cons_zero] at mc'
      clear ho6 hg6 hat6 k56 hvb HS5 h5 K5 BM7 hnA kW
      refine rg_run 7 38 (.slice va (nA + 1) vc) (w6) rfl rfl (by kernel_rfl) (by rfl) (listed' := #[true, true, true, true, true, true, true, true, false, false, false]) (by kernel_rfl) ?_ trivial ?_
      · exact append_run rfl rfl rfl hrun
      simp only [List.setIfInBounds_toArray, List.set_cons_zero, List.set_cons_succ]
      clear hrun
      refine rg_run 8 39 (.pointer (some ⟨gs, 0, none⟩)) (w6) rfl rfl (by kernel_rfl) (by rfl) (listed' := #[true, true, true, true, true, true, true, true, true, false, false]) (by kernel_rfl) ?_ trivial ?_
      · go_simp
      simp only [List.setIfInBounds_toArray, List.set_cons_zero, List.set_cons_succ]
      refine rg_run 9 40 (.pointer (some ⟨gs, 1, none⟩)) (w6) rfl rfl (by kernel_rfl) (by rfl) (listed' := #[true, true, true, true, true, true, true, true, true, true, false]) (by kernel_rfl) ?_ trivial ?_
      · go_simp
      simp only [List.setIfInBounds_toArray, List.set_cons_zero, List.set_cons_succ]
      refine rg_store 10 (w6.setCell ⟨gs, 1, none⟩ (.slice va (nA + 1) vc)) rfl rfl (by kernel_rfl) (by rfl) (listed' := #[true, true, true, true, true, true, true, true, true, true, true]) (by kernel_rfl) ?_ trivial ?_
      · go_simp
      refine wpAnyH_done (by kernel_rfl) ?_ _
      have h9 : Rf (w6.setCell ⟨gs, 1, none⟩ (.slice va (nA + 1) vc)) gp V ts (.inr r') := h7.other hgs _
      have K9 : Kp (fun k => k = gp ∨ gs ≤ k) w (w6.setCell ⟨gs, 1, none⟩ (.slice va (nA + 1) vc)) := K7.setCell (fun _ => .inr (Nat.le_refl _)) _
      clear h7 K7 mc' mf
      go_wp2_with fail
      refine bodyPost_end (results_none' rfl _ _ _) rfl ?_
      exact ⟨rfl, ⟨s.name, s.msgs ++ [m], s.enums, s.methods⟩, _, _, _, _, _, HQ.out.2, by rw [HQ.out.1]; exact h9, HSF.out, K9, HBD.out m⟩
    · have eZ : Z = .inl n := by rw [HZ.out]; rfl
      subst eZ
      obtain ⟨q1, q2⟩ := HD.out m Res.no
      simp only [stX] at q1
      have HQ : Hid (stX (pDecl s (t :: r)) = .inl n ∧ Res (pDecl s (t :: r)) ⟨s.name, s.msgs ++ [m], s.enums, s.methods⟩) := ⟨q1, q2⟩
      clear HZ hms HB q1 q2 HD
      simp only [badS] at hc2
      have h4 := hr
      have K4 := KR
      have BM4 := BM
      have HO4 := HO
      have HF4 := HF
      clear hr KR HO HF BM
      obtain ⟨fa, fc, hvv⟩ := own_form HF4.out
      subst hvv
      obtain ⟨ra, rc, hvv⟩ := own_form HO4.out
      subst hvv
      obtain ⟨nF, hnF⟩ : ∃ n, m.fields.length = n := ⟨_, rfl⟩
      have HNF : Hid (m.fields.length = nF) := hnF
      obtain ⟨nR, hnR⟩ : ∃ n, m.reserved.length = n := ⟨_, rfl⟩
      have HNR : Hid (m.reserved.length = nR) := hnR
      rw [hnF] at BM4
      rw [hnR] at BM4
      clear hnF hnR
      go_wp2_with fail
      clear hc2
      have HS4 : Hid (SO wr gs s vm ve vt pm pe) := HSO.out.kp K4 (fun k hk => by omega)
      have BG := HS4.out.bs
      have BE := BM4
      have hM6 : gs + 1 ≤ wr.drew.heap.size := by have := K4.size; show gs + 1 ≤ wr.heap.size; omega
      refine wp_region_held_drew (S := fun _ => True) (by kernel_rfl) trivial (fun hS => ?_)
      refine rg_take 0 31 (.pointer (some ⟨gs, 0, none⟩)) _ rfl rfl (by kernel_rfl) (by kernel_rfl) (by kernel_rfl) (fun _ _ _ h => h) (by rfl) (fun w' hw' => ?_) trivial (listed' := #[true, false, false, false, false, false, false, false, false, false, false]) (by kernel_rfl) rfl ?_
      · go_simp
      simp only [List.setIfInBounds_toArray, List.set_cons_zero, List.set_cons_succ]
      refine rg_take 1 32 (.pointer (some ⟨gs, 0, none⟩)) _ rfl rfl (by kernel_rfl) (by kernel_rfl) (by kernel_rfl) (fun _ _ _ h => h) (by rfl) (fun w' hw' => ?_) trivial (listed' := #[true, true, false, false, false, false, false, false, false, false, false]) (by kernel_rfl) rfl ?_
      · go_simp
      simp only [List.setIfInBounds_toArray, List.set_cons_zero, List.set_cons_succ]
      refine rg_take 2 33 (.pointer (some ⟨gs, 0, none⟩)) _ rfl rfl (by kernel_rfl) (by kernel_rfl) (by kernel_rfl) (fun _ _ _ h => h) (by rfl) (fun w' hw' => ?_) trivial (listed' := #[true, true, true, false, false, false, false, false, false, false, false]) (by kernel_rfl) rfl ?_
      · go_simp
      simp only [List.setIfInBounds_toArray, List.set_cons_zero, List.set_cons_succ]
      refine rg_take 3 34 (.pointer (some ⟨gs, 1, none⟩)) _ rfl rfl (by kernel_rfl) (by kernel_rfl) (by kernel_rfl) (fun _ _ _ h => h) (by rfl) (fun w' hw' => ?_) trivial (listed' := #[true, true, true, true, false, false, false, false, false, false, false]) (by kernel_rfl) rfl ?_
      · go_simp
      simp only [List.setIfInBounds_toArray, List.set_cons_zero, List.set_cons_succ]
      have BGd := BG.below (Below.refl _ _).drew
      have BEd := BE.below (Below.refl _ _).drew
      refine rg_llb 4 5 6 35 36 37 vm (.agg #[.string m.name, .slice fa nF fc, .slice ra nR rc]) (.slice (some ⟨wr.drew.heap.size, 0, none⟩) 1 1) (wr.drew.alloc (.cells #[.string m.name, .slice fa nF fc, .slice ra nR rc] 45)) rfl rfl rfl rfl rfl rfl (by kernel_rfl) (by kernel_rfl) (by kernel_rfl) (by kernel_rfl) (by kernel_rfl) (fun _ => rfl) (fun _ => rfl) (fun _ => rfl) (by decide) (by decide) (by decide) (by decide) ?g0 ?g1 ?g2 ?g3 ?g4 ?g5 ?g6 ?_
      case g0 => have hg0 := (BGd.cell 1).trans rfl; go_simp
      case g1 => have hg0 := (BGd.cell 1).trans rfl; simp only [List.setIfInBounds_toArray, List.set_cons_zero, List.set_cons_succ]; go_simp
      case g2 => have hg0 : (wr.alloc (.cells #[.string m.name, .slice fa nF fc, .slice ra nR rc] 45)).cell? ⟨gs, 1, none⟩ = some (vm) := ((BG.below ((Below.refl _ _).alloc (Nat.le_refl _) (.cells #[.string m.name, .slice fa nF fc, .slice ra nR rc] 45))).cell 1).trans rfl; simp only [List.setIfInBounds_toArray, List.set_cons_zero, List.set_cons_succ]; go_simp
      case g3 => have he0 := (BEd.cell 0).trans rfl; have he1 := (BEd.cell 1).trans rfl; have he2 := (BEd.cell 2).trans rfl; go_simp
      case g4 => have he0 := (BEd.cell 0).trans rfl; have he1 := (BEd.cell 1).trans rfl; have he2 := (BEd.cell 2).trans rfl; simp only [List.setIfInBounds_toArray, List.set_cons_zero, List.set_cons_succ]; go_simp
      case g5 => simp only [List.setIfInBounds_toArray, List.set_cons_zero, List.set_cons_succ]; go_simp
      case g6 => simp only [List.setIfInBounds_toArray, List.set_cons_zero, List.set_cons_succ]; go_simp
      simp only [List.setIfInBounds_toArray, List.set_cons_zero, List.set_cons_succ]
      have kW : Kp (fun _ => False) wr (wr.drew.alloc (.cells #[.string m.name, .slice fa nF fc, .slice ra nR rc] 45)) := (Kp.ofBelow (Below.refl _ _).drew).below ((Below.refl _ _).alloc (Nat.le_refl _) (.cells #[.string m.name, .slice fa nF fc, .slice ra nR rc] 45))
      have HS5 : Hid (SO (wr.drew.alloc (.cells #[.string m.name, .slice fa nF fc, .slice ra nR rc] 45)) gs s vm ve vt pm pe) := HS4.out.kp kW (fun _ _ e => e)
      have h5 : Rf (wr.drew.alloc (.cells #[.string m.name, .slice fa nF fc, .slice ra nR rc] 45)) gp V ts (.inl n) := h4.kp kW (fun _ _ e => e)
      have K5 : Kp (fun k => k = gp) w (wr.drew.alloc (.cells #[.string m.name, .slice fa nF fc, .slice ra nR rc] 45)) := K4.trans2 kW (fun k hk e => e.elim)
      have HF5 := own_kpH HF4 kW (fun _ _ e => e)
      have HO5 := own_kpH HO4 kW (fun _ _ e => e)
      rw [HNF.out] at HF5
      rw [HNR.out] at HO5
      clear h4 HS4 BG BE BGd BEd BM4 K4
      obtain ⟨v6, w6, hrun, ho6, hg6, _, hat6⟩ := run_append_own_at (P := Tryd.prog) (wr.drew.alloc (.cells #[.string m.name, .slice fa nF fc, .slice ra nR rc] 45)) (gs + 1) 23 23 45 i0 _ 3 64 Tryd.underlying23 hi hz0 hz1 hz2 rfl (by decide) _ _ _ HS5.out.ms.own ⟨wr.drew.heap.size, 0, none⟩ 1 1 [.string m.name, .slice fa nF fc, .slice ra nR rc] rfl (cells_new _ #[.string m.name, .slice fa nF fc, .slice ra nR rc] _) (by intro u hu; simp at hu; rcases hu with rfl | rfl | rfl <;> rfl) (by unfold maxLen; omega) (by omega) (by have e : (wr.drew.alloc (.cells #[.string m.name, .slice fa nF fc, .slice ra nR rc] 45)).heap.size = wr.drew.heap.size + 1 := Array.size_push ..; rw [e]; omega)
      have k56 : Kp (fun k => vm.ownBlock = some k) (wr.drew.alloc (.cells #[.string m.name, .slice fa nF fc, .slice ra nR rc] 45)) w6 := (Kp.refl _ _).grown hg6 (fun k hk _ => hk)
      have hvb : ∀ k, vm.ownBlock = some k → gs + 1 ≤ k := fun k hk => (HS5.out.ms.own.lt k hk).1
      have h7 : Rf w6 gp V ts (.inl n) := h5.kp k56 (fun k hk e => by have := hvb k e; omega)
      have K7 : Kp (fun k => k = gp ∨ gs ≤ k) w w6 := (K5.weak (fun _ _ e => .inl e)).trans2 k56 (fun k hk e => .inr (by have := hvb k e; omega))
      have BM7 := HS5.out.bs.kp k56 (fun e => by have := hvb _ e; omega)
      obtain ⟨nA, hnA⟩ : ∃ n, s.msgs.length = n := ⟨_, rfl⟩
      have HNA : Hid (s.msgs.length = nA) := hnA
      rw [hnA] at ho6
      obtain ⟨va, vc, hvv⟩ := own_form ho6
      subst hvv
      have HSF : Hid (SO (w6.setCell ⟨gs, 1, none⟩ (.slice va (nA + 1) vc)) gs ⟨s.name, s.msgs ++ [m], s.enums, s.methods⟩ (.slice va (nA + 1) vc) ve vt (pm ++ [(.slice fa nF fc, .slice ra nR rc)]) pe) := HS5.out.msg (m := m) (H := M + 1) (fun i p k hp hk => by have := HH.out i p k hp hk; omega) (by omega) (by rw [HNF.out]; exact HF5.out) (by rw [HNR.out]; exact HO5.out) (by rw [HNA.out]; exact ho6) k56
      have mc' := BM7.cell 1
      have mf := BM7.froz 1
      simp only [List.getElem?_toArray, List.getElem?_cons_succ, List.getElem?_cons_zero] at mc'
      clear ho6 hg6 hat6 k56 hvb HS5 h5 K5 BM7 hnA kW
      refine rg_run 7 38 (.slice va (nA + 1) vc) (w6) rfl rfl (by kernel_rfl) (by rfl) (listed' := #[true, true, true, true, true, true, true, true, false, false, false]) (by kernel_rfl) ?_ trivial ?_
      · exact append_run rfl rfl rfl hrun
      simp only [List.setIfInBounds_toArray, List.set_cons_zero, List.set_cons_succ]
      clear hrun
      refine rg_run 8 39 (.pointer (some ⟨gs, 0, none⟩)) (w6) rfl rfl (by kernel_rfl) (by rfl) (listed' := #[true, true, true, true, true, true, true, true, true, false, false]) (by kernel_rfl) ?_ trivial ?_
      · go_simp
      simp only [List.setIfInBounds_toArray, List.set_cons_zero, List.set_cons_succ]
      refine rg_run 9 40 (.pointer (some ⟨gs, 1, none⟩)) (w6) rfl rfl (by kernel_rfl) (by rfl) (listed' := #[true, true, true, true, true, true, true, true, true, true, false]) (by kernel_rfl) ?_ trivial ?_
      · go_simp
      simp only [List.setIfInBounds_toArray, List.set_cons_zero, List.set_cons_succ]
      refine rg_store 10 (w6.setCell ⟨gs, 1, none⟩ (.slice va (nA + 1) vc)) rfl rfl (by kernel_rfl) (by rfl) (listed' := #[true, true, true, true, true, true, true, true, true, true, true]) (by kernel_rfl) ?_ trivial ?_
      · go_simp
      refine wpAnyH_done (by kernel_rfl) ?_ _
      have h9 : Rf (w6.setCell ⟨gs, 1, none⟩ (.slice va (nA + 1) vc)) gp V ts (.inl n) := h7.other hgs _
      have K9 : Kp (fun k => k = gp ∨ gs ≤ k) w (w6.setCell ⟨gs, 1, none⟩ (.slice va (nA + 1) vc)) := K7.setCell (fun _ => .inr (Nat.le_refl _)) _
      clear h7 K7 mc' mf
      go_wp2_with fail
      refine bodyPost_end (results_none' rfl _ _ _) rfl ?_
      exact ⟨rfl, ⟨s.name, s.msgs ++ [m], s.enums, s.methods⟩, _, _, _, _, _, HQ.out.2, by rw [HQ.out.1]; exact h9, HSF.out, K9, HBD.out m⟩
    · have HE : Hid (stX (pOn (.inr rs) (pTake [kShut])) = .inr rs ∧ anyS [kShut] (headS (.inr rs)) = false) := ⟨e1, e2⟩
      have HZ2 : Hid (∀ m' : MsS, Res (pMember m rs) m' → Z = pOn (stX (pMember m rs)) fun r => pMembers (r.length + 1) m' r) := by
        intro v hv
        rw [HZ.out]
        exact members_step hns hv
      have HW : Hid (weigh (stX (pMember m rs)) < msrf gp ts.length wr) := by show _ < _; rw [hms]; exact weigh_lt (member_lt m rs) (member_in m rs)
      clear HZ e1 e2 hms hns
      simp only [badS] at hc2
      go_wp2_with fail
      refine (ris_any kShut hr (by decide +kernel)).mono ?_
      rintro e w3 ⟨rfl, h4, k4⟩
      rw [HE.out.1] at h4
      rw [HE.out.2]
      have BM4 := BM.kp k4 (by omega)
      have K4 := KR.trans k4
      have HO4 := own_kpH HO k4 (fun k hk => by omega)
      have HF4 := own_kpH HF k4 (fun k hk => by omega)
      clear hr KR HO HF BM k4 HE hc2
      go_wp2_with fail
      refine (rmember_any h4 hgM BM4 HF4.out HO4.out HB.out.1 HB.out.2).mono ?_
      rintro e w4 ⟨rfl, m', vf', vr', rm, h5, BM5, hf5, ho5, k5, b5, b6⟩
      have K5 : Kp (fun k => k = gp) w w4 := K4.trans2 k5 (fun k hk e => by omega)
      have HZ3 : Hid (Z = pOn (stX (pMember m rs)) fun r => pMembers (r.length + 1) m' r) := HZ2.out m' rm
      have HB5 : Hid (Bd ts.length (stX (pMember m rs)) m'.fields.length ∧ Bd ts.length (stX (pMember m rs)) m'.reserved.length) := ⟨b5, b6⟩
      have HF5 : Hid (w4.ownsRow (M + 1) 43 5 vf' m'.fields.length (flRows m'.fields).flatten) := hf5
      have HO5 : Hid (w4.ownsRow (M + 1) 3 1 vr' m'.reserved.length (inRows m'.reserved).flatten) := ho5
      have HM : Hid (msrf gp ts.length w4 < msrf gp ts.length wr) := by
        show _ < _
        rw [msr_rf h5]; exact HW.out
      clear h4 K4 BM4 HF4 HO4 HB HZ2 rm b5 b6 hf5 ho5 HW k5
      generalize stX (pMember m rs) = σ4 at *
      go_wp2_with fail
      go_roundw
      case rel => exact ⟨m', vf', vr', σ4, HZ3, HF5, HO5, h5, K5, HB5, BM5⟩
      case measure => exact HM.out
end Go.Proofs.YtfffjfccochccaaDoor
/- What the reference's 'decl' does: an enumeration. -/
namespace Go.Proofs.YtfffjfccochccaaDoor
open Go.ChangeShapes Go.WideShapes Go.ChangeAt Go.RowKit
set_option linter.unusedVariables false
set_option linter.unusedSimpArgs false
set_option maxRecDepth 20000

theorem take_no {k t : ByteArray} {r : List ByteArray} (h : anyS [k] t = false) : pOn (.inr (t :: r)) (pTake [k]) = .inr (noT, t :: r) := by
  show (if anyS [k] t = true then _ else _) = _
  rw [h]; rfl
set_option maxHeartbeats 8000000 in
theorem rdecl_enum {w : World} {gp gs : Nat} {V : Value} {ts : List Tk} {t : ByteArray} {r : List ByteArray} {s : ScS} {vm ve vt : Value} {pm : List (Value × Value)} {pe : List Value} (h : Rf w gp V ts (.inr (t :: r))) (ht : t.data.toList = kEnum.data.toList) (hgs : gp < gs) (hS : SO w gs s vm ve vt pm pe) (hB : Bd3 ts.length (.inr (t :: r)) s) :
    Calls Tryd.prog 22 #[.pointer (some ⟨gp, 0, none⟩), .pointer (some ⟨gs, 0, none⟩)] w fun e w' => e = .returned (.tuple #[]) ∧ DeclQ w gp gs V ts s (t :: r) w' := by
  obtain ⟨i0, hi, hz0, hz1, hz2⟩ := info_parts infoE
  obtain ⟨iN, hiN, hzN0, hzN1, hzN2⟩ := info_parts infoN
  have hfew := h.few
  obtain ⟨Z, hZ⟩ : ∃ Z, pEnum r = Z := ⟨_, rfl⟩
  have HZ0 : Hid (Z = pOn (stX (pOn (stX (pOn (.inr r) pName)) (pMust kOpen))) fun r' => pValues (r'.length + 1) ⟨res noT (pOn (.inr r) pName), []⟩ r') := by
    show Z = _
    rw [← hZ]; exact enu_st (.inr r)
  have HD : Hid (∀ m, Res Z m → stX (pDecl s (t :: r)) = stX Z ∧ Res (pDecl s (t :: r)) ⟨s.name, s.msgs, s.enums ++ [m], s.methods⟩) := fun m hm => by
    rw [← hZ] at hm ⊢
    exact decl_enum ht hm
  have HBD : Hid (∀ m, Bd3 ts.length (stX (pDecl s (t :: r))) ⟨s.name, s.msgs, s.enums ++ [m], s.methods⟩) := fun m => ⟨hB.1.keep (decl_lt s (t :: r)).le, by show Bd _ _ (s.enums ++ [m]).length; rw [List.length_append]; exact hB.2.1.step (decl_lt s (t :: r)), hB.2.2.keep (decl_lt s (t :: r)).le⟩
  have hlenM : s.enums.length ≤ 100000 := by have := hB.2.1.2 _ rfl; omega
  have e0 : anyS [kMessage] t = false := by rw [any_one, ht]; decide +kernel
  have e1 : anyS [kEnum] t = true := by rw [any_one, ht]; decide +kernel
  have HE0 : Hid (stX (pOn (.inr (t :: r)) (pTake [kMessage])) = .inr (t :: r) ∧ anyS [kMessage] (headS (.inr (t :: r))) = false) := ⟨by rw [take_no e0]; rfl, e0⟩
  have HE : Hid (stX (pOn (.inr (t :: r)) (pTake [kEnum])) = .inr r ∧ anyS [kEnum] (headS (.inr (t :: r))) = true) := ⟨by rw [any1_take _ _ _ e1]; rfl, e1⟩
  have HSO : Hid (SO w gs s vm ve vt pm pe) := hS
  have hgw : gs < w.heap.size := hS.bs.lt
  clear hZ hB e0 e1 ht hS
  go_enter Tryd.func22, Tryd.ntmps22
  go_wp2_with fail
  refine (ris_any kMessage h (by decide +kernel)).mono ?_
  rintro e w0 ⟨rfl, h0, K0⟩
  rw [HE0.out.1] at h0
  rw [HE0.out.2]
  clear h HE0
  go_wp2_with fail
  refine (ris_any kEnum h0 (by decide +kernel)).mono ?_
  rintro e w1 ⟨rfl, h1, k1⟩
  rw [HE.out.1] at h1
  rw [HE.out.2]
  have K1 := K0.trans k1
  clear h0 K0 k1 HE
  go_wp2_with fail
  refine (pname_any h1).mono ?_
  rintro e w2 ⟨rfl, h2, k2⟩
  have K2 := K1.trans k2
  clear h1 K1 k2
  generalize res noT (pOn (.inr r) pName) = x1 at *
  generalize stX (pOn (.inr r) pName) = σ2 at *
  have BM := Blk.new w2 #[.string x1, .slice none 0 0] 69
  have h3 := h2.alloc (.cells #[.string x1, .slice none 0 0] 69)
  have K3 := K2.alloc (.cells #[.string x1, .slice none 0 0] 69)
  have hgM : gp < w2.heap.size := h2.lt
  have hwM : w.heap.size ≤ w2.heap.size := K2.size
  clear h2 K2
  go_wp2_with fail
  refine (rmust_any kOpen h3 (by decide +kernel)).mono ?_
  rintro e w3 ⟨rfl, h4, k4⟩
  generalize w2.heap.size = M at *
  have BM4 := BM.kp k4 (by omega)
  have K4 := K3.trans k4
  clear h3 k4 BM K3
  generalize stX (pOn σ2 (pMust kOpen)) = σ3 at *
  go_wp2_with fail
  go_loopw [49] (fun _ wr => ∃ (m : EnS) (vv : Value) (σ1 : Sg), Hid (Z = pOn σ1 fun r => pValues (r.length + 1) m r) ∧ Hid (wr.ownsRow (M + 1) 93 2 vv m.values.length (nmRows m.values).flatten) ∧ Rf wr gp V ts σ1 ∧ Kp (fun k => k = gp) w wr ∧ Hid (Bd ts.length σ1 m.values.length) ∧ Blk wr M #[.string m.name, vv] 69) (fun _ wr => msrf gp ts.length wr)
  case atStart =>
    have hb : Bd ts.length σ3 0 := ⟨by simp, fun r hr => by have := h4.left; rw [hr] at this; simp only [leftS] at this; simpa using this⟩
    exact ⟨⟨x1, []⟩, _, σ3, HZ0, World.ownsRow_nil _ _ _ _, h4, K4, hb, BM4⟩
  case round =>
    obtain ⟨m, vv, σ, HZ, HF, hr, KR, HB, BM⟩ := hrel
    clear HZ0 h4 K4 BM4
    have hms := msr_rf hr
    have hc2 := bad_cell hr
    rcases shut3 σ with ⟨t', r', rfl, ht', e1, e2⟩ | ⟨n, rfl⟩ | ⟨rs, rfl, hns, e1, e2⟩
    · have eZ : Z = .inr (m, r') := by rw [HZ.out]; exact values_shut ht'
      subst eZ
      have HE : Hid (stX (pOn (.inr (t' :: r')) (pTake [kShut])) = .inr r' ∧ anyS [kShut] (headS (.inr (t' :: r'))) = true) := ⟨e1, e2⟩
      obtain ⟨q1, q2⟩ := HD.out m Res.yes
      simp only [stX] at q1
      have HQ : Hid (stX (pDecl s (t :: r)) = .inr r' ∧ Res (pDecl s (t :: r)) ⟨s.name, s.msgs, s.enums ++ [m], s.methods⟩) := ⟨q1, q2⟩
      clear HZ e1 e2 hms HB ht' q1 q2 HD
      simp only [badS] at hc2
      go_wp2_with fail
      refine (ris_any kShut hr (by decide +kernel)).mono ?_
      rintro e w3 ⟨rfl, h4, k4⟩
      rw [HE.out.1] at h4
      rw [HE.out.2]
      have BM4 := BM.kp k4 (by omega)
      have K4 := KR.trans k4
      have HF4 := own_kpH HF k4 (fun k hk => by omega)
      clear hr KR HF BM k4 HE hc2
      obtain ⟨fa, fc, hvv⟩ := own_form HF4.out
      subst hvv
      obtain ⟨nF, hnF⟩ : ∃ n, m.values.length = n := ⟨_, rfl⟩
      have HNF : Hid (m.values.length = nF) := hnF
      rw [hnF] at BM4
      clear hnF
      go_wp2_with fail
      have HS4 : Hid (SO w3 gs s vm ve vt pm pe) := HSO.out.kp K4 (fun k hk => by omega)
      have BG := HS4.out.bs
      have BE := BM4
      have hM6 : gs + 1 ≤ w3.drew.heap.size := by have := K4.size; show gs + 1 ≤ w3.heap.size; omega
      refine wp_region_held_drew (S := fun _ => True) (by kernel_rfl) trivial (fun hS => ?_)
      refine rg_take 0 75 (.pointer (some ⟨gs, 0, none⟩)) _ rfl rfl (by kernel_rfl) (by kernel_rfl) (by kernel_rfl) (fun _ _ _ h => h) (by rfl) (fun w' hw' => ?_) trivial (listed' := #[true, false, false, false, false, false, false, false, false, false, false]) (by kernel_rfl) rfl ?_
      · go_simp
      simp only [List.setIfInBounds_toArray, List.set_cons_zero, List.set_cons_succ]
      refine rg_take 1 76 (.pointer (some ⟨gs, 0, none⟩)) _ rfl rfl (by kernel_rfl) (by kernel_rfl) (by kernel_rfl) (fun _ _ _ h => h) (by rfl) (fun w' hw' => ?_) trivial (listed' := #[true, true, false, false, false, false, false, false, false, false, false]) (by kernel_rfl) rfl ?_
      · go_simp
      simp only [List.setIfInBounds_toArray, List.set_cons_zero, List.set_cons_succ]
      refine rg_take 2 77 (.pointer (some ⟨gs, 0, none⟩)) _ rfl rfl (by kernel_rfl) (by kernel_rfl) (by kernel_rfl) (fun _ _ _ h => h) (by rfl) (fun w' hw' => ?_) trivial (listed' := #[true, true, true, false, false, false, false, false, false, false, false]) (by kernel_rfl) rfl ?_
      · go_simp
      simp only [List.setIfInBounds_toArray, List.set_cons_zero, List.set_cons_succ]
      refine rg_take 3 78 (.pointer (some ⟨gs, 2, none⟩)) _ rfl rfl (by kernel_rfl) (by kernel_rfl) (by kernel_rfl) (fun _ _ _ h => h) (by rfl) (fun w' hw' => ?_) trivial (listed' := #[true, true, true, true, false, false, false, false, false, false, false]) (by kernel_rfl) rfl ?_
      · go_simp
      simp only [List.setIfInBounds_toArray, List.set_cons_zero, List.set_cons_succ]
      have BGd := BG.below (Below.refl _ _).drew
      have BEd := BE.below (Below.refl _ _).drew
      refine rg_llb 4 5 6 79 80 81 ve (.agg #[.string m.name, .slice fa nF fc]) (.slice (some ⟨w3.drew.heap.size, 0, none⟩) 1 1) (w3.drew.alloc (.cells #[.string m.name, .slice fa nF fc] 69)) rfl rfl rfl rfl rfl rfl (by kernel_rfl) (by kernel_rfl) (by kernel_rfl) (by kernel_rfl) (by kernel_rfl) (fun _ => rfl) (fun _ => rfl) (fun _ => rfl) (by decide) (by decide) (by decide) (by decide) ?g0 ?g1 ?g2 ?g3 ?g4 ?g5 ?g6 ?_
      case g0 => have hg0 := (BGd.cell 2).trans rfl; go_simp
      case g1 => have hg0 := (BGd.cell 2).trans rfl; simp only [List.setIfInBounds_toArray, List.set_cons_zero, List.set_cons_succ]; go_simp
      case g2 => have hg0 : (w3.alloc (.cells #[.string m.name, .slice fa nF fc] 69)).cell? ⟨gs, 2, none⟩ = some (ve) := ((BG.below ((Below.refl _ _).alloc (Nat.le_refl _) (.cells #[.string m.name, .slice fa nF fc] 69))).cell 2).trans rfl; simp only [List.setIfInBounds_toArray, List.set_cons_zero, List.set_cons_succ]; go_simp
      case g3 => have he0 := (BEd.cell 0).trans rfl; have he1 := (BEd.cell 1).trans rfl; go_simp
      case g4 => have he0 := (BEd.cell 0).trans rfl; have he1 := (BEd.cell 1).trans rfl; simp only [List.setIfInBounds_toArray, List.set_cons_zero, List.set_cons_succ]; go_simp
      case g5 => simp only [List.setIfInBounds_toArray, List.set_cons_zero, List.set_cons_succ]; go_simp
      case g6 => simp only [List.setIfInBounds_toArray, List.set_cons_zero, List.set_cons_succ]; go_simp
      simp only [List.setIfInBounds_toArray, List.set_cons_zero, List.set_cons_succ]
      have kW : Kp (fun _ => False) w3 (w3.drew.alloc (.cells #[.string m.name, .slice fa nF fc] 69)) := (Kp.ofBelow (Below.refl _ _).drew).below ((Below.refl _ _).alloc (Nat.le_refl _) (.cells #[.string m.name, .slice fa nF fc] 69))
      have HS5 : Hid (SO (w3.drew.alloc (.cells #[.string m.name, .slice fa nF fc] 69)) gs s vm ve vt pm pe) := HS4.out.kp kW (fun _ _ e => e)
      have h5 : Rf (w3.drew.alloc (.cells #[.string m.name, .slice fa nF fc] 69)) gp V ts (.inr r') := h4.kp kW (fun _ _ e => e)
      have K5 : Kp (fun k => k = gp) w (w3.drew.alloc (.cells #[.string m.name, .slice fa nF fc] 69)) := K4.trans2 kW (fun k hk e => e.elim)
      have HF5 := own_kpH HF4 kW (fun _ _ e => e)
      rw [HNF.out] at HF5
      clear h4 HS4 BG BE BGd BEd BM4 K4
      obtain ⟨v6, w6, hrun, ho6, hg6, _, hat6⟩ := run_append_own_at (P := Tryd.prog) (w3.drew.alloc (.cells #[.string m.name, .slice fa nF fc] 69)) (gs + 1) 24 24 69 i0 _ 2 40 Tryd.underlying24 hi hz0 hz1 hz2 rfl (by decide) _ _ _ HS5.out.en.own ⟨w3.drew.heap.size, 0, none⟩ 1 1 [.string m.name, .slice fa nF fc] rfl (cells_new _ #[.string m.name, .slice fa nF fc] _) (by intro u hu; simp at hu; rcases hu with rfl | rfl <;> rfl) (by unfold maxLen; omega) (by omega) (by have e : (w3.drew.alloc (.cells #[.string m.name, .slice fa nF fc] 69)).heap.size = w3.drew.heap.size + 1 := Array.size_push ..; rw [e]; omega)
      have k56 : Kp (fun k => ve.ownBlock = some k) (w3.drew.alloc (.cells #[.string m.name, .slice fa nF fc] 69)) w6 := (Kp.refl _ _).grown hg6 (fun k hk _ => hk)
      have hvb : ∀ k, ve.ownBlock = some k → gs + 1 ≤ k := fun k hk => (HS5.out.en.own.lt k hk).1
      have h7 : Rf w6 gp V ts (.inr r') := h5.kp k56 (fun k hk e => by have := hvb k e; omega)
      have K7 : Kp (fun k => k = gp ∨ gs ≤ k) w w6 := (K5.weak (fun _ _ e => .inl e)).trans2 k56 (fun k hk e => .inr (by have := hvb k e; omega))
      have BM7 := HS5.out.bs.kp k56 (fun e => by have := hvb _ e; omega)
      obtain ⟨nA, hnA⟩ : ∃ n, s.enums.length = n := ⟨_, rfl⟩
      have HNA : Hid (s.enums.length = nA) := hnA
      rw [hnA] at ho6
      obtain ⟨va, vc, hvv⟩ := own_form ho6
      subst hvv
      have HSF : Hid (SO (w6.setCell ⟨gs, 2, none⟩ (.slice va (nA + 1) vc)) gs ⟨s.name, s.msgs, s.enums ++ [m], s.methods⟩ vm (.slice va (nA + 1) vc) vt pm (pe ++ [.slice fa nF fc])) := HS5.out.enu (m := m) (H := M + 1) (by omega) (by rw [HNF.out]; exact HF5.out) (by rw [HNA.out]; exact ho6) k56
      have mc' := BM7.cell 2
      have mf := BM7.froz 2
      simp only [List.getElem?_toArray, List.getElem?_cons_succ, List.getElem?_cons_zero] at mc'
      clear ho6 hg6 hat6 k56 hvb HS5 h5 K5 BM7 hnA kW
      refine rg_run 7 82 (.slice va (nA + 1) vc) (w6) rfl rfl (by kernel_rfl) (by rfl) (listed' := #[true, true, true, true, true, true, true, true, false, false, false]) (by kernel_rfl) ?_ trivial ?_
      · exact append_run rfl rfl rfl hrun
      simp only [List.setIfInBounds_toArray, List.set_cons_zero, List.set_cons_succ]
      clear hrun
      refine rg_run 8 83 (.pointer (some ⟨gs, 0, none⟩)) (w6) rfl rfl (by kernel_rfl) (by rfl) (listed' := #[true, true, true, true, true, true, true, true, true, false, false]) (by kernel_rfl) ?_ trivial ?_
      · go_simp
      simp only [List.setIfInBounds_toArray, List.set_cons_zero, List.set_cons_succ]
      refine rg_run 9 84 (.pointer (some ⟨gs, 2, none⟩)) (w6) rfl rfl (by kernel_rfl) (by rfl) (listed' := #[true, true, true, true, true, true, true, true, true, true, false]) (by kernel_rfl) ?_ trivial ?_
      · go_simp
      simp only [List.setIfInBounds_toArray, List.set_cons_zero, List.set_cons_succ]
      refine rg_store 10 (w6.setCell ⟨gs, 2, none⟩ (.slice va (nA + 1) vc)) rfl rfl (by kernel_rfl) (by rfl) (listed' := #[true, true, true, true, true, true, true, true, true, true, true]) (by kernel_rfl) ?_ trivial ?_
      · go_simp
      refine wpAnyH_done (by kernel_rfl) ?_ _
      have h9 : Rf (w6.setCell ⟨gs, 2, none⟩ (.slice va (nA + 1) vc)) gp V ts (.inr r') := h7.other hgs _
      have K9 : Kp (fun k => k = gp ∨ gs ≤ k) w (w6.setCell ⟨gs, 2, none⟩ (.slice va (nA + 1) vc)) := K7.setCell (fun _ => .inr (Nat.le_refl _)) _
      clear h7 K7 mc' mf
      go_wp2_with fail
      refine bodyPost_end (results_none' rfl _ _ _) rfl ?_
      exact ⟨rfl, ⟨s.name, s.msgs, s.enums ++ [m], s.methods⟩, _, _, _, _, _, HQ.out.2, by rw [HQ.out.1]; exact h9, HSF.out, K9, HBD.out m⟩
    · have eZ : Z = .inl n := by rw [HZ.out]; rfl
      subst eZ
      obtain ⟨q1, q2⟩ := HD.out m Res.no
      simp only [stX] at q1
      have HQ : Hid (stX (pDecl s (t :: r)) = .inl n ∧ Res (pDecl s (t :: r)) ⟨s.name, s.msgs, s.enums ++ [m], s.methods⟩) := ⟨q1, q2⟩
      clear HZ hms HB q1 q2 HD
      simp only [badS] at hc2
      have h4 := hr
      have K4 := KR
      have BM4 := BM
      have HF4 := HF
      clear hr KR HF BM
      obtain ⟨fa, fc, hvv⟩ := own_form HF4.out
      subst hvv
      obtain ⟨nF, hnF⟩ : ∃ n, m.values.length = n := ⟨_, rfl⟩
      have HNF : Hid (m.values.length = nF) := hnF
      rw [hnF] at BM4
      clear hnF
      go_wp2_with fail
      clear hc2
      have HS4 : Hid (SO wr gs s vm ve vt pm pe) := HSO.out.kp K4 (fun k hk => by omega)
      have BG := HS4.out.bs
      have BE := BM4
      have hM6 : gs + 1 ≤ wr.drew.heap.size := by have := K4.size; show gs + 1 ≤ wr.heap.size; omega
      refine wp_region_held_drew (S := fun _ => True) (by kernel_rfl) trivial (fun hS => ?_)
      refine rg_take 0 75 (.pointer (some ⟨gs, 0, none⟩)) _ rfl rfl (by kernel_rfl) (by kernel_rfl) (by kernel_rfl) (fun _ _ _ h => h) (by rfl) (fun w' hw' => ?_) trivial (listed' := #[true, false, false, false, false, false, false, false, false, false, false]) (by kernel_rfl) rfl ?_
      · go_simp
      simp only [List.setIfInBounds_toArray, List.set_cons_zero, List.set_cons_succ]
      refine rg_take 1 76 (.pointer (some ⟨gs, 0, none⟩)) _ rfl rfl (by kernel_rfl) (by kernel_rfl) (by kernel_rfl) (fun _ _ _ h => h) (by rfl) (fun w' hw' => ?_) trivial (listed' := #[true, true, false, false, false, false, false, false, false, false, false]) (by kernel_rfl) rfl ?_
      · go_simp
      simp only [List.setIfInBounds_toArray, List.set_cons_zero, List.set_cons_succ]
      refine rg_take 2 77 (.pointer (some ⟨gs, 0, none⟩)) _ rfl rfl (by kernel_rfl) (by kernel_rfl) (by kernel_rfl) (fun _ _ _ h => h) (by rfl) (fun w' hw' => ?_) trivial (listed' := #[true, true, true, false, false, false, false, false, false, false, false]) (by kernel_rfl) rfl ?_
      · go_simp
      simp only [List.setIfInBounds_toArray, List.set_cons_zero, List.set_cons_succ]
      refine rg_take 3 78 (.pointer (some ⟨gs, 2, none⟩)) _ rfl rfl (by kernel_rfl) (by kernel_rfl) (by kernel_rfl) (fun _ _ _ h => h) (by rfl) (fun w' hw' => ?_) trivial (listed' := #[true, true, true, true, false, false, false, false, false, false, false]) (by kernel_rfl) rfl ?_
      · go_simp
      simp only [List.setIfInBounds_toArray, List.set_cons_zero, List.set_cons_succ]
      have BGd := BG.below (Below.refl _ _).drew
      have BEd := BE.below (Below.refl _ _).drew
      refine rg_llb 4 5 6 79 80 81 ve (.agg #[.string m.name, .slice fa nF fc]) (.slice (some ⟨wr.drew.heap.size, 0, none⟩) 1 1) (wr.drew.alloc (.cells #[.string m.name, .slice fa nF fc] 69)) rfl rfl rfl rfl rfl rfl (by kernel_rfl) (by kernel_rfl) (by kernel_rfl) (by kernel_rfl) (by kernel_rfl) (fun _ => rfl) (fun _ => rfl) (fun _ => rfl) (by decide) (by decide) (by decide) (by decide) ?g0 ?g1 ?g2 ?g3 ?g4 ?g5 ?g6 ?_
      case g0 => have hg0 := (BGd.cell 2).trans rfl; go_simp
      case g1 => have hg0 := (BGd.cell 2).trans rfl; simp only [List.setIfInBounds_toArray, List.set_cons_zero, List.set_cons_succ]; go_simp
      case g2 => have hg0 : (wr.alloc (.cells #[.string m.name, .slice fa nF fc] 69)).cell? ⟨gs, 2, none⟩ = some (ve) := ((BG.below ((Below.refl _ _).alloc (Nat.le_refl _) (.cells #[.string m.name, .slice fa nF fc] 69))).cell 2).trans rfl; simp only [List.setIfInBounds_toArray, List.set_cons_zero, List.set_cons_succ]; go_simp
      case g3 => have he0 := (BEd.cell 0).trans rfl; have he1 := (BEd.cell 1).trans rfl; go_simp
      case g4 => have he0 := (BEd.cell 0).trans rfl; have he1 := (BEd.cell 1).trans rfl; simp only [List.setIfInBounds_toArray, List.set_cons_zero, List.set_cons_succ]; go_simp
      case g5 => simp only [List.setIfInBounds_toArray, List.set_cons_zero, List.set_cons_succ]; go_simp
      case g6 => simp only [List.setIfInBounds_toArray, List.set_cons_zero, List.set_cons_succ]; go_simp
      simp only [List.setIfInBounds_toArray, List.set_cons_zero, List.set_cons_succ]
      have kW : Kp (fun _ => False) wr (wr.drew.alloc (.cells #[.string m.name, .slice fa nF fc] 69)) := (Kp.ofBelow (Below.refl _ _).drew).below ((Below.refl _ _).alloc (Nat.le_refl _) (.cells #[.string m.name, .slice fa nF fc] 69))
      have HS5 : Hid (SO (wr.drew.alloc (.cells #[.string m.name, .slice fa nF fc] 69)) gs s vm ve vt pm pe) := HS4.out.kp kW (fun _ _ e => e)
      have h5 : Rf (wr.drew.alloc (.cells #[.string m.name, .slice fa nF fc] 69)) gp V ts (.inl n) := h4.kp kW (fun _ _ e => e)
      have K5 : Kp (fun k => k = gp) w (wr.drew.alloc (.cells #[.string m.name, .slice fa nF fc] 69)) := K4.trans2 kW (fun k hk e => e.elim)
      have HF5 := own_kpH HF4 kW (fun _ _ e => e)
      rw [HNF.out] at HF5
      clear h4 HS4 BG BE BGd BEd BM4 K4
      obtain ⟨v6, w6, hrun, ho6, hg6, _, hat6⟩ := run_append_own_at (P := Tryd.prog) (wr.drew.alloc (.cells #[.string m.name, .slice fa nF fc] 69)) (gs + 1) 24 24 69 i0 _ 2 40 Tryd.underlying24 hi hz0 hz1 hz2 rfl (by decide) _ _ _ HS5.out.en.own ⟨wr.drew.heap.size, 0, none⟩ 1 1 [.string m.name, .slice fa nF fc] rfl (cells_new _ #[.string m.name, .slice fa nF fc] _) (by intro u hu; simp at hu; rcases hu with rfl | rfl <;> rfl) (by unfold maxLen; omega) (by omega) (by have e : (wr.drew.alloc (.cells #[.string m.name, .slice fa nF fc] 69)).heap.size = wr.drew.heap.size + 1 := Array.size_push ..; rw [e]; omega)
      have k56 : Kp (fun k => ve.ownBlock = some k) (wr.drew.alloc (.cells #[.string m.name, .slice fa nF fc] 69)) w6 := (Kp.refl _ _).grown hg6 (fun k hk _ => hk)
      have hvb : ∀ k, ve.ownBlock = some k → gs + 1 ≤ k := fun k hk => (HS5.out.en.own.lt k hk).1
      have h7 : Rf w6 gp V ts (.inl n) := h5.kp k56 (fun k hk e => by have := hvb k e; omega)
      have K7 : Kp (fun k => k = gp ∨ gs ≤ k) w w6 := (K5.weak (fun _ _ e => .inl e)).trans2 k56 (fun k hk e => .inr (by have := hvb k e; omega))
      have BM7 := HS5.out.bs.kp k56 (fun e => by have := hvb _ e; omega)
      obtain ⟨nA, hnA⟩ : ∃ n, s.enums.length = n := ⟨_, rfl⟩
      have HNA : Hid (s.enums.length = nA) := hnA
      rw [hnA] at ho6
      obtain ⟨va, vc, hvv⟩ := own_form ho6
      subst hvv
      have HSF : Hid (SO (w6.setCell ⟨gs, 2, none⟩ (.slice va (nA + 1) vc)) gs ⟨s.name, s.msgs, s.enums ++ [m], s.methods⟩ vm (.slice va (nA + 1) vc) vt pm (pe ++ [.slice fa nF fc])) := HS5.out.enu (m := m) (H := M + 1) (by omega) (by rw [HNF.out]; exact HF5.out) (by rw [HNA.out]; exact ho6) k56
      have mc' := BM7.cell 2
      have mf := BM7.froz 2
      simp only [List.getElem?_toArray, List.getElem?_cons_succ, List.getElem?_cons_zero] at mc'
      clear ho6 hg6 hat6 k56 hvb HS5 h5 K5 BM7 hnA kW
      refine rg_run 7 82 (.slice va (nA + 1) vc) (w6) rfl rfl (by kernel_rfl) (by rfl) (listed' := #[true, true, true, true, true, true, true, true, false, false, false]) (by kernel_rfl) ?_ trivial ?_
      · exact append_run rfl rfl rfl hrun
      simp only [List.setIfInBounds_toArray, List.set_cons_zero, List.set_cons_succ]
      clear hrun
      refine rg_run 8 83 (.pointer (some ⟨gs, 0, none⟩)) (w6) rfl rfl (by kernel_rfl) (by rfl) (listed' := #[true, true, true, true, true, true, true, true, true, false, false]) (by kernel_rfl) ?_ trivial ?_
      · go_simp
      simp only [List.setIfInBounds_toArray, List.set_cons_zero, List.set_cons_succ]
      refine rg_run 9 84 (.pointer (some ⟨gs, 2, none⟩)) (w6) rfl rfl (by kernel_rfl) (by rfl) (listed' := #[true, true, true, true, true, true, true, true, true, true, false]) (by kernel_rfl) ?_ trivial ?_
      · go_simp
      simp only [List.setIfInBounds_toArray, List.set_cons_zero, List.set_cons_succ]
      refine rg_store 10 (w6.setCell ⟨gs, 2, none⟩ (.slice va (nA + 1) vc)) rfl rfl (by kernel_rfl) (by rfl) (listed' := #[true, true, true, true, true, true, true, true, true, true, true]) (by kernel_rfl) ?_ trivial ?_
      · go_simp
      refine wpAnyH_done (by kernel_rfl) ?_ _
      have h9 : Rf (w6.setCell ⟨gs, 2, none⟩ (.slice va (nA + 1) vc)) gp V ts (.inl n) := h7.other hgs _
      have K9 : Kp (fun k => k = gp ∨ gs ≤ k) w (w6.setCell ⟨gs, 2, none⟩ (.slice va (nA + 1) vc)) := K7.setCell (fun _ => .inr (Nat.le_refl _)) _
      clear h7 K7 mc' mf
      go_wp2_with fail
      refine bodyPost_end (results_none' rfl _ _ _) rfl ?_
      exact ⟨rfl, ⟨s.name, s.msgs, s.enums ++ [m], s.methods⟩, _, _, _, _, _, HQ.out.2, by rw [HQ.out.1]; exact h9, HSF.out, K9, HBD.out m⟩
    · have HE : Hid (stX (pOn (.inr rs) (pTake [kShut])) = .inr rs ∧ anyS [kShut] (headS (.inr rs)) = false) := ⟨e1, e2⟩
      have HZ2 : Hid (∀ v : NmS, Res (pValue rs) v → Z = pOn (stX (pValue rs)) fun r => pValues (r.length + 1) ⟨m.name, m.values ++ [v]⟩ r) := by
        intro v hv
        rw [HZ.out]
        exact values_step hns hv
      have HB2 : Hid (Bd ts.length (stX (pValue rs)) (m.values.length + 1)) := HB.out.step (value_lt rs)
      have hlen : m.values.length ≤ 100000 := by have := HB.out.2 rs rfl; omega
      have HW : Hid (weigh (stX (pValue rs)) < msrf gp ts.length wr) := by show _ < _; rw [hms]; exact weigh_lt (value_lt rs) (value_in rs)
      have HV : Hid (stX (pOn (stX (pOn (stX (pOn (stX (pOn (.inr rs) pName)) (pMust kEq))) pNum)) (pMust kSemi)) = stX (pValue rs) ∧ Res (pValue rs) ⟨res noT (pOn (.inr rs) pName), (res 0 (pOn (stX (pOn (stX (pOn (.inr rs) pName)) (pMust kEq))) pNum) : Nat)⟩) := value_st (.inr rs)
      clear HZ e1 e2 hms hns HB
      simp only [badS] at hc2
      go_wp2_with fail
      refine (ris_any kShut hr (by decide +kernel)).mono ?_
      rintro e w3 ⟨rfl, h4, k4⟩
      rw [HE.out.1] at h4
      rw [HE.out.2]
      have BM4 := BM.kp k4 (by omega)
      have K4 := KR.trans k4
      have HF4 := own_kpH HF k4 (fun k hk => by omega)
      clear hr KR HF BM k4 HE hc2
      go_wp2_with fail
      refine (pname_any h4).mono ?_
      rintro e w4 ⟨rfl, h5, k5⟩
      have BM5 := BM4.kp k5 (by omega)
      have K5 := K4.trans k5
      have HF5 := own_kpH HF4 k5 (fun k hk => by omega)
      clear h4 k5 BM4 K4 HF4
      generalize res noT (pOn (.inr rs) pName) = y1 at *
      generalize stX (pOn (.inr rs) pName) = σ4 at *
      have BN := Blk.new w4 #[.string y1, .int .i64 0] 93
      have kN : Kp (fun k => k = gp) w4 (w4.alloc (.cells #[.string y1, .int .i64 0] 93)) := (Kp.refl _ _).alloc _
      have h6 := h5.alloc (.cells #[.string y1, .int .i64 0] 93)
      have K6 := K5.trans kN
      have BM6 := BM5.kp kN (by omega)
      have HF6 := own_kpH HF5 kN (fun k hk => by omega)
      have hMN : M + 1 ≤ w4.heap.size := BM5.lt
      have HVB : Hid (∀ k, vv.ownBlock = some k → k < w4.heap.size) := fun k hk => (HF5.out.lt k hk).2
      have hwN : w.heap.size ≤ w4.heap.size := K5.size
      clear h5 K5 BM5 HF5 kN
      go_wp2_with fail
      refine (rmust_any kEq h6 (by decide +kernel)).mono ?_
      rintro e w5 ⟨rfl, h7, k7⟩
      generalize w4.heap.size = N at *
      have BN7 := BN.kp k7 (by omega)
      have BM7 := BM6.kp k7 (by omega)
      have K7 := K6.trans k7
      have HF7 := own_kpH HF6 k7 (fun k hk => by omega)
      clear h6 k7 BN BM6 K6 HF6
      generalize stX (pOn σ4 (pMust kEq)) = σ5 at *
      go_wp2_with fail
      refine (pnumber_any h7).mono ?_
      rintro e w6 ⟨rfl, h8, k8⟩
      have BN8 := BN7.kp k8 (by omega)
      have BM8 := BM7.kp k8 (by omega)
      have K8 := K7.trans k8
      have HF8 := own_kpH HF7 k8 (fun k hk => by omega)
      clear h7 k8 BN7 BM7 K7 HF7
      generalize (res 0 (pOn σ5 pNum) : Nat) = y2 at *
      generalize stX (pOn σ5 pNum) = σ6 at *
      have s0 := BN8.cell 1
      have f0 := BN8.froz 1
      simp only [List.getElem?_toArray, List.getElem?_cons_succ, List.getElem?_cons_zero] at s0
      have kS : Kp (fun k => k = N) w6 (w6.setCell ⟨N, 1, none⟩ (.int .i64 (y2 : Int))) := gs_kp w6 N 1 _
      have BN9 := BN8.set 1 (.int .i64 (y2 : Int)) rfl
      simp only [List.setIfInBounds_toArray, List.set_cons_zero, List.set_cons_succ] at BN9
      have BM9 := BM8.kp kS (by omega)
      have h9 : Rf (w6.setCell ⟨N, 1, none⟩ (.int .i64 (y2 : Int))) gp V ts σ6 := h8.other (by simp only; omega) _
      have K9 : Kp (fun k => k = gp) w (w6.setCell ⟨N, 1, none⟩ (.int .i64 (y2 : Int))) := K8.setCell (fun hlt => by simp only at hlt; omega) _
      have HF9 : Hid ((w6.setCell ⟨N, 1, none⟩ (.int .i64 (y2 : Int))).ownsRow (M + 1) 93 2 vv m.values.length (nmRows m.values).flatten) := own_kpV HF8.out kS (fun k hk e => by have := HVB.out k hk; omega)
      go_wp2_with fail
      clear s0 f0 kS BN8 BM8 h8 K8 HF8
      refine (rmust_any kSemi h9 (by decide +kernel)).mono ?_
      rintro e w7 ⟨rfl, h10, k10⟩
      have BN10 := BN9.kp k10 (by omega)
      have BM10 := BM9.kp k10 (by omega)
      have K10 := K9.trans k10
      have HF10 := own_kpH HF9 k10 (fun k hk => by omega)
      clear h9 k10 BN9 BM9 K9 HF9
      rw [HV.out.1] at h10
      have HZ3 : Hid (Z = pOn (stX (pValue rs)) fun r => pValues (r.length + 1) ⟨m.name, m.values ++ [⟨y1, (y2 : Int)⟩]⟩ r) := HZ2.out _ HV.out.2
      clear HZ2 HV
      generalize stX (pValue rs) = σ7 at *
      obtain ⟨nA, hnA⟩ : ∃ n, m.values.length = n := ⟨_, rfl⟩
      rw [hnA] at hlen HF10 HB2
      have HNA : Hid (m.values.length = nA) := hnA
      clear hnA
      have m1 := BM10.cell 1
      have fm1 := BM10.froz 1
      have n0 := BN10.cell 0
      have n1 := BN10.cell 1
      simp only [List.getElem?_toArray, List.getElem?_cons_succ, List.getElem?_cons_zero] at m1 n0 n1
      have hM7 : M + 1 ≤ w7.heap.size := BM10.lt
      have HMV : Hid (∀ W : World, Kp (fun k => M + 1 ≤ k) w7 W → W.cell? ⟨M, 1, none⟩ = some vv ∧ W.frozen? ⟨M, 1, none⟩ = false) := fun W hW => by
        have := BM10.kp hW (by omega)
        exact ⟨(this.cell 1).trans rfl, this.froz 1⟩
      go_wp2_with (first
        | (at_builtin; refine wpList_append_own_at _ rfl _ _ 67 rfl (M + 1) 93 iN _ 2 24 Tryd.underlying67 hiN hzN0 hzN1 hzN2 rfl (by decide) _ _ _ rfl (HF10.out.alloc _) ⟨w7.heap.size, 0, none⟩ 1 1 [.string y1, .int .i64 (y2 : Int)] rfl rfl (cells_new _ #[.string y1, .int .i64 (y2 : Int)] _) ?c2 ?c3 ?c4 ?c5 ?_)
        | fail)
      case c2 => intro u hu; simp at hu; rcases hu with rfl | rfl <;> rfl
      case c3 => unfold maxLen; omega
      case c4 => omega
      case c5 => simp; omega
      intro v8 w8 ho6 hg6 _ hat6
      have k56 : Kp (fun k => M + 1 ≤ k) w7 w8 := ((Kp.refl _ _).alloc _).grown hg6 (fun k hk _ => (HF10.out.lt k hk).1)
      have h11 : Rf w8 gp V ts σ7 := h10.kp k56 (fun k hk => by omega)
      have BM11 := BM10.kp k56 (by omega)
      have K11 : Kp (fun k => k = gp) w w8 := K10.trans2 k56 (fun k hk hS => by omega)
      obtain ⟨mc, mf⟩ := HMV.out w8 k56
      have HO6 : Hid (w8.ownsRow (M + 1) 93 2 v8 (m.values ++ [(⟨y1, (y2 : Int)⟩ : NmS)]).length (nmRows (m.values ++ [⟨y1, (y2 : Int)⟩])).flatten) := by
        show World.ownsRow _ _ _ _ _ _ _
        rw [nm_snoc, List.length_append, HNA.out]; exact ho6
      have HB6 : Hid (Bd ts.length σ7 (m.values ++ [(⟨y1, (y2 : Int)⟩ : NmS)]).length) := by
        show Bd _ _ _
        rw [List.length_append, HNA.out]; exact HB2.out
      obtain ⟨va, vc, hv6⟩ := own_form ho6
      subst hv6
      clear ho6 hg6 hat6 k56 HF10 h10 K10 BM10 HMV m1 fm1 n0 n1 HB2 BN10
      have h12 : Rf (w8.setCell ⟨M, 1, none⟩ (.slice va (nA + 1) vc)) gp V ts σ7 := h11.other hgM _
      have BM12 : Blk (w8.setCell ⟨M, 1, none⟩ (.slice va (nA + 1) vc)) M #[.string m.name, .slice va (nA + 1) vc] 69 := BM11.set 1 _ rfl
      have K12 : Kp (fun k => k = gp) w (w8.setCell ⟨M, 1, none⟩ (.slice va (nA + 1) vc)) := K11.setCell (fun hlt => by simp only at hlt; omega) _
      have HO7 : Hid ((w8.setCell ⟨M, 1, none⟩ (.slice va (nA + 1) vc)).ownsRow (M + 1) 93 2 (.slice va (nA + 1) vc) (m.values ++ [(⟨y1, (y2 : Int)⟩ : NmS)]).length (nmRows (m.values ++ [⟨y1, (y2 : Int)⟩])).flatten) := own_kp HO6.out (gs_kp w8 M 1 _) (fun k hk => by omega)
      have HM : Hid (msrf gp ts.length (w8.setCell ⟨M, 1, none⟩ (.slice va (nA + 1) vc)) < msrf gp ts.length wr) := by
        show _ < _
        rw [msr_rf h12]; exact HW.out
      clear h11 BM11 K11 HO6 HW
      go_wp2_with fail
      go_roundw
      case rel => exact ⟨⟨m.name, m.values ++ [⟨y1, (y2 : Int)⟩]⟩, _, σ7, HZ3, HO7, h12, K12, HB6, BM12⟩
      case measure => exact HM.out
end Go.Proofs.YtfffjfccochccaaDoor
/- What the reference's 'decl' does: a call, and what is none. -/
namespace Go.Proofs.YtfffjfccochccaaDoor
open Go.ChangeShapes Go.WideShapes Go.ChangeAt Go.RowKit
set_option linter.unusedVariables false
set_option linter.unusedSimpArgs false
set_option maxRecDepth 20000

theorem call_chain {σ σ1 σ2 σ3 σ4 σ5 σ6 σ7 σ8 σ9 : Sg} {n a b : ByteArray} (e1 : stX (pOn σ pName) = σ1) (n1 : res noT (pOn σ pName) = n) (e2 : stX (pOn σ1 (pMust kPar)) = σ2) (e3 : stX (pOn σ2 pName) = σ3) (a3 : res noT (pOn σ2 pName) = a) (e4 : stX (pOn σ3 (pMust kRap)) = σ4) (e5 : stX (pOn σ4 (pMust kReturns)) = σ5)
    (e6 : stX (pOn σ5 (pMust kPar)) = σ6) (e7 : stX (pOn σ6 pName) = σ7) (b7 : res noT (pOn σ6 pName) = b) (e8 : stX (pOn σ7 (pMust kRap)) = σ8) (e9 : stX (pOn σ8 (pMust kSemi)) = σ9) : σ9 = stX (pOn σ pCall) ∧ Res (pOn σ pCall) ⟨n, a, b⟩ := by
  have h1 := in_st σ1
  have h2 := in_st σ5
  rw [e2, e3, e4] at h1
  rw [e6, e7, e8] at h2
  rw [a3] at h1
  rw [b7] at h2
  have ha : Res (pOn (stX (pOn σ pName)) pIn) a := by rw [e1]; exact h1.2
  have hb : Res (pOn (stX (pOn (stX (pOn (stX (pOn σ pName)) pIn)) (pMust kReturns))) pIn) b := by rw [e1, ← h1.1, e5]; exact h2.2
  have h3 := call_st σ a b ha hb
  rw [n1] at h3
  rw [e1, ← h1.1, e5, ← h2.1, e9] at h3
  exact h3
set_option maxHeartbeats 8000000 in
theorem rdecl_call {w : World} {gp gs : Nat} {V : Value} {ts : List Tk} {t : ByteArray} {r : List ByteArray} {s : ScS} {vm ve vt : Value} {pm : List (Value × Value)} {pe : List Value} (h : Rf w gp V ts (.inr (t :: r))) (ht : t.data.toList = kCall.data.toList) (hgs : gp < gs) (hS : SO w gs s vm ve vt pm pe) (hB : Bd3 ts.length (.inr (t :: r)) s) :
    Calls Tryd.prog 22 #[.pointer (some ⟨gp, 0, none⟩), .pointer (some ⟨gs, 0, none⟩)] w fun e w' => e = .returned (.tuple #[]) ∧ DeclQ w gp gs V ts s (t :: r) w' := by
  obtain ⟨i0, hi, hz0, hz1, hz2⟩ := info_parts infoT
  have hfew := h.few
  have HD : Hid (∀ m, Res (pCall r) m → stX (pDecl s (t :: r)) = stX (pCall r) ∧ Res (pDecl s (t :: r)) ⟨s.name, s.msgs, s.enums, s.methods ++ [m]⟩) := fun m hm => decl_call ht hm
  have HBD : Hid (∀ m, Bd3 ts.length (stX (pDecl s (t :: r))) ⟨s.name, s.msgs, s.enums, s.methods ++ [m]⟩) := fun m => ⟨hB.1.keep (decl_lt s (t :: r)).le, hB.2.1.keep (decl_lt s (t :: r)).le, by show Bd _ _ (s.methods ++ [m]).length; rw [List.length_append]; exact hB.2.2.step (decl_lt s (t :: r))⟩
  have hlenM : s.methods.length ≤ 100000 := by have := hB.2.2.2 _ rfl; omega
  have e0 : anyS [kMessage] t = false := by rw [any_one, ht]; decide +kernel
  have e0' : anyS [kEnum] t = false := by rw [any_one, ht]; decide +kernel
  have e1 : anyS [kCall] t = true := by rw [any_one, ht]; decide +kernel
  have HE0 : Hid (stX (pOn (.inr (t :: r)) (pTake [kMessage])) = .inr (t :: r) ∧ anyS [kMessage] (headS (.inr (t :: r))) = false) := ⟨by rw [take_no e0]; rfl, e0⟩
  have HE1 : Hid (stX (pOn (.inr (t :: r)) (pTake [kEnum])) = .inr (t :: r) ∧ anyS [kEnum] (headS (.inr (t :: r))) = false) := ⟨by rw [take_no e0']; rfl, e0'⟩
  have HE : Hid (stX (pOn (.inr (t :: r)) (pTake [kCall])) = .inr r ∧ anyS [kCall] (headS (.inr (t :: r))) = true) := ⟨by rw [any1_take _ _ _ e1]; rfl, e1⟩
  have HSO : Hid (SO w gs s vm ve vt pm pe) := hS
  have hgw : gs < w.heap.size := hS.bs.lt
  clear hB e0 e0' e1 ht hS
  go_enter Tryd.func22, Tryd.ntmps22
  go_wp2_with fail
  refine (ris_any kMessage h (by decide +kernel)).mono ?_
  rintro e w0 ⟨rfl, h0, K0⟩
  rw [HE0.out.1] at h0
  rw [HE0.out.2]
  clear h HE0
  go_wp2_with fail
  refine (ris_any kEnum h0 (by decide +kernel)).mono ?_
  rintro e w0' ⟨rfl, h0', k0'⟩
  rw [HE1.out.1] at h0'
  rw [HE1.out.2]
  have K0' := K0.trans k0'
  clear h0 K0 k0' HE1
  go_wp2_with fail
  refine (ris_any kCall h0' (by decide +kernel)).mono ?_
  rintro e w1 ⟨rfl, h1, k1⟩
  rw [HE.out.1] at h1
  rw [HE.out.2]
  have K1 := K0'.trans k1
  clear h0' K0' k1 HE
  go_wp2_with fail
  refine (pname_any h1).mono ?_
  rintro e w2 ⟨rfl, h2, k2⟩
  have K2 := K1.trans k2
  clear h1 K1 k2
  obtain ⟨x1, n1⟩ : ∃ x, res noT (pOn (.inr r) pName) = x := ⟨_, rfl⟩
  obtain ⟨σ1, e1⟩ : ∃ x, stX (pOn (.inr r) pName) = x := ⟨_, rfl⟩
  rw [e1] at h2
  rw [n1]
  have E1 : Hid (stX (pOn (.inr r) pName) = σ1 ∧ res noT (pOn (.inr r) pName) = x1) := ⟨e1, n1⟩
  clear e1 n1
  have BM := Blk.new w2 #[.string x1, .string ⟨#[]⟩, .string ⟨#[]⟩] 73
  have h3 := h2.alloc (.cells #[.string x1, .string ⟨#[]⟩, .string ⟨#[]⟩] 73)
  have K3 := K2.alloc (.cells #[.string x1, .string ⟨#[]⟩, .string ⟨#[]⟩] 73)
  have hgM : gp < w2.heap.size := h2.lt
  have hwM : w.heap.size ≤ w2.heap.size := K2.size
  clear h2 K2
  go_wp2_with fail
  refine (rmust_any kPar h3 (by decide +kernel)).mono ?_
  rintro e w3 ⟨rfl, hw3, kw3⟩
  generalize w2.heap.size = M at *
  have Bw3 := BM.kp kw3 (by omega)
  have Kw3 := K3.trans kw3
  obtain ⟨σ2, e2⟩ : ∃ x, stX (pOn σ1 (pMust kPar)) = x := ⟨_, rfl⟩
  rw [e2] at hw3
  have E2 : Hid (stX (pOn σ1 (pMust kPar)) = σ2) := e2
  clear e2 h3 kw3 BM K3
  go_wp2_with fail
  refine (pname_any hw3).mono ?_
  rintro e w4 ⟨rfl, hw4, kw4⟩
  have Bw4 := Bw3.kp kw4 (by omega)
  have Kw4 := Kw3.trans kw4
  obtain ⟨x2, a1⟩ : ∃ x, res noT (pOn σ2 pName) = x := ⟨_, rfl⟩
  obtain ⟨σ3, e1⟩ : ∃ x, stX (pOn σ2 pName) = x := ⟨_, rfl⟩
  rw [e1] at hw4
  rw [a1]
  have E3 : Hid (stX (pOn σ2 pName) = σ3 ∧ res noT (pOn σ2 pName) = x2) := ⟨e1, a1⟩
  clear e1 a1 hw3 kw4 Bw3 Kw3
  have s0 := Bw4.cell 1
  have f0 := Bw4.froz 1
  simp only [List.getElem?_toArray, List.getElem?_cons_succ, List.getElem?_cons_zero] at s0
  have hSw4 : Rf (w4.setCell ⟨M, 1, none⟩ (.string x2)) gp V ts σ3 := hw4.other hgM _
  have BSw4 := Bw4.set 1 (.string x2) rfl
  simp only [List.setIfInBounds_toArray, List.set_cons_zero, List.set_cons_succ] at BSw4
  have KSw4 : Kp (fun k => k = gp) w (w4.setCell ⟨M, 1, none⟩ (.string x2)) := Kw4.setCell (fun hlt => by simp only at hlt; omega) _
  go_wp2_with fail
  clear s0 f0 hw4 Bw4 Kw4
  refine (rmust_any kRap hSw4 (by decide +kernel)).mono ?_
  rintro e w5 ⟨rfl, hw5, kw5⟩

  have Bw5 := BSw4.kp kw5 (by omega)
  have Kw5 := KSw4.trans kw5
  obtain ⟨σ4, e4⟩ : ∃ x, stX (pOn σ3 (pMust kRap)) = x := ⟨_, rfl⟩
  rw [e4] at hw5
  have E4 : Hid (stX (pOn σ3 (pMust kRap)) = σ4) := e4
  clear e4 hSw4 kw5 BSw4 KSw4
  go_wp2_with fail
  refine (rmust_any kReturns hw5 (by decide +kernel)).mono ?_
  rintro e w6a ⟨rfl, hw6a, kw6a⟩

  have Bw6a := Bw5.kp kw6a (by omega)
  have Kw6a := Kw5.trans kw6a
  obtain ⟨σ5, e5⟩ : ∃ x, stX (pOn σ4 (pMust kReturns)) = x := ⟨_, rfl⟩
  rw [e5] at hw6a
  have E5 : Hid (stX (pOn σ4 (pMust kReturns)) = σ5) := e5
  clear e5 hw5 kw6a Bw5 Kw5
  go_wp2_with fail
  refine (rmust_any kPar hw6a (by decide +kernel)).mono ?_
  rintro e w7 ⟨rfl, hw7, kw7⟩

  have Bw7 := Bw6a.kp kw7 (by omega)
  have Kw7 := Kw6a.trans kw7
  obtain ⟨σ6, e6⟩ : ∃ x, stX (pOn σ5 (pMust kPar)) = x := ⟨_, rfl⟩
  rw [e6] at hw7
  have E6 : Hid (stX (pOn σ5 (pMust kPar)) = σ6) := e6
  clear e6 hw6a kw7 Bw6a Kw6a
  go_wp2_with fail
  refine (pname_any hw7).mono ?_
  rintro e w8 ⟨rfl, hw8, kw8⟩
  have Bw8 := Bw7.kp kw8 (by omega)
  have Kw8 := Kw7.trans kw8
  obtain ⟨x3, a1⟩ : ∃ x, res noT (pOn σ6 pName) = x := ⟨_, rfl⟩
  obtain ⟨σ7, e1⟩ : ∃ x, stX (pOn σ6 pName) = x := ⟨_, rfl⟩
  rw [e1] at hw8
  rw [a1]
  have E7 : Hid (stX (pOn σ6 pName) = σ7 ∧ res noT (pOn σ6 pName) = x3) := ⟨e1, a1⟩
  clear e1 a1 hw7 kw8 Bw7 Kw7
  have s0 := Bw8.cell 2
  have f0 := Bw8.froz 2
  simp only [List.getElem?_toArray, List.getElem?_cons_succ, List.getElem?_cons_zero] at s0
  have hSw8 : Rf (w8.setCell ⟨M, 2, none⟩ (.string x3)) gp V ts σ7 := hw8.other hgM _
  have BSw8 := Bw8.set 2 (.string x3) rfl
  simp only [List.setIfInBounds_toArray, List.set_cons_zero, List.set_cons_succ] at BSw8
  have KSw8 : Kp (fun k => k = gp) w (w8.setCell ⟨M, 2, none⟩ (.string x3)) := Kw8.setCell (fun hlt => by simp only at hlt; omega) _
  go_wp2_with fail
  clear s0 f0 hw8 Bw8 Kw8
  refine (rmust_any kRap hSw8 (by decide +kernel)).mono ?_
  rintro e w9 ⟨rfl, hw9, kw9⟩

  have Bw9 := BSw8.kp kw9 (by omega)
  have Kw9 := KSw8.trans kw9
  obtain ⟨σ8, e8⟩ : ∃ x, stX (pOn σ7 (pMust kRap)) = x := ⟨_, rfl⟩
  rw [e8] at hw9
  have E8 : Hid (stX (pOn σ7 (pMust kRap)) = σ8) := e8
  clear e8 hSw8 kw9 BSw8 KSw8
  go_wp2_with fail
  refine (rmust_any kSemi hw9 (by decide +kernel)).mono ?_
  rintro e w10 ⟨rfl, hw10, kw10⟩

  have Bw10 := Bw9.kp kw10 (by omega)
  have Kw10 := Kw9.trans kw10
  obtain ⟨σ9, e9⟩ : ∃ x, stX (pOn σ8 (pMust kSemi)) = x := ⟨_, rfl⟩
  rw [e9] at hw10
  have E9 : Hid (stX (pOn σ8 (pMust kSemi)) = σ9) := e9
  clear e9 hw9 kw10 Bw9 Kw9
  obtain ⟨c1, c2⟩ := call_chain (σ := .inr r) E1.out.1 E1.out.2 E2.out E3.out.1 E3.out.2 E4.out E5.out E6.out E7.out.1 E7.out.2 E8.out E9.out
  obtain ⟨q1, q2⟩ := HD.out ⟨x1, x2, x3⟩ c2
  have HQ : Hid (stX (pDecl s (t :: r)) = σ9 ∧ Res (pDecl s (t :: r)) ⟨s.name, s.msgs, s.enums, s.methods ++ [⟨x1, x2, x3⟩]⟩) := ⟨by rw [q1, c1]; rfl, q2⟩
  clear E1 E2 E3 E4 E5 E6 E7 E8 E9 c1 c2 q1 q2 HD
  have h4 := hw10
  have K4 := Kw10
  have BM4 := Bw10
  clear hw10 Kw10 Bw10
  go_wp2_with fail
  have HS4 : Hid (SO w10 gs s vm ve vt pm pe) := HSO.out.kp K4 (fun k hk => by omega)
  have BG := HS4.out.bs
  have BE := BM4
  have hM6 : gs + 1 ≤ w10.drew.heap.size := by have := K4.size; show gs + 1 ≤ w10.heap.size; omega
  refine wp_region_held_drew (S := fun _ => True) (by kernel_rfl) trivial (fun hS => ?_)
  refine rg_take 0 109 (.pointer (some ⟨gs, 0, none⟩)) _ rfl rfl (by kernel_rfl) (by kernel_rfl) (by kernel_rfl) (fun _ _ _ h => h) (by rfl) (fun w' hw' => ?_) trivial (listed' := #[true, false, false, false, false, false, false, false, false, false, false]) (by kernel_rfl) rfl ?_
  · go_simp
  simp only [List.setIfInBounds_toArray, List.set_cons_zero, List.set_cons_succ]
  refine rg_take 1 110 (.pointer (some ⟨gs, 0, none⟩)) _ rfl rfl (by kernel_rfl) (by kernel_rfl) (by kernel_rfl) (fun _ _ _ h => h) (by rfl) (fun w' hw' => ?_) trivial (listed' := #[true, true, false, false, false, false, false, false, false, false, false]) (by kernel_rfl) rfl ?_
  · go_simp
  simp only [List.setIfInBounds_toArray, List.set_cons_zero, List.set_cons_succ]
  refine rg_take 2 111 (.pointer (some ⟨gs, 0, none⟩)) _ rfl rfl (by kernel_rfl) (by kernel_rfl) (by kernel_rfl) (fun _ _ _ h => h) (by rfl) (fun w' hw' => ?_) trivial (listed' := #[true, true, true, false, false, false, false, false, false, false, false]) (by kernel_rfl) rfl ?_
  · go_simp
  simp only [List.setIfInBounds_toArray, List.set_cons_zero, List.set_cons_succ]
  refine rg_take 3 112 (.pointer (some ⟨gs, 3, none⟩)) _ rfl rfl (by kernel_rfl) (by kernel_rfl) (by kernel_rfl) (fun _ _ _ h => h) (by rfl) (fun w' hw' => ?_) trivial (listed' := #[true, true, true, true, false, false, false, false, false, false, false]) (by kernel_rfl) rfl ?_
  · go_simp
  simp only [List.setIfInBounds_toArray, List.set_cons_zero, List.set_cons_succ]
  have BGd := BG.below (Below.refl _ _).drew
  have BEd := BE.below (Below.refl _ _).drew
  refine rg_llb 4 5 6 113 114 115 vt (.agg #[.string x1, .string x2, .string x3]) (.slice (some ⟨w10.drew.heap.size, 0, none⟩) 1 1) (w10.drew.alloc (.cells #[.string x1, .string x2, .string x3] 73)) rfl rfl rfl rfl rfl rfl (by kernel_rfl) (by kernel_rfl) (by kernel_rfl) (by kernel_rfl) (by kernel_rfl) (fun _ => rfl) (fun _ => rfl) (fun _ => rfl) (by decide) (by decide) (by decide) (by decide) ?g0 ?g1 ?g2 ?g3 ?g4 ?g5 ?g6 ?_
  case g0 => have hg0 := (BGd.cell 3).trans rfl; go_simp
  case g1 => have hg0 := (BGd.cell 3).trans rfl; simp only [List.setIfInBounds_toArray, List.set_cons_zero, List.set_cons_succ]; go_simp
  case g2 => have hg0 : (w10.alloc (.cells #[.string x1, .string x2, .string x3] 73)).cell? ⟨gs, 3, none⟩ = some (vt) := ((BG.below ((Below.refl _ _).alloc (Nat.le_refl _) (.cells #[.string x1, .string x2, .string x3] 73))).cell 3).trans rfl; simp only [List.setIfInBounds_toArray, List.set_cons_zero, List.set_cons_succ]; go_simp
  case g3 => have he0 := (BEd.cell 0).trans rfl; have he1 := (BEd.cell 1).trans rfl; have he2 := (BEd.cell 2).trans rfl; go_simp
  case g4 => have he0 := (BEd.cell 0).trans rfl; have he1 := (BEd.cell 1).trans rfl; have he2 := (BEd.cell 2).trans rfl; simp only [List.setIfInBounds_toArray, List.set_cons_zero, List.set_cons_succ]; go_simp
  case g5 => simp only [List.setIfInBounds_toArray, List.set_cons_zero, List.set_cons_succ]; go_simp
  case g6 => simp only [List.setIfInBounds_toArray, List.set_cons_zero, List.set_cons_succ]; go_simp
  simp only [List.setIfInBounds_toArray, List.set_cons_zero, List.set_cons_succ]
  have kW : Kp (fun _ => False) w10 (w10.drew.alloc (.cells #[.string x1, .string x2, .string x3] 73)) := (Kp.ofBelow (Below.refl _ _).drew).below ((Below.refl _ _).alloc (Nat.le_refl _) (.cells #[.string x1, .string x2, .string x3] 73))
  have HS5 : Hid (SO (w10.drew.alloc (.cells #[.string x1, .string x2, .string x3] 73)) gs s vm ve vt pm pe) := HS4.out.kp kW (fun _ _ e => e)
  have h5 : Rf (w10.drew.alloc (.cells #[.string x1, .string x2, .string x3] 73)) gp V ts σ9 := h4.kp kW (fun _ _ e => e)
  have K5 : Kp (fun k => k = gp) w (w10.drew.alloc (.cells #[.string x1, .string x2, .string x3] 73)) := K4.trans2 kW (fun k hk e => e.elim)
  clear h4 HS4 BG BE BGd BEd BM4 K4
  obtain ⟨v6, w6, hrun, ho6, hg6, _, hat6⟩ := run_append_own_at (P := Tryd.prog) (w10.drew.alloc (.cells #[.string x1, .string x2, .string x3] 73)) (gs + 1) 25 25 73 i0 _ 3 48 Tryd.underlying25 hi hz0 hz1 hz2 rfl (by decide) _ _ _ HS5.out.mt ⟨w10.drew.heap.size, 0, none⟩ 1 1 [.string x1, .string x2, .string x3] rfl (cells_new _ #[.string x1, .string x2, .string x3] _) (by intro u hu; simp at hu; rcases hu with rfl | rfl | rfl <;> rfl) (by unfold maxLen; omega) (by omega) (by have e : (w10.drew.alloc (.cells #[.string x1, .string x2, .string x3] 73)).heap.size = w10.drew.heap.size + 1 := Array.size_push ..; rw [e]; omega)
  have k56 : Kp (fun k => vt.ownBlock = some k) (w10.drew.alloc (.cells #[.string x1, .string x2, .string x3] 73)) w6 := (Kp.refl _ _).grown hg6 (fun k hk _ => hk)
  have hvb : ∀ k, vt.ownBlock = some k → gs + 1 ≤ k := fun k hk => (HS5.out.mt.lt k hk).1
  have h7 : Rf w6 gp V ts σ9 := h5.kp k56 (fun k hk e => by have := hvb k e; omega)
  have K7 : Kp (fun k => k = gp ∨ gs ≤ k) w w6 := (K5.weak (fun _ _ e => .inl e)).trans2 k56 (fun k hk e => .inr (by have := hvb k e; omega))
  have BM7 := HS5.out.bs.kp k56 (fun e => by have := hvb _ e; omega)
  obtain ⟨nA, hnA⟩ : ∃ n, s.methods.length = n := ⟨_, rfl⟩
  have HNA : Hid (s.methods.length = nA) := hnA
  rw [hnA] at ho6
  obtain ⟨va, vc, hvv⟩ := own_form ho6
  subst hvv
  have HSF : Hid (SO (w6.setCell ⟨gs, 3, none⟩ (.slice va (nA + 1) vc)) gs ⟨s.name, s.msgs, s.enums, s.methods ++ [⟨x1, x2, x3⟩]⟩ vm ve (.slice va (nA + 1) vc) pm pe) := HS5.out.mtd (m := ⟨x1, x2, x3⟩) (by rw [HNA.out]; exact ho6) k56
  have mc' := BM7.cell 3
  have mf := BM7.froz 3
  simp only [List.getElem?_toArray, List.getElem?_cons_succ, List.getElem?_cons_zero] at mc'
  clear ho6 hg6 hat6 k56 hvb HS5 h5 K5 BM7 hnA kW
  refine rg_run 7 116 (.slice va (nA + 1) vc) (w6) rfl rfl (by kernel_rfl) (by rfl) (listed' := #[true, true, true, true, true, true, true, true, false, false, false]) (by kernel_rfl) ?_ trivial ?_
  · exact append_run rfl rfl rfl hrun
  simp only [List.setIfInBounds_toArray, List.set_cons_zero, List.set_cons_succ]
  clear hrun
  refine rg_run 8 117 (.pointer (some ⟨gs, 0, none⟩)) (w6) rfl rfl (by kernel_rfl) (by rfl) (listed' := #[true, true, true, true, true, true, true, true, true, false, false]) (by kernel_rfl) ?_ trivial ?_
  · go_simp
  simp only [List.setIfInBounds_toArray, List.set_cons_zero, List.set_cons_succ]
  refine rg_run 9 118 (.pointer (some ⟨gs, 3, none⟩)) (w6) rfl rfl (by kernel_rfl) (by rfl) (listed' := #[true, true, true, true, true, true, true, true, true, true, false]) (by kernel_rfl) ?_ trivial ?_
  · go_simp
  simp only [List.setIfInBounds_toArray, List.set_cons_zero, List.set_cons_succ]
  refine rg_store 10 (w6.setCell ⟨gs, 3, none⟩ (.slice va (nA + 1) vc)) rfl rfl (by kernel_rfl) (by rfl) (listed' := #[true, true, true, true, true, true, true, true, true, true, true]) (by kernel_rfl) ?_ trivial ?_
  · go_simp
  refine wpAnyH_done (by kernel_rfl) ?_ _
  have h9 : Rf (w6.setCell ⟨gs, 3, none⟩ (.slice va (nA + 1) vc)) gp V ts σ9 := h7.other hgs _
  have K9 : Kp (fun k => k = gp ∨ gs ≤ k) w (w6.setCell ⟨gs, 3, none⟩ (.slice va (nA + 1) vc)) := K7.setCell (fun _ => .inr (Nat.le_refl _)) _
  clear h7 K7 mc' mf
  go_wp2_with fail
  refine bodyPost_end (results_none' rfl _ _ _) rfl ?_
  exact ⟨rfl, ⟨s.name, s.msgs, s.enums, s.methods ++ [⟨x1, x2, x3⟩]⟩, _, _, _, _, _, HQ.out.2, by rw [HQ.out.1]; exact h9, HSF.out, K9, HBD.out _⟩
set_option maxHeartbeats 8000000 in
theorem rdecl_bad {w : World} {gp gs : Nat} {V : Value} {ts : List Tk} {t : ByteArray} {r : List ByteArray} {s : ScS} {vm ve vt : Value} {pm : List (Value × Value)} {pe : List Value} (h : Rf w gp V ts (.inr (t :: r))) (h0 : ¬ t.data.toList = kMessage.data.toList) (h1 : ¬ t.data.toList = kEnum.data.toList) (h2 : ¬ t.data.toList = kCall.data.toList) (hgs : gp < gs) (hS : SO w gs s vm ve vt pm pe) (hB : Bd3 ts.length (.inr (t :: r)) s) :
    Calls Tryd.prog 22 #[.pointer (some ⟨gp, 0, none⟩), .pointer (some ⟨gs, 0, none⟩)] w fun e w' => e = .returned (.tuple #[]) ∧ DeclQ w gp gs V ts s (t :: r) w' := by
  have hfew := h.few
  have hno : ∀ k : ByteArray, ¬ t.data.toList = k.data.toList → anyS [k] t = false := fun k hk => by rw [any_one, beq_eq_false_iff_ne]; exact fun e => hk e.symm
  have hp : pDecl s (t :: r) = .inl (r.length + 1) := by
    unfold pDecl
    rw [if_neg (by rw [is_cons]; exact h0), if_neg (by rw [is_cons]; exact h1), if_neg (by rw [is_cons]; exact h2)]; rfl
  have HP : Hid (pDecl s (t :: r) = .inl (r.length + 1)) := hp
  have HBD : Hid (Bd3 ts.length (stX (pDecl s (t :: r))) s) := ⟨hB.1.keep (decl_lt s (t :: r)).le, hB.2.1.keep (decl_lt s (t :: r)).le, hB.2.2.keep (decl_lt s (t :: r)).le⟩
  have HE0 : Hid (stX (pOn (.inr (t :: r)) (pTake [kMessage])) = .inr (t :: r) ∧ anyS [kMessage] (headS (.inr (t :: r))) = false) := ⟨by rw [take_no (hno _ h0)]; rfl, hno _ h0⟩
  have HE1 : Hid (stX (pOn (.inr (t :: r)) (pTake [kEnum])) = .inr (t :: r) ∧ anyS [kEnum] (headS (.inr (t :: r))) = false) := ⟨by rw [take_no (hno _ h1)]; rfl, hno _ h1⟩
  have HE : Hid (stX (pOn (.inr (t :: r)) (pTake [kCall])) = .inr (t :: r) ∧ anyS [kCall] (headS (.inr (t :: r))) = false) := ⟨by rw [take_no (hno _ h2)]; rfl, hno _ h2⟩
  have HSO : Hid (SO w gs s vm ve vt pm pe) := hS
  clear hB hno hp h0 h1 h2 hS
  go_enter Tryd.func22, Tryd.ntmps22
  go_wp2_with fail
  refine (ris_any kMessage h (by decide +kernel)).mono ?_
  rintro e w0 ⟨rfl, h0, K0⟩
  rw [HE0.out.1] at h0
  rw [HE0.out.2]
  clear h HE0
  go_wp2_with fail
  refine (ris_any kEnum h0 (by decide +kernel)).mono ?_
  rintro e w0' ⟨rfl, h0', k0'⟩
  rw [HE1.out.1] at h0'
  rw [HE1.out.2]
  have K0' := K0.trans k0'
  clear h0 K0 k0' HE1
  go_wp2_with fail
  refine (ris_any kCall h0' (by decide +kernel)).mono ?_
  rintro e w1 ⟨rfl, h1, k1⟩
  rw [HE.out.1] at h1
  rw [HE.out.2]
  have K1 := K0'.trans k1
  clear h0' K0' k1 HE
  obtain ⟨n, hn, hm, c0, c1, c3, f1, f3⟩ := h1.open
  have HR : Hid (Rf (w1.setCell ⟨gp, 2, none⟩ (.bool true)) gp V ts (.inl (r.length + 1))) := h1.wrong
  clear h1 hn hm c0 c1 f1
  go_wp2_with fail
  refine bodyPost_end (results_none' rfl _ _ _) rfl ?_
  have K2 : Kp (fun k => k = gp) w (w1.setCell ⟨gp, 2, none⟩ (.bool true)) := K1.setCell (fun _ => rfl) _
  exact ⟨rfl, s, _, _, _, _, _, by rw [HP.out]; exact Res.no, by rw [HP.out]; exact HR.out, HSO.out.kp K2 (fun k hk => by omega), K2.weak (fun _ _ e => .inl e), HBD.out⟩
theorem rdecl_any {w : World} {gp gs : Nat} {V : Value} {ts : List Tk} {t : ByteArray} {r : List ByteArray} {s : ScS} {vm ve vt : Value} {pm : List (Value × Value)} {pe : List Value} (h : Rf w gp V ts (.inr (t :: r))) (hgs : gp < gs) (hS : SO w gs s vm ve vt pm pe) (hB : Bd3 ts.length (.inr (t :: r)) s) :
    Calls Tryd.prog 22 #[.pointer (some ⟨gp, 0, none⟩), .pointer (some ⟨gs, 0, none⟩)] w fun e w' => e = .returned (.tuple #[]) ∧ DeclQ w gp gs V ts s (t :: r) w' := by
  by_cases h0 : t.data.toList = kMessage.data.toList
  · exact rdecl_msg h h0 hgs hS hB
  · by_cases h1 : t.data.toList = kEnum.data.toList
    · exact rdecl_enum h h1 hgs hS hB
    · by_cases h2 : t.data.toList = kCall.data.toList
      · exact rdecl_call h h2 hgs hS hB
      · exact rdecl_bad h h0 h1 h2 hgs hS hB
end Go.Proofs.YtfffjfccochccaaDoor
/- A field's kind, any, written in place: what the rows are then; how far the aim is met. -/
namespace Go.Proofs.YtfffjfccochccaaDoor
open Go.ChangeShapes Go.WideShapes Go.ChangeAt Go.RowKit
set_option linter.unusedVariables false
set_option linter.unusedSimpArgs false
set_option maxRecDepth 20000

def kindK (c : Int) (m : MsS) (j : Nat) (f : FlS) : MsS := ⟨m.name, m.fields.set j ⟨f.name, f.tag, f.label, c, f.tname⟩, m.reserved⟩
theorem MsO.setKK (c : Int) {w : World} {B : Nat} {v : Value} {ms : List MsS} {ps : List (Value × Value)} (h : MsO w B v ms ps) {i j q n cap : Nat} {m : MsS} {p : Value × Value} {f : FlS} (hm : ms[i]? = some m) (hp : ps[i]? = some p) (hf : m.fields[j]? = some f) (hv : p.1 = .slice (some ⟨q, 0, none⟩) n cap) :
    MsO (w.setCell ⟨q, j * 5 + 3, none⟩ (.int .i64 c)) B v (ms.set i (kindK c m j f)) ps := by
  have hb : p.1.ownBlock = some q := by rw [hv]; rfl
  have hF := (h.each i m p hm hp).1
  have hk : Kp (fun k => p.1.ownBlock = some k) w (w.setCell ⟨q, j * 5 + 3, none⟩ (.int .i64 c)) := Kp.setCell (p := ⟨q, j * 5 + 3, none⟩) (Kp.refl _ w) (fun _ => hb) _
  have hn : m.fields.length = n := by
    obtain ⟨a, c, e⟩ := own_form hF
    rw [hv] at e
    simp only [Value.slice.injEq] at e
    exact e.2.1.symm
  refine ⟨by rw [List.length_set]; exact h.len, ?_, ?_, h.apart⟩
  · have e : msRows (ms.set i (kindK c m j f)) ps = msRows ms ps := by
      apply List.ext_getElem?
      intro a
      unfold msRows
      rw [List.getElem?_zipWith, List.getElem?_zipWith, List.getElem?_set]
      by_cases ha : i = a
      · subst ha
        rw [if_pos rfl, if_pos (List.getElem?_eq_some_iff.1 hm).1, hm, hp]
        rfl
      · rw [if_neg ha]
    rw [e, List.length_set]
    exact own_kpV h.own hk (fun k hk hv' => own_apart hF h.own (by decide) k hv' hk)
  · intro a m' p' hm' hp'
    rw [List.getElem?_set] at hm'
    by_cases ha : i = a
    · subst ha
      rw [if_pos rfl] at hm'
      split at hm' <;> simp at hm'
      subst hm'
      rw [hp] at hp'
      cases hp'
      constructor
      · show World.ownsRow _ _ _ _ _ (m.fields.set j _).length (flRows (m.fields.set j _)).flatten
        rw [List.length_set, ← fl_set m.fields j f c hf, hv, hn]
        rw [hv, hn] at hF
        exact own_set hF _
      · exact own_kpV (h.each i m p hm hp).2 hk (fun k hk hv' => own_apart hF (h.each i m p hm hp).2 (by decide) k hv' hk)
    · rw [if_neg ha] at hm'
      exact ⟨own_kpV (h.each a m' p' hm' hp').1 hk (fun k hk hv' => ha (h.apart i a p p' k hp hp' hv' hk)), own_kpV (h.each a m' p' hm' hp').2 hk (fun k hk hv' => own_apart hF (h.each a m' p' hm' hp').2 (by decide) k hv' hk)⟩
/-- How far the kinds are set: the messages ahead of i, and of the i-th the fields ahead of j. -/
structure PartG (G : FlS → FlS) (ms ms' : List MsS) (i j : Nat) : Prop where
  len : ms'.length = ms.length
  each : ∀ (a : Nat) (m : MsS), ms[a]? = some m → ∃ m', ms'[a]? = some m' ∧ m'.name = m.name ∧ m'.reserved = m.reserved ∧ m'.fields.length = m.fields.length ∧ ∀ (b : Nat) (f : FlS), m.fields[b]? = some f → m'.fields[b]? = some (if a < i ∨ (a = i ∧ b < j) then G f else f)
theorem PartG.start (G : FlS → FlS) (ms : List MsS) : PartG G ms ms 0 0 := ⟨rfl, fun a m hm => ⟨m, hm, rfl, rfl, rfl, fun b f hf => by rw [if_neg (by omega)]; exact hf⟩⟩
theorem PartG.next {G : FlS → FlS} {ms ms' : List MsS} {i j : Nat} {m : MsS} (h : PartG G ms ms' i j) (hm : ms[i]? = some m) (hj : m.fields.length ≤ j) : PartG G ms ms' (i + 1) 0 := by
  refine ⟨h.len, fun a m1 hm1 => ?_⟩
  obtain ⟨m', e1, e2, e3, e4, e5⟩ := h.each a m1 hm1
  refine ⟨m', e1, e2, e3, e4, fun b f hf => ?_⟩
  rw [e5 b f hf]
  congr 1
  by_cases ha : a = i
  · subst ha
    rw [hm] at hm1
    cases hm1
    have := (List.getElem?_eq_some_iff.1 hf).1
    rw [if_pos (by omega), if_pos (by omega)]
  · by_cases h2 : a < i
    · rw [if_pos (by omega), if_pos (by omega)]
    · rw [if_neg (by omega), if_neg (by omega)]
theorem PartG.no {G : FlS → FlS} {ms ms' : List MsS} {i j : Nat} {m : MsS} {f : FlS} (h : PartG G ms ms' i j) (hm : ms[i]? = some m) (hf : m.fields[j]? = some f) (hs : G f = f) : PartG G ms ms' i (j + 1) := by
  refine ⟨h.len, fun a m1 hm1 => ?_⟩
  obtain ⟨m', e1, e2, e3, e4, e5⟩ := h.each a m1 hm1
  refine ⟨m', e1, e2, e3, e4, fun b f1 hf1 => ?_⟩
  rw [e5 b f1 hf1]
  congr 1
  by_cases ha : a = i ∧ b = j
  · obtain ⟨rfl, rfl⟩ := ha
    rw [hm] at hm1
    cases hm1
    rw [hf] at hf1
    cases hf1
    rw [if_neg (by omega), if_pos (by omega), hs]
  · by_cases h2 : a < i ∨ (a = i ∧ b < j)
    · rw [if_pos h2, if_pos (by omega)]
    · rw [if_neg h2, if_neg (by omega)]
theorem PartG.yes {G : FlS → FlS} {ms ms' : List MsS} {i j : Nat} {m m' : MsS} {f : FlS} (h : PartG G ms ms' i j) (hm : ms[i]? = some m) (hm' : ms'[i]? = some m') (hf : m.fields[j]? = some f) (c : Int) (hs : G f = ⟨f.name, f.tag, f.label, c, f.tname⟩) : PartG G ms (ms'.set i (kindK c m' j f)) i (j + 1) := by
  refine ⟨by rw [List.length_set]; exact h.len, fun a m1 hm1 => ?_⟩
  obtain ⟨m2, e1, e2, e3, e4, e5⟩ := h.each a m1 hm1
  by_cases ha : a = i
  · subst ha
    rw [hm] at hm1
    cases hm1
    rw [hm'] at e1
    cases e1
    refine ⟨kindK c m' j f, ?_, e2, e3, ?_, ?_⟩
    · rw [List.getElem?_set, if_pos rfl, if_pos (List.getElem?_eq_some_iff.1 hm').1]
    · show (m'.fields.set j _).length = _
      rw [List.length_set]; exact e4
    · intro b f1 hf1
      show (m'.fields.set j _)[b]? = _
      rw [List.getElem?_set]
      by_cases hb : j = b
      · subst hb
        rw [hf] at hf1
        cases hf1
        have hlt : j < m'.fields.length := by rw [e4]; exact (List.getElem?_eq_some_iff.1 hf).1
        rw [if_pos rfl, if_pos hlt, if_pos (by omega), hs]
      · rw [if_neg hb, e5 b f1 hf1]
        congr 1
        by_cases h2 : b < j
        · rw [if_pos (by omega), if_pos (by omega)]
        · rw [if_neg (by omega), if_neg (by omega)]
  · refine ⟨m2, ?_, e2, e3, e4, fun b f1 hf1 => ?_⟩
    · rw [List.getElem?_set, if_neg (Ne.symm ha)]; exact e1
    · rw [e5 b f1 hf1]
      congr 1
      by_cases h2 : a < i
      · rw [if_pos (by omega), if_pos (by omega)]
      · rw [if_neg (by omega), if_neg (by omega)]
theorem PartG.all {G : FlS → FlS} {ms ms' : List MsS} {i : Nat} (h : PartG G ms ms' i 0) (hi : ms.length ≤ i) : ms' = ms.map (fun m => ⟨m.name, m.fields.map G, m.reserved⟩) := by
  apply List.ext_getElem?
  intro a
  rw [List.getElem?_map]
  cases hm : ms[a]? with
  | none =>
    rw [List.getElem?_eq_none_iff] at hm
    rw [List.getElem?_eq_none_iff.2 (by rw [h.len]; exact hm)]; rfl
  | some m =>
    obtain ⟨m', e1, e2, e3, e4, e5⟩ := h.each a m hm
    have hlt := (List.getElem?_eq_some_iff.1 hm).1
    rw [e1]
    simp only [Option.map_some, Option.some.injEq]
    obtain ⟨n1, f1, r1⟩ := m'
    simp only at e2 e3 e4 e5
    show _ = MsS.mk _ _ _
    rw [e2, e3]
    congr 1
    apply List.ext_getElem?
    intro b
    rw [List.getElem?_map]
    cases hf : m.fields[b]? with
    | none =>
      rw [List.getElem?_eq_none_iff] at hf
      rw [List.getElem?_eq_none_iff.2 (by rw [e4]; exact hf)]; rfl
    | some f =>
      rw [e5 b f hf, if_pos (by omega)]; rfl
/-- A field's own cells while the kinds are being set. -/
theorem PartG.get {G : FlS → FlS} {ms ms' : List MsS} {i j : Nat} {m : MsS} {f : FlS} (h : PartG G ms ms' i j) (hm : ms[i]? = some m) (hf : m.fields[j]? = some f) : ∃ m', ms'[i]? = some m' ∧ m'.fields[j]? = some f ∧ m'.fields.length = m.fields.length := by
  obtain ⟨m', e1, e2, e3, e4, e5⟩ := h.each i m hm
  refine ⟨m', e1, ?_, e4⟩
  rw [e5 j f hf, if_neg (by omega)]
/-- The kind while the enumerations are looked through. -/
def kc (es : List EnS) (t : ByteArray) : Int := if es.any (fun e => e.name.data.toList == t.data.toList) = true then 6 else 7
theorem kc_nil (t : ByteArray) : kc [] t = 7 := rfl
theorem kc_yes {es : List EnS} {e : EnS} {t : ByteArray} (h : (e.name.data.toList == t.data.toList) = true) : kc (es ++ [e]) t = 6 := by
  unfold kc
  rw [if_pos (by rw [List.any_append]; simp only [List.any_cons, h, List.any_nil, Bool.true_or, Bool.or_true])]
theorem kc_no {es : List EnS} {e : EnS} {t : ByteArray} (h : (e.name.data.toList == t.data.toList) = false) : kc (es ++ [e]) t = kc es t := by
  unfold kc
  rw [List.any_append]
  simp only [List.any_cons, h, List.any_nil, Bool.or_false]
theorem kindF_zero {es : List EnS} {f : FlS} (h : f.kind = 0) : kindF es f = ⟨f.name, f.tag, f.label, kc es f.tname, f.tname⟩ := by
  unfold kindF kc
  rw [if_pos h]
theorem kindF_other {es : List EnS} {f : FlS} (h : ¬ f.kind = 0) : kindF es f = f := by
  unfold kindF
  rw [if_neg h]
theorem kindK_twice (c d : Int) (m : MsS) (j : Nat) (f : FlS) : kindK d (kindK c m j f) j ⟨f.name, f.tag, f.label, c, f.tname⟩ = kindK d m j f := by
  unfold kindK
  simp only [List.set_set]
theorem kindK_get {c : Int} {m : MsS} {j : Nat} {f : FlS} (h : m.fields[j]? = some f) : (kindK c m j f).fields[j]? = some ⟨f.name, f.tag, f.label, c, f.tname⟩ := by
  show (m.fields.set j _)[j]? = _
  rw [List.getElem?_set, if_pos rfl, if_pos (List.getElem?_eq_some_iff.1 h).1]
theorem set_get {α : Type} {l : List α} {i : Nat} {x : α} (h : l[i]? = some x) (y : α) : (l.set i y)[i]? = some y := by
  rw [List.getElem?_set, if_pos rfl, if_pos (List.getElem?_eq_some_iff.1 h).1]
end Go.Proofs.YtfffjfccochccaaDoor
