/- What the statements' own Schema answers: the schema in new memory. -/
import Derived.OneCell
import Derived.Test.YtfnjbbaphmmjlaaGreatPkV
import Derived.Test.YtfnjbbaphmmjlaaGreatPkD
import Derived.Test.YtfnjbbaphmmjlaaGreatPkJ
import Derived.Test.YtfnjbbaphmmjlaaGreatPkQ
import Derived.Test.YtfnjbbaphmmjlaaGreatPkA
import Derived.Test.YtfnjbbaphmmjlaaGreatPkG
namespace Go.Proofs.YtfnjbbaphmmjlaaGreat
open Go.ChangeShapes Go.WideShapes Go.ChangeAt Go.RowKit
set_option linter.unusedVariables false
set_option linter.unusedSimpArgs false
set_option maxRecDepth 20000

set_option maxHeartbeats 8000000 in
theorem schema_ap {w : World} {v : Value} {s : ScS} (hr : ScIn w v s) (hf : FewL s) :
    Calls Tryz.prog 10 #[v] w fun e w' => ∃ vm ve vt pm pe, e = .returned (.agg #[.string s.name, vm, ve, vt]) ∧ MsO w' w.heap.size vm s.msgs pm ∧ EnO w' w.heap.size ve s.enums pe ∧ w'.ownsRow w.heap.size 72 3 vt s.methods.length (mtRows s.methods).flatten ∧ Below w.heap.size w w' ∧ ApR pm ∧ ApE pe := by
  obtain ⟨vm0, ve0, vt0, rfl, hm, he, ht⟩ := hr
  obtain ⟨am, cm, rfl, qm1, qm2⟩ := hm.form2
  obtain ⟨ae, ce, rfl, qe1, qe2⟩ := he.form2
  obtain ⟨at', ct, rfl, qt1, qt2⟩ := ht.form2
  have hT : (mtRows s.methods).length = s.methods.length := by simp [mtRows]
  rw [hT] at ht qt1 ⊢
  clear hT
  have HM : Hid (MsIn w (.slice am s.msgs.length cm) s.msgs) := hm
  have HE : Hid (EnIn w (.slice ae s.enums.length ce) s.enums) := he
  have HT : Hid (RowG w (.slice at' s.methods.length ct) 3 (mtRows s.methods)) := ht
  have HF : Hid (FewL s) := hf
  have h1 := hf.msgs
  have h2 := hf.enums
  have h3 := hf.meths
  obtain ⟨nm, ms, es, ts⟩ := s
  simp only at *
  have HM : Hid (MsIn w (.slice am ms.length cm) ms) := HM
  have HE : Hid (EnIn w (.slice ae es.length ce) es) := HE
  have HT : Hid (RowG w (.slice at' ts.length ct) 3 (mtRows ts)) := HT
  obtain ⟨M, hM⟩ : ∃ N, ms.length = N := ⟨_, rfl⟩
  obtain ⟨E, hE⟩ : ∃ N, es.length = N := ⟨_, rfl⟩
  obtain ⟨T, hT⟩ : ∃ N, ts.length = N := ⟨_, rfl⟩
  rw [hM] at HM qm1 h1 ⊢
  rw [hE] at HE qe1 h2 ⊢
  rw [hT] at HT qt1 h3 ⊢
  have HNM : Hid (ms.length = M) := hM
  have HNE : Hid (es.length = E) := hE
  have HNT : Hid (ts.length = T) := hT
  have HNR : Hid ((mtRows ts).length = T) := by show _ = _; simp [mtRows, hT]
  clear hM hE hT hf hm he ht
  go_enter Tryz.func10, Tryz.ntmps10
  go_wp2_with fail
  refine M_region (T := fun W => W.cell? ⟨w.heap.size, 0, none⟩ = some (.string nm) ∧ W.cell? ⟨w.heap.size, 3, none⟩ = some (.slice at' T ct)) (m := 7) (by kernel_rfl) ?_
  have HB0 : Hid (Below w.heap.size w ((w.alloc (.cells #[.string nm, .slice am M cm, .slice ae E ce, .slice at' T ct] 26)).alloc (.cells #[.string ⟨#[]⟩, .slice none 0 0, .slice none 0 0, .slice none 0 0] 26)).drew) := below_drewN 1 (((Below.refl _ _).alloc (Nat.le_refl _) _).alloc (by simp) _)
  have HX0 : Hid (Blk ((w.alloc (.cells #[.string nm, .slice am M cm, .slice ae E ce, .slice at' T ct] 26)).alloc (.cells #[.string ⟨#[]⟩, .slice none 0 0, .slice none 0 0, .slice none 0 0] 26)).drew w.heap.size #[.string nm, .slice am M cm, .slice ae E ce, .slice at' T ct] 26) := (Blk.new w _ _).below (below_drewN 1 ((Below.refl _ _).alloc (Nat.le_refl _) _))
  have HR0 : Hid (Blk ((w.alloc (.cells #[.string nm, .slice am M cm, .slice ae E ce, .slice at' T ct] 26)).alloc (.cells #[.string ⟨#[]⟩, .slice none 0 0, .slice none 0 0, .slice none 0 0] 26)).drew (w.heap.size + 1) #[.string ⟨#[]⟩, .slice none 0 0, .slice none 0 0, .slice none 0 0] 26) := by
    have := Blk.new (w.alloc (.cells #[.string nm, .slice am M cm, .slice ae E ce, .slice at' T ct] 26)) #[.string ⟨#[]⟩, .slice none 0 0, .slice none 0 0, .slice none 0 0] 26
    rw [show (w.alloc (.cells #[.string nm, .slice am M cm, .slice ae E ce, .slice at' T ct] 26)).heap.size = w.heap.size + 1 by simp] at this
    exact this
  have HS0 : Hid (((w.alloc (.cells #[.string nm, .slice am M cm, .slice ae E ce, .slice at' T ct] 26)).alloc (.cells #[.string ⟨#[]⟩, .slice none 0 0, .slice none 0 0, .slice none 0 0] 26)).drew.heap.size = w.heap.size + 2) := by show _ = _; simp [World.drew]
  generalize ((w.alloc (.cells #[.string nm, .slice am M cm, .slice ae E ce, .slice at' T ct] 26)).alloc (.cells #[.string ⟨#[]⟩, .slice none 0 0, .slice none 0 0, .slice none 0 0] 26)).drew = W0 at *
  have hT : W0.cell? ⟨w.heap.size, 0, none⟩ = some (.string nm) ∧ W0.cell? ⟨w.heap.size, 3, none⟩ = some (.slice at' T ct) := ⟨HX0.out.cell 0, HX0.out.cell 3⟩
  obtain ⟨b0, hb0⟩ : ∃ n, w.heap.size = n := ⟨_, rfl⟩
  rw [hb0] at HX0 HR0 HS0 hT ⊢
  have HBZ : Hid (w.heap.size = b0) := hb0
  clear hb0
  refine M_take 0 7 (.pointer (some ⟨b0, 0, none⟩)) _ rfl rfl (by kernel_rfl) (by kernel_rfl) (by kernel_rfl) (by kernel_rfl) (by kernel_rfl) (fun _ _ _ h => h) (by rfl) (fun w' hw' => ?_) hT (listed' := #[true, false, false, false, false, false, false, false]) (by kernel_rfl) rfl ?_
  · obtain ⟨g0, g3⟩ := hw'; go_simp
  simp only [List.setIfInBounds_toArray, List.set_cons_zero, List.set_cons_succ]
  refine M_take 2 9 (.pointer (some ⟨b0, 3, none⟩)) _ rfl rfl (by kernel_rfl) (by kernel_rfl) (by kernel_rfl) (by kernel_rfl) (by kernel_rfl) (fun _ _ _ h => h) (by rfl) (fun w' hw' => ?_) hT (listed' := #[true, false, true, false, false, false, false, false]) (by kernel_rfl) rfl ?_
  · obtain ⟨g0, g3⟩ := hw'; go_simp
  simp only [List.setIfInBounds_toArray, List.set_cons_zero, List.set_cons_succ]
  refine M_take 1 8 (.string nm) _ rfl rfl (by kernel_rfl) (by kernel_rfl) (by kernel_rfl) (by kernel_rfl) (by kernel_rfl) (fun _ _ _ h => h) (by rfl) (fun w' hw' => ?_) hT (listed' := #[true, true, true, false, false, false, false, false]) (by kernel_rfl) rfl ?_
  · obtain ⟨g0, g3⟩ := hw'; go_simp
  simp only [List.setIfInBounds_toArray, List.set_cons_zero, List.set_cons_succ]
  refine M_take 3 10 (.slice at' T ct) _ rfl rfl (by kernel_rfl) (by kernel_rfl) (by kernel_rfl) (by kernel_rfl) (by kernel_rfl) (fun _ _ _ h => h) (by rfl) (fun w' hw' => ?_) hT (listed' := #[true, true, true, true, false, false, false, false]) (by kernel_rfl) rfl ?_
  · obtain ⟨g0, g3⟩ := hw'; go_simp
  simp only [List.setIfInBounds_toArray, List.set_cons_zero, List.set_cons_succ]
  have HAPP : Hid (∀ W : World, Below W0.heap.size W0 W → ∃ u W1, (Builtin.append_ #[24, 24] 24 #[.slice none 0 0, .slice at' T ct]).run Tryz.prog W = .ok u W1 ∧ (∃ a c, u = .slice a T c) ∧ W1.ownsRow (b0 + 2) 72 3 u T (mtRows ts).flatten ∧ Below W.heap.size W W1) := fun W hW => by
    obtain ⟨u, W1, r1, r2, r3⟩ := run_joinG (w := W) 24 24 72 3 48 _ Tryz.underlying24 infoMt rfl (by decide) (b0 + 2) (.slice none 0 0) 0 [] (World.ownsRow_nil _ _ _ _) (.slice at' T ct) (mtRows ts) (HT.out.below (HB0.out.trans (hW.mono HB0.out.size))) (mtr_len ts) (mtr_one ts) (by have := HNR.out; omega) (by decide) (by have := hW.size; have := HS0.out; omega)
    rw [List.nil_append, HNR.out, Nat.zero_add] at r2
    exact ⟨u, W1, r1, own_form r2, r2, (Below.refl _ _).grown r3 (Nat.le_refl _) (fun k hk => by cases hk)⟩
  have hTb : ∀ W, Below W0.heap.size W0 W → W.cell? ⟨b0, 0, none⟩ = some (.string nm) ∧ W.cell? ⟨b0, 3, none⟩ = some (.slice at' T ct) := fun W hW => ⟨(HX0.out.below hW).cell 0, (HX0.out.below hW).cell 3⟩
  have hAl : ∀ W : World, Below W.heap.size W (W.alloc (.cells #[.string ⟨#[]⟩, .slice none 0 0, .slice none 0 0, .slice none 0 0] 26)) := fun W => (Below.refl _ _).alloc (Nat.le_refl _) _
  refine M_aa 4 6 5 11 3 12 (fun W => .pointer (some ⟨W.heap.size, 0, none⟩)) (fun W => W.alloc (.cells #[.string ⟨#[]⟩, .slice none 0 0, .slice none 0 0, .slice none 0 0] 26)) (fun u => .agg #[.string nm, .slice none 0 0, .slice none 0 0, u]) (fun u => ∃ a c, u = .slice a T c)
    (fun u p W => ∃ bt, p = .pointer (some ⟨bt, 0, none⟩) ∧ b0 + 2 ≤ bt ∧ Blk W bt #[.string ⟨#[]⟩, .slice none 0 0, .slice none 0 0, .slice none 0 0] 26 ∧ W.ownsRow (b0 + 2) 72 3 u T (mtRows ts).flatten ∧ Below W0.heap.size W0 W)
    rfl rfl rfl rfl rfl rfl (by decide) (by decide) (by decide) (by decide) (by kernel_rfl) (by kernel_rfl) (by kernel_rfl) (by kernel_rfl) (by kernel_rfl) (fun _ => rfl) (fun _ => rfl) (fun _ => rfl) (by kernel_rfl) (by kernel_rfl) (by kernel_rfl) (by kernel_rfl) (fun _ _ _ _ h => h) ?x2 ?hA ?hB ?xk ?xk' ?_
  case x2 => intro a' W'; go_simp
  case hA =>
    obtain ⟨u, W1, r1, r2, r3, r4⟩ := HAPP.out W0 (Below.refl _ _)
    have r5 : Below W0.heap.size W0 (W1.alloc (.cells #[.string ⟨#[]⟩, .slice none 0 0, .slice none 0 0, .slice none 0 0] 26)) := r4.trans ((hAl W1).mono r4.size)
    exact ⟨u, W1, append_run rfl rfl rfl r1, r2, hTb W1 r4, hTb _ r5, W1.heap.size, rfl, by have := r4.size; have := HS0.out; omega, Blk.new W1 _ _, own_below r3 (hAl W1), r5⟩
  case hB =>
    refine ⟨hTb _ (hAl W0), ?_⟩
    obtain ⟨u, W1, r1, r2, r3, r4⟩ := HAPP.out _ (hAl W0)
    have r5 : Below W0.heap.size W0 W1 := (hAl W0).trans (r4.mono (hAl W0).size)
    exact ⟨u, W1, append_run rfl rfl rfl r1, r2, hTb W1 r5, W0.heap.size, rfl, by have := HS0.out; omega, (Blk.new W0 _ _).below r4, r3, r5⟩
  case xk => rintro u W' ⟨a, c, rfl⟩; go_simp
  case xk' => rintro u v W' ⟨a, c, rfl⟩; go_simp
  rintro u p W1 ⟨ua, uc, rfl⟩ _ ⟨bt, rfl, hbt, BT, ho, hbel⟩
  simp only [List.setIfInBounds_toArray, List.set_cons_zero, List.set_cons_succ]
  have HO : Hid (W1.ownsRow (b0 + 2) 72 3 (.slice ua T uc) T (mtRows ts).flatten) := ho
  have HX1 := HX0.out.below hbel
  have HR1 := HR0.out.below hbel
  have hbw : Below w.heap.size w W1 := HB0.out.trans (hbel.mono HB0.out.size)
  have t0 := (BT.cell 0).trans rfl
  have t1 := (BT.cell 1).trans rfl
  have t2 := (BT.cell 2).trans rfl
  have t3 := (BT.cell 3).trans rfl
  have z0 := BT.froz 0
  have z1 := BT.froz 1
  have z2 := BT.froz 2
  have z3 := BT.froz 3
  refine M_store 7 ((((W1.setCell ⟨bt, 0, none⟩ (.string nm)).setCell ⟨bt, 1, none⟩ (.slice none 0 0)).setCell ⟨bt, 2, none⟩ (.slice none 0 0)).setCell ⟨bt, 3, none⟩ (.slice ua T uc)) rfl rfl (by kernel_rfl) (by rfl) (listed' := #[true, true, true, true, true, true, true, true]) (by kernel_rfl) (by go_simp) (by kernel_rfl) ?_
  refine M_done (by kernel_rfl) ?_ _
  have KS : Kp (fun k => k = bt) W1 ((((W1.setCell ⟨bt, 0, none⟩ (.string nm)).setCell ⟨bt, 1, none⟩ (.slice none 0 0)).setCell ⟨bt, 2, none⟩ (.slice none 0 0)).setCell ⟨bt, 3, none⟩ (.slice ua T uc)) := by
    refine Kp.setCell ?_ (fun _ => by simp) _
    refine Kp.setCell ?_ (fun _ => by simp) _
    refine Kp.setCell ?_ (fun _ => by simp) _
    refine Kp.setCell ?_ (fun _ => by simp) _
    exact Kp.refl _ _
  have BA : Blk (W1.setCell ⟨bt, 0, none⟩ (.string nm)) bt #[.string nm, .slice none 0 0, .slice none 0 0, .slice none 0 0] 26 := BT.set 0 (.string nm) rfl
  have BB : Blk ((W1.setCell ⟨bt, 0, none⟩ (.string nm)).setCell ⟨bt, 1, none⟩ (.slice none 0 0)) bt #[.string nm, .slice none 0 0, .slice none 0 0, .slice none 0 0] 26 := BA.set 1 (.slice none 0 0) rfl
  have BC : Blk (((W1.setCell ⟨bt, 0, none⟩ (.string nm)).setCell ⟨bt, 1, none⟩ (.slice none 0 0)).setCell ⟨bt, 2, none⟩ (.slice none 0 0)) bt #[.string nm, .slice none 0 0, .slice none 0 0, .slice none 0 0] 26 := BB.set 2 (.slice none 0 0) rfl
  have BT2 : Blk ((((W1.setCell ⟨bt, 0, none⟩ (.string nm)).setCell ⟨bt, 1, none⟩ (.slice none 0 0)).setCell ⟨bt, 2, none⟩ (.slice none 0 0)).setCell ⟨bt, 3, none⟩ (.slice ua T uc)) bt #[.string nm, .slice none 0 0, .slice none 0 0, .slice ua T uc] 26 := BC.set 3 (.slice ua T uc) rfl
  clear BA BB BC
  have HO2 : Hid (((((W1.setCell ⟨bt, 0, none⟩ (.string nm)).setCell ⟨bt, 1, none⟩ (.slice none 0 0)).setCell ⟨bt, 2, none⟩ (.slice none 0 0)).setCell ⟨bt, 3, none⟩ (.slice ua T uc)).ownsRow (b0 + 2) 72 3 (.slice ua T uc) T (mtRows ts).flatten) := own_blk HO.out BT (by decide) KS
  have BX2 := HX1.kp KS (by omega)
  have BR2 := HR1.kp KS (by omega)
  have hb2 : Below w.heap.size w ((((W1.setCell ⟨bt, 0, none⟩ (.string nm)).setCell ⟨bt, 1, none⟩ (.slice none 0 0)).setCell ⟨bt, 2, none⟩ (.slice none 0 0)).setCell ⟨bt, 3, none⟩ (.slice ua T uc)) := hbw.trans (KS.toBelow hbw.size (fun k e => by have := HBZ.out; omega))
  generalize ((((W1.setCell ⟨bt, 0, none⟩ (.string nm)).setCell ⟨bt, 1, none⟩ (.slice none 0 0)).setCell ⟨bt, 2, none⟩ (.slice none 0 0)).setCell ⟨bt, 3, none⟩ (.slice ua T uc)) = W2 at *
  have hbt2 : bt < W2.heap.size := BT2.lt
  clear t0 t1 t2 t3 z0 z1 z2 z3 KS HO HX1 HR1 hbw BT ho hbel hT hTb HAPP HB0 HX0 HR0 HS0 hAl
  have HMS0 : Hid (MsO W2 (bt + 1) (.slice none 0 0) (ms.take 0) []) := MsO.nil W2 (bt + 1)
  go_wp2_with fail
  go_loopw [4] (fun iv wr => ∃ (k : Nat) (va : Option Addr) (vc : Nat) (pm : List (Value × Value)), iv = .int .i64 (k : Int) ∧ k ≤ M ∧ Hid (MsO wr (bt + 1) (.slice va k vc) (ms.take k) pm) ∧ Hid (ApR pm) ∧ Blk wr bt #[.string nm, .slice va k vc, .slice none 0 0, .slice ua T uc] 26 ∧ Hid (wr.ownsRow (b0 + 2) 72 3 (.slice ua T uc) T (mtRows ts).flatten) ∧ Blk wr b0 #[.string nm, .slice am M cm, .slice ae E ce, .slice at' T ct] 26 ∧ Blk wr (b0 + 1) #[.string ⟨#[]⟩, .slice none 0 0, .slice none 0 0, .slice none 0 0] 26 ∧ Below w.heap.size w wr) (fun iv _ => M - (intOf iv).toNat)
  case atStart => exact ⟨0, none, 0, [], rfl, by omega, HMS0, ApR.nil, BT2, HO2, BX2, BR2, hb2⟩
  case round =>
    obtain ⟨k, va, vc, pm, rfl, hk, HMS, HAR, BT, HO, BX, BR, hbel⟩ := hrel
    clear HMS0 BT2 HO2 BX2 BR2 hb2 hbt2
    have hbtw : bt < wr.heap.size := BT.lt
    have x1 : wr.cell? ⟨b0, 1, none⟩ = some (.slice am M cm) := BX.cell 1
    by_cases hlt : k < M
    · obtain ⟨m, hm⟩ : ∃ n, ms[k]? = some n := ⟨_, List.getElem?_eq_getElem (by rw [HNM.out]; exact hlt)⟩
      obtain ⟨g, off, vf, vr, rfl, c0, c1, c2, hrf, hrr⟩ := (HM.out.below hbel).get hm
      have HFf : Hid (RowG wr vf 5 (flRows m.fields)) := hrf
      have HRr : Hid (RowG wr vr 1 (inRows m.reserved)) := hrr
      obtain ⟨a3, c3, rfl, _, _⟩ := hrf.form2
      obtain ⟨a4, c4, rfl, _, _⟩ := hrr.form2
      have HFl : Hid (m.fields.length ≤ 20 ∧ m.reserved.length ≤ 40) := HF.out.flds m (List.mem_of_getElem? hm)
      have HTK : Hid (ms.take (k + 1) = ms.take k ++ [m]) := take_at hm
      have HLK : Hid ((ms.take k).length = k) := by show _ = _; rw [List.length_take, HNM.out]; omega
      obtain ⟨m0, mf, mr⟩ := m
      simp only at c0 c1 c2 HFl HTK
      have HFf : Hid (RowG wr (.slice a3 (flRows mf).length c3) 5 (flRows mf)) := HFf
      have HRr : Hid (RowG wr (.slice a4 (inRows mr).length c4) 1 (inRows mr)) := HRr
      generalize hnF : (flRows mf).length = nF at *
      generalize hnR : (inRows mr).length = nR at *
      clear hrf hrr hm hnF hnR
      have HLF : Hid ((flRows mf).length = mf.length) := by show _ = _; simp [flRows]
      go_wp2_with fail
      clear c0 c1 c2 x1
      refine M_region (T := fun W => W.cell? ⟨bt, 1, none⟩ = some (.slice va k vc) ∧ W.cell? ⟨wr.heap.size, 0, none⟩ = some (.string m0) ∧ W.cell? ⟨wr.heap.size, 1, none⟩ = some (.slice a3 nF c3) ∧ W.cell? ⟨wr.heap.size, 2, none⟩ = some (.slice a4 nR c4)) (m := 14) (by kernel_rfl) ?_
      have hb0 : Below wr.heap.size wr (wr.alloc (.cells #[.string m0, .slice a3 nF c3, .slice a4 nR c4] 50)).drew := below_drewN 1 ((Below.refl _ _).alloc (Nat.le_refl _) _)
      have BM0 : Blk (wr.alloc (.cells #[.string m0, .slice a3 nF c3, .slice a4 nR c4] 50)).drew wr.heap.size #[.string m0, .slice a3 nF c3, .slice a4 nR c4] 50 := Blk.new wr #[.string m0, .slice a3 nF c3, .slice a4 nR c4] 50
      generalize (wr.alloc (.cells #[.string m0, .slice a3 nF c3, .slice a4 nR c4] 50)).drew = W0 at *
      have BT0 := BT.below hb0
      have BX0 := BX.below hb0
      have BR0 := BR.below hb0
      have HMS0 : Hid (MsO W0 (bt + 1) (.slice va k vc) (ms.take k) pm) := HMS.out.below hb0
      have HO0 : Hid (W0.ownsRow (b0 + 2) 72 3 (.slice ua T uc) T (mtRows ts).flatten) := own_below HO.out hb0
      have HF0 : Hid (RowG W0 (.slice a3 nF c3) 5 (flRows mf)) := HFf.out.below hb0
      have HR0 : Hid (RowG W0 (.slice a4 nR c4) 1 (inRows mr)) := HRr.out.below hb0
      have hbel0 : Below w.heap.size w W0 := hbel.trans (hb0.mono hbel.size)
      have HOB : Hid (∀ q, (Value.slice va k vc).ownBlock = some q → q < wr.heap.size) := fun q hq => (HMS.out.own.lt q hq).2
      obtain ⟨bm, hbm⟩ : ∃ n, wr.heap.size = n := ⟨_, rfl⟩
      rw [hbm] at BM0 hbtw HOB ⊢
      clear hbm BT BX BR HMS HO HFf HRr hb0 hbel
      have hTW : ∀ W, Below W0.heap.size W0 W → W.cell? ⟨bt, 1, none⟩ = some (.slice va k vc) ∧ W.cell? ⟨bm, 0, none⟩ = some (.string m0) ∧ W.cell? ⟨bm, 1, none⟩ = some (.slice a3 nF c3) ∧ W.cell? ⟨bm, 2, none⟩ = some (.slice a4 nR c4) := fun W hW => ⟨(BT0.below hW).cell 1, (BM0.below hW).cell 0, (BM0.below hW).cell 1, (BM0.below hW).cell 2⟩
      have hT := hTW W0 (Below.refl _ _)
      refine M_take 0 25 (.pointer (some ⟨bt, 1, none⟩)) _ rfl rfl (by kernel_rfl) (by kernel_rfl) (by kernel_rfl) (by kernel_rfl) (by kernel_rfl) (fun _ _ _ h => h) (by rfl) (fun w' hw' => ?_) hT (listed' := #[true, false, false, false, false, false, false, false, false, false, false, false, false, false, false]) (by kernel_rfl) rfl ?_
      · obtain ⟨g0, g1, g2, g3⟩ := hw'; go_simp
      simp only [List.setIfInBounds_toArray, List.set_cons_zero, List.set_cons_succ]
      refine M_take 2 27 (.pointer (some ⟨bm, 0, none⟩)) _ rfl rfl (by kernel_rfl) (by kernel_rfl) (by kernel_rfl) (by kernel_rfl) (by kernel_rfl) (fun _ _ _ h => h) (by rfl) (fun w' hw' => ?_) hT (listed' := #[true, false, true, false, false, false, false, false, false, false, false, false, false, false, false]) (by kernel_rfl) rfl ?_
      · obtain ⟨g0, g1, g2, g3⟩ := hw'; go_simp
      simp only [List.setIfInBounds_toArray, List.set_cons_zero, List.set_cons_succ]
      refine M_take 4 29 (.pointer (some ⟨bm, 1, none⟩)) _ rfl rfl (by kernel_rfl) (by kernel_rfl) (by kernel_rfl) (by kernel_rfl) (by kernel_rfl) (fun _ _ _ h => h) (by rfl) (fun w' hw' => ?_) hT (listed' := #[true, false, true, false, true, false, false, false, false, false, false, false, false, false, false]) (by kernel_rfl) rfl ?_
      · obtain ⟨g0, g1, g2, g3⟩ := hw'; go_simp
      simp only [List.setIfInBounds_toArray, List.set_cons_zero, List.set_cons_succ]
      refine M_take 7 32 (.pointer (some ⟨bm, 2, none⟩)) _ rfl rfl (by kernel_rfl) (by kernel_rfl) (by kernel_rfl) (by kernel_rfl) (by kernel_rfl) (fun _ _ _ h => h) (by rfl) (fun w' hw' => ?_) hT (listed' := #[true, false, true, false, true, false, false, true, false, false, false, false, false, false, false]) (by kernel_rfl) rfl ?_
      · obtain ⟨g0, g1, g2, g3⟩ := hw'; go_simp
      simp only [List.setIfInBounds_toArray, List.set_cons_zero, List.set_cons_succ]
      refine M_take 1 26 (.slice va k vc) _ rfl rfl (by kernel_rfl) (by kernel_rfl) (by kernel_rfl) (by kernel_rfl) (by kernel_rfl) (fun _ _ _ h => h) (by rfl) (fun w' hw' => ?_) hT (listed' := #[true, true, true, false, true, false, false, true, false, false, false, false, false, false, false]) (by kernel_rfl) rfl ?_
      · obtain ⟨g0, g1, g2, g3⟩ := hw'; go_simp
      simp only [List.setIfInBounds_toArray, List.set_cons_zero, List.set_cons_succ]
      refine M_take 3 28 (.string m0) _ rfl rfl (by kernel_rfl) (by kernel_rfl) (by kernel_rfl) (by kernel_rfl) (by kernel_rfl) (fun _ _ _ h => h) (by rfl) (fun w' hw' => ?_) hT (listed' := #[true, true, true, true, true, false, false, true, false, false, false, false, false, false, false]) (by kernel_rfl) rfl ?_
      · obtain ⟨g0, g1, g2, g3⟩ := hw'; go_simp
      simp only [List.setIfInBounds_toArray, List.set_cons_zero, List.set_cons_succ]
      refine M_take 5 30 (.slice a3 nF c3) _ rfl rfl (by kernel_rfl) (by kernel_rfl) (by kernel_rfl) (by kernel_rfl) (by kernel_rfl) (fun _ _ _ h => h) (by rfl) (fun w' hw' => ?_) hT (listed' := #[true, true, true, true, true, true, false, true, false, false, false, false, false, false, false]) (by kernel_rfl) rfl ?_
      · obtain ⟨g0, g1, g2, g3⟩ := hw'; go_simp
      simp only [List.setIfInBounds_toArray, List.set_cons_zero, List.set_cons_succ]
      refine M_take 8 33 (.slice a4 nR c4) _ rfl rfl (by kernel_rfl) (by kernel_rfl) (by kernel_rfl) (by kernel_rfl) (by kernel_rfl) (fun _ _ _ h => h) (by rfl) (fun w' hw' => ?_) hT (listed' := #[true, true, true, true, true, true, false, true, true, false, false, false, false, false, false]) (by kernel_rfl) rfl ?_
      · obtain ⟨g0, g1, g2, g3⟩ := hw'; go_simp
      simp only [List.setIfInBounds_toArray, List.set_cons_zero, List.set_cons_succ]
      obtain ⟨vf, W1, r1, r2, r3⟩ := run_joinG (w := W0) 48 48 54 5 56 _ Tryz.underlying48 infoFl rfl (by decide) W0.heap.size (.slice none 0 0) 0 [] (World.ownsRow_nil _ _ _ _) (.slice a3 nF c3) (flRows mf) HF0.out (flr_len mf) (flr_one mf) (by have := HLF.out; have := HFl.out; omega) (by decide) (Nat.le_refl _)
      rw [List.nil_append, HLF.out, Nat.zero_add] at r2
      have hb1 : Below W0.heap.size W0 W1 := (Below.refl _ _).grown r3 (Nat.le_refl _) (fun k hk => by cases hk)
      obtain ⟨fa, fc, rfl⟩ := own_form r2
      have HO1 : Hid (W1.ownsRow W0.heap.size 54 5 (.slice fa mf.length fc) mf.length (flRows mf).flatten) := r2
      have HRUN : Hid _ := r1
      clear r1 r2 r3
      refine M_run 6 31 (.slice fa mf.length fc) (W1) rfl rfl (by kernel_rfl) (by rfl) (listed' := #[true, true, true, true, true, true, true, true, true, false, false, false, false, false, false]) (by kernel_rfl) (append_run rfl rfl rfl HRUN.out) (hTW W1 hb1) ?_
      simp only [List.setIfInBounds_toArray, List.set_cons_zero, List.set_cons_succ]
      clear HRUN
      refine M_call 9 34 31 #[.slice a4 nR c4] rfl rfl (by kernel_rfl) (by rfl) (listed' := #[true, true, true, true, true, true, true, true, true, true, false, false, false, false, false]) (by kernel_rfl) (fun W => by go_simp) ?_
      refine (ints_any (HR0.out.below hb1) (by have := HFl.out; omega)).mono ?_
      rintro e W2 ⟨vr, rfl, ho2, hb2⟩
      have hb02 : Below W0.heap.size W0 W2 := hb1.trans (hb2.mono hb1.size)
      have hT := hTW W2 hb02
      obtain ⟨ra, rc, hrv⟩ := own_form ho2
      subst hrv
      refine ⟨_, rfl, hT, ?_⟩
      simp only [List.setIfInBounds_toArray, List.set_cons_zero, List.set_cons_succ]
      have HO2 : Hid (W2.ownsRow W0.heap.size 3 1 (.slice ra mr.length rc) mr.length (inRows mr).flatten) := own_base ho2 hb1.size
      have HAR5 : Hid (ApR (pm ++ [(.slice fa mf.length fc, .slice ra mr.length rc)])) := HAR.out.snoc HMS0.out.highR (fun k hk => (HO2.out.lt k hk).1)
      have HO1 : Hid (W2.ownsRow W0.heap.size 54 5 (.slice fa mf.length fc) mf.length (flRows mf).flatten) := own_below HO1.out hb2
      clear ho2 hb2 hb1
      refine M_take 10 35 (.agg #[.string m0, .slice fa mf.length fc, .slice ra mr.length rc]) _ rfl rfl (by kernel_rfl) (by kernel_rfl) (by kernel_rfl) (by kernel_rfl) (by kernel_rfl) (fun _ _ _ h => h) (by rfl) (fun w' hw' => ?_) hT (listed' := #[true, true, true, true, true, true, true, true, true, true, true, false, false, false, false]) (by kernel_rfl) rfl ?_
      · obtain ⟨g0, g1, g2, g3⟩ := hw'; go_simp
      simp only [List.setIfInBounds_toArray, List.set_cons_zero, List.set_cons_succ]
      have hal : Below W2.heap.size W2 (W2.alloc (.cells #[.string m0, .slice fa mf.length fc, .slice ra mr.length rc] 50)) := (Below.refl _ _).alloc (Nat.le_refl _) _
      have hb03 : Below W0.heap.size W0 (W2.alloc (.cells #[.string m0, .slice fa mf.length fc, .slice ra mr.length rc] 50)) := hb02.trans (hal.mono hb02.size)
      have BE := Blk.new W2 #[.string m0, .slice fa mf.length fc, .slice ra mr.length rc] 50
      have HO1 : Hid ((W2.alloc (.cells #[.string m0, .slice fa mf.length fc, .slice ra mr.length rc] 50)).ownsRow W0.heap.size 54 5 (.slice fa mf.length fc) mf.length (flRows mf).flatten) := own_below HO1.out hal
      have HO2 : Hid ((W2.alloc (.cells #[.string m0, .slice fa mf.length fc, .slice ra mr.length rc] 50)).ownsRow W0.heap.size 3 1 (.slice ra mr.length rc) mr.length (inRows mr).flatten) := own_below HO2.out hal
      obtain ⟨bz, hbz⟩ : ∃ n, W2.heap.size = n := ⟨_, rfl⟩
      refine M_run 11 36 (.slice (some ⟨W2.heap.size, 0, none⟩) 1 1) (W2.alloc (.cells #[.string m0, .slice fa mf.length fc, .slice ra mr.length rc] 50)) rfl rfl (by kernel_rfl) (by rfl) (listed' := #[true, true, true, true, true, true, true, true, true, true, true, true, false, false, false]) (by kernel_rfl) (by go_simp) (hTW _ hb03) ?_
      simp only [List.setIfInBounds_toArray, List.set_cons_zero, List.set_cons_succ]
      rw [hbz] at BE ⊢
      generalize (W2.alloc (.cells #[.string m0, .slice fa mf.length fc, .slice ra mr.length rc] 50)) = W3 at *
      clear hbz hal hb02
      have HMS3 : Hid (MsO W3 (bt + 1) (.slice va k vc) (ms.take k) pm) := HMS0.out.below hb03
      obtain ⟨i0, hi0, hz0, hz1, hz2⟩ := info_parts infoMs
      have hown := HMS3.out.own
      rw [HLK.out] at hown
      obtain ⟨v', W4, r1, r2, r3, _⟩ := run_append_own W3 (bt + 1) 22 22 50 i0 _ 3 64 Tryz.underlying22 hi0 hz0 hz1 hz2 rfl (by decide) (.slice va k vc) k _ hown ⟨bz, 0, none⟩ 1 1 [.string m0, .slice fa mf.length fc, .slice ra mr.length rc] rfl (fun j u hu => by
        have := BE.cell j
        rw [Addr.add_lit, Nat.zero_add, this]
        simpa using hu) (fun u hu => by
        simp only [List.mem_cons, List.not_mem_nil, or_false] at hu
        rcases hu with rfl | rfl | rfl <;> rfl) (by unfold maxLen; omega) (by omega) (by have := hb03.size; have := BT0.lt; omega)
      have HRUN : Hid _ := r1
      have KA : Kp (fun q => (Value.slice va k vc).ownBlock = some q) W3 W4 := (Kp.refl _ _).grown r3 (fun q hq _ => hq)
      have HMS4 : Hid (MsO W4 (bt + 1) v' (ms.take (k + 1)) (pm ++ [(.slice fa mf.length fc, .slice ra mr.length rc)])) := by
        show MsO _ _ _ _ _
        rw [HTK.out]
        refine MsO.snoc (m := ⟨m0, mf, mr⟩) HMS3.out HMS0.out.high (by have := BT0.lt; omega) HO1.out HO2.out ?_ KA
        rw [HLK.out]; exact r2
      obtain ⟨na, nc, hv'⟩ := own_form r2
      subst hv'
      have HMS4 : Hid (MsO W4 (bt + 1) (.slice na (k + 1) nc) (ms.take (k + 1)) (pm ++ [(.slice fa mf.length fc, .slice ra mr.length rc)])) := HMS4
      have hnob : ∀ b cs t, Blk W3 b cs t → t ≠ 50 → ¬ (Value.slice va k vc).ownBlock = some b := fun b cs t hb ht hq => ht (own_type hown hq hb).symm
      have BT4 := (BT0.below hb03).kp KA (hnob _ _ _ (BT0.below hb03) (by decide))
      have BX4 := (BX0.below hb03).kp KA (hnob _ _ _ (BX0.below hb03) (by decide))
      have BR4 := (BR0.below hb03).kp KA (hnob _ _ _ (BR0.below hb03) (by decide))
      have BMb := BM0.below hb03
      have HO4 : Hid (W4.ownsRow (b0 + 2) 72 3 (.slice ua T uc) T (mtRows ts).flatten) := own_kpV (own_below HO0.out hb03) KA (fun q hv hq => own_apart hown (own_below HO0.out hb03) (by decide) q hq hv)
      have hb4 : Below w.heap.size w W4 := (hbel0.trans (hb03.mono hbel0.size)).grown r3 (by have := hb03.size; have := hbel0.size; omega) (fun q hq => by have := (hown.lt q hq).1; have := HBZ.out; omega)
      have hTm : W4.cell? ⟨bt, 1, none⟩ = some (.slice va k vc) ∧ W4.cell? ⟨bm, 0, none⟩ = some (.string m0) ∧ W4.cell? ⟨bm, 1, none⟩ = some (.slice a3 nF c3) ∧ W4.cell? ⟨bm, 2, none⟩ = some (.slice a4 nR c4) := by
        have hq : ¬ (Value.slice va k vc).ownBlock = some bm := fun hq => by
          have := HOB.out bm hq
          omega
        exact ⟨BT4.cell 1, (BMb.kp KA hq).cell 0, (BMb.kp KA hq).cell 1, (BMb.kp KA hq).cell 2⟩
      clear r1 r2 r3 hown
      refine M_run 12 37 (.slice na (k + 1) nc) (W4) rfl rfl (by kernel_rfl) (by rfl) (listed' := #[true, true, true, true, true, true, true, true, true, true, true, true, true, false, false]) (by kernel_rfl) (append_run rfl rfl rfl HRUN.out) hTm ?_
      simp only [List.setIfInBounds_toArray, List.set_cons_zero, List.set_cons_succ]
      clear HRUN
      have hT := hTm
      refine M_take 13 38 (.pointer (some ⟨bt, 1, none⟩)) _ rfl rfl (by kernel_rfl) (by kernel_rfl) (by kernel_rfl) (by kernel_rfl) (by kernel_rfl) (fun _ _ _ h => h) (by rfl) (fun w' hw' => ?_) hT (listed' := #[true, true, true, true, true, true, true, true, true, true, true, true, true, true, false]) (by kernel_rfl) rfl ?_
      · obtain ⟨g0, g1, g2, g3⟩ := hw'; go_simp
      simp only [List.setIfInBounds_toArray, List.set_cons_zero, List.set_cons_succ]
      have y1 := (BT4.cell 1).trans rfl
      have z1 := BT4.froz 1
      refine M_store 14 (W4.setCell ⟨bt, 1, none⟩ (.slice na (k + 1) nc)) rfl rfl (by kernel_rfl) (by rfl) (listed' := #[true, true, true, true, true, true, true, true, true, true, true, true, true, true, true]) (by kernel_rfl) (by go_simp) (by kernel_rfl) ?_
      refine M_done (by kernel_rfl) ?_ _
      have KS : Kp (fun q => q = bt) W4 (W4.setCell ⟨bt, 1, none⟩ (.slice na (k + 1) nc)) := by
        refine Kp.setCell ?_ (fun _ => by simp) _
        exact Kp.refl _ _
      have BT5 : Blk (W4.setCell ⟨bt, 1, none⟩ (.slice na (k + 1) nc)) bt #[.string nm, .slice na (k + 1) nc, .slice none 0 0, .slice ua T uc] 26 := BT4.set 1 _ rfl
      have BX5 := BX4.kp KS (by omega)
      have BR5 := BR4.kp KS (by omega)
      have HMS5 : Hid (MsO (W4.setCell ⟨bt, 1, none⟩ (.slice na (k + 1) nc)) (bt + 1) (.slice na (k + 1) nc) (ms.take (k + 1)) (pm ++ [(.slice fa mf.length fc, .slice ra mr.length rc)])) := HMS4.out.kp KS (fun q h1 h2 => by omega)
      have HO5 : Hid ((W4.setCell ⟨bt, 1, none⟩ (.slice na (k + 1) nc)).ownsRow (b0 + 2) 72 3 (.slice ua T uc) T (mtRows ts).flatten) := own_blk HO4.out BT4 (by decide) KS
      have hb5 : Below w.heap.size w (W4.setCell ⟨bt, 1, none⟩ (.slice na (k + 1) nc)) := hb4.trans (KS.toBelow hb4.size (fun q e => by have := HBZ.out; omega))
      generalize (W4.setCell ⟨bt, 1, none⟩ (.slice na (k + 1) nc)) = W5 at *
      clear y1 z1 KS BT4 BX4 BR4 HMS4 HO4 hb4 hT hTm hTW BM0 BT0 BX0 BR0 HMS0 HO0 HF0 HR0 hbel0 HMS3 KA BE hb03 HO1 HO2 hnob BMb
      go_wp2_with fail
      go_roundw
      case rel => exact ⟨k + 1, _, _, _, by go_num, by omega, HMS5, HAR5, BT5, HO5, BX5, BR5, hb5⟩
      case measure => simp [intOf]; omega
    · obtain rfl : k = M := by omega
      have HMS0 : Hid (MsO wr (bt + 1) (.slice va k vc) ms pm) := by
        have := HMS.out
        rw [List.take_of_length_le (by rw [HNM.out]; omega)] at this
        exact this
      have HES0 : Hid (EnO wr (bt + 1) (.slice none 0 0) (es.take 0) []) := EnO.nil wr (bt + 1)
      clear HMS
      go_wp2_with fail
      clear x1
      go_loopw [6] (fun iv wr => ∃ (i : Nat) (na : Option Addr) (nc : Nat) (pe : List Value), iv = .int .i64 (i : Int) ∧ i ≤ E ∧ Hid (EnO wr (bt + 1) (.slice na i nc) (es.take i) pe) ∧ Hid (ApE pe) ∧ Hid (MsO wr (bt + 1) (.slice va k vc) ms pm) ∧ Blk wr bt #[.string nm, .slice va k vc, .slice na i nc, .slice ua T uc] 26 ∧ Hid (wr.ownsRow (b0 + 2) 72 3 (.slice ua T uc) T (mtRows ts).flatten) ∧ Blk wr b0 #[.string nm, .slice am k cm, .slice ae E ce, .slice at' T ct] 26 ∧ Blk wr (b0 + 1) #[.string ⟨#[]⟩, .slice none 0 0, .slice none 0 0, .slice none 0 0] 26 ∧ Below w.heap.size w wr) (fun iv _ => E - (intOf iv).toNat)
      case atStart => exact ⟨0, none, 0, [], rfl, by omega, HES0, ApE.nil, HMS0, BT, HO, BX, BR, hbel⟩
      case round =>
        obtain ⟨i, na, nc, pe, rfl, hi, HES, HAE, HMS, BT, HO, BX, BR, hbel⟩ := hrel
        clear HES0 HMS0
        have hbtw : bt < wr.heap.size := BT.lt
        have x2 : wr.cell? ⟨b0, 2, none⟩ = some (.slice ae E ce) := BX.cell 2
        by_cases hlt : i < E
        · obtain ⟨m, hm⟩ : ∃ n, es[i]? = some n := ⟨_, List.getElem?_eq_getElem (by rw [HNE.out]; exact hlt)⟩
          obtain ⟨g, off, vv, rfl, c0, c1, hrf⟩ := (HE.out).get hm
          have HFf : Hid (RowG w vv 2 (nmRows m.values)) := hrf
          obtain ⟨a3, c3, rfl, _, _⟩ := hrf.form2
          have HFl : Hid (m.values.length ≤ 24) := HF.out.vals m (List.mem_of_getElem? hm)
          have HTK : Hid (es.take (i + 1) = es.take i ++ [m]) := take_at hm
          have HLK : Hid ((es.take i).length = i) := by show _ = _; rw [List.length_take, HNE.out]; omega
          obtain ⟨m0, mf⟩ := m
          simp only at c0 c1 HFl HTK
          have HFf : Hid (RowG w (.slice a3 (nmRows mf).length c3) 2 (nmRows mf)) := HFf
          generalize hnF : (nmRows mf).length = nF at *
          clear hrf hm hnF
          have HLF : Hid ((nmRows mf).length = mf.length) := by show _ = _; simp [nmRows]
          have hgb : g < b0 := by have h9 : g < w.heap.size := World.block_lt_of_cell? _ _ c0; have := HBZ.out; omega
          have C0 : Hid (w.cell? ⟨g, off + i * 2, none⟩ = some (.string m0)) := c0
          have C1 : Hid (w.cell? ⟨g, off + i * 2 + 1, none⟩ = some (.slice a3 nF c3)) := c1
          clear c0 c1
          go_wp2_with fail
          clear x2
          refine M_region (T := fun W => W.cell? ⟨bt, 2, none⟩ = some (.slice na i nc) ∧ W.cell? ⟨b0, 2, none⟩ = some (.slice (some ⟨g, off, none⟩) E ce) ∧ W.cell? ⟨g, off + i * 2, none⟩ = some (.string m0) ∧ W.cell? ⟨g, off + i * 2 + 1, none⟩ = some (.slice a3 nF c3)) (m := 19) (by kernel_rfl) ?_
          have hb0 : Below wr.heap.size wr wr.drew := below_drewN 1 (Below.refl _ _)
          generalize wr.drew = W0 at *
          have BT0 := BT.below hb0
          have BX0 := BX.below hb0
          have BR0 := BR.below hb0
          have HES0 : Hid (EnO W0 (bt + 1) (.slice na i nc) (es.take i) pe) := HES.out.below hb0
          have HMS0 : Hid (MsO W0 (bt + 1) (.slice va k vc) ms pm) := HMS.out.below hb0
          have HO0 : Hid (W0.ownsRow (b0 + 2) 72 3 (.slice ua T uc) T (mtRows ts).flatten) := own_below HO.out hb0
          have hbel0 : Below w.heap.size w W0 := hbel.trans (hb0.mono hbel.size)
          have hbtw : bt < W0.heap.size := BT0.lt
          clear BT BX BR HES HMS HO hb0 hbel
          have hTW : ∀ W, Below W0.heap.size W0 W → W.cell? ⟨bt, 2, none⟩ = some (.slice na i nc) ∧ W.cell? ⟨b0, 2, none⟩ = some (.slice (some ⟨g, off, none⟩) E ce) ∧ W.cell? ⟨g, off + i * 2, none⟩ = some (.string m0) ∧ W.cell? ⟨g, off + i * 2 + 1, none⟩ = some (.slice a3 nF c3) := fun W hW => by
            have hwW : Below w.heap.size w W := hbel0.trans (hW.mono hbel0.size)
            exact ⟨(BT0.below hW).cell 2, (BX0.below hW).cell 2, (hwW.cell (World.block_lt_of_cell? _ _ C0.out)).trans C0.out, (hwW.cell (World.block_lt_of_cell? _ _ C1.out)).trans C1.out⟩
          have hT := hTW W0 (Below.refl _ _)
          refine M_take 0 46 (.pointer (some ⟨bt, 2, none⟩)) _ rfl rfl (by kernel_rfl) (by kernel_rfl) (by kernel_rfl) (by kernel_rfl) (by kernel_rfl) (fun _ _ _ h => h) (by rfl) (fun w' hw' => ?_) hT (listed' := #[true, false, false, false, false, false, false, false, false, false, false, false, false, false, false, false, false, false, false, false]) (by kernel_rfl) rfl ?_
          · obtain ⟨g0, g1, g2, g3⟩ := hw'; go_simp
          simp only [List.setIfInBounds_toArray, List.set_cons_zero, List.set_cons_succ]
          refine M_take 2 48 (.pointer (some ⟨b0, 2, none⟩)) _ rfl rfl (by kernel_rfl) (by kernel_rfl) (by kernel_rfl) (by kernel_rfl) (by kernel_rfl) (fun _ _ _ h => h) (by rfl) (fun w' hw' => ?_) hT (listed' := #[true, false, true, false, false, false, false, false, false, false, false, false, false, false, false, false, false, false, false, false]) (by kernel_rfl) rfl ?_
          · obtain ⟨g0, g1, g2, g3⟩ := hw'; go_simp
          simp only [List.setIfInBounds_toArray, List.set_cons_zero, List.set_cons_succ]
          refine M_take 4 50 (.int .i64 (i : Int)) _ rfl rfl (by kernel_rfl) (by kernel_rfl) (by kernel_rfl) (by kernel_rfl) (by kernel_rfl) (fun _ _ _ h => h) (by rfl) (fun w' hw' => ?_) hT (listed' := #[true, false, true, false, true, false, false, false, false, false, false, false, false, false, false, false, false, false, false, false]) (by kernel_rfl) rfl ?_
          · obtain ⟨g0, g1, g2, g3⟩ := hw'; go_simp
          simp only [List.setIfInBounds_toArray, List.set_cons_zero, List.set_cons_succ]
          refine M_take 8 54 (.pointer (some ⟨b0, 2, none⟩)) _ rfl rfl (by kernel_rfl) (by kernel_rfl) (by kernel_rfl) (by kernel_rfl) (by kernel_rfl) (fun _ _ _ h => h) (by rfl) (fun w' hw' => ?_) hT (listed' := #[true, false, true, false, true, false, false, false, true, false, false, false, false, false, false, false, false, false, false, false]) (by kernel_rfl) rfl ?_
          · obtain ⟨g0, g1, g2, g3⟩ := hw'; go_simp
          simp only [List.setIfInBounds_toArray, List.set_cons_zero, List.set_cons_succ]
          refine M_take 10 56 (.int .i64 (i : Int)) _ rfl rfl (by kernel_rfl) (by kernel_rfl) (by kernel_rfl) (by kernel_rfl) (by kernel_rfl) (fun _ _ _ h => h) (by rfl) (fun w' hw' => ?_) hT (listed' := #[true, false, true, false, true, false, false, false, true, false, true, false, false, false, false, false, false, false, false, false]) (by kernel_rfl) rfl ?_
          · obtain ⟨g0, g1, g2, g3⟩ := hw'; go_simp
          simp only [List.setIfInBounds_toArray, List.set_cons_zero, List.set_cons_succ]
          refine M_take 1 47 (.slice na i nc) _ rfl rfl (by kernel_rfl) (by kernel_rfl) (by kernel_rfl) (by kernel_rfl) (by kernel_rfl) (fun _ _ _ h => h) (by rfl) (fun w' hw' => ?_) hT (listed' := #[true, true, true, false, true, false, false, false, true, false, true, false, false, false, false, false, false, false, false, false]) (by kernel_rfl) rfl ?_
          · obtain ⟨g0, g1, g2, g3⟩ := hw'; go_simp
          simp only [List.setIfInBounds_toArray, List.set_cons_zero, List.set_cons_succ]
          refine M_take 3 49 (.slice (some ⟨g, off, none⟩) E ce) _ rfl rfl (by kernel_rfl) (by kernel_rfl) (by kernel_rfl) (by kernel_rfl) (by kernel_rfl) (fun _ _ _ h => h) (by rfl) (fun w' hw' => ?_) hT (listed' := #[true, true, true, true, true, false, false, false, true, false, true, false, false, false, false, false, false, false, false, false]) (by kernel_rfl) rfl ?_
          · obtain ⟨g0, g1, g2, g3⟩ := hw'; go_simp
          simp only [List.setIfInBounds_toArray, List.set_cons_zero, List.set_cons_succ]
          refine M_take 9 55 (.slice (some ⟨g, off, none⟩) E ce) _ rfl rfl (by kernel_rfl) (by kernel_rfl) (by kernel_rfl) (by kernel_rfl) (by kernel_rfl) (fun _ _ _ h => h) (by rfl) (fun w' hw' => ?_) hT (listed' := #[true, true, true, true, true, false, false, false, true, true, true, false, false, false, false, false, false, false, false, false]) (by kernel_rfl) rfl ?_
          · obtain ⟨g0, g1, g2, g3⟩ := hw'; go_simp
          simp only [List.setIfInBounds_toArray, List.set_cons_zero, List.set_cons_succ]
          refine M_take 5 51 (.pointer (some ⟨g, off + i * 2, none⟩)) _ rfl rfl (by kernel_rfl) (by kernel_rfl) (by kernel_rfl) (by kernel_rfl) (by kernel_rfl) (fun _ _ _ h => h) (by rfl) (fun w' hw' => ?_) hT (listed' := #[true, true, true, true, true, true, false, false, true, true, true, false, false, false, false, false, false, false, false, false]) (by kernel_rfl) rfl ?_
          · obtain ⟨g0, g1, g2, g3⟩ := hw'; go_simp
          simp only [List.setIfInBounds_toArray, List.set_cons_zero, List.set_cons_succ]
          refine M_take 11 57 (.pointer (some ⟨g, off + i * 2, none⟩)) _ rfl rfl (by kernel_rfl) (by kernel_rfl) (by kernel_rfl) (by kernel_rfl) (by kernel_rfl) (fun _ _ _ h => h) (by rfl) (fun w' hw' => ?_) hT (listed' := #[true, true, true, true, true, true, false, false, true, true, true, true, false, false, false, false, false, false, false, false]) (by kernel_rfl) rfl ?_
          · obtain ⟨g0, g1, g2, g3⟩ := hw'; go_simp
          simp only [List.setIfInBounds_toArray, List.set_cons_zero, List.set_cons_succ]
          refine M_take 6 52 (.pointer (some ⟨g, off + i * 2, none⟩)) _ rfl rfl (by kernel_rfl) (by kernel_rfl) (by kernel_rfl) (by kernel_rfl) (by kernel_rfl) (fun _ _ _ h => h) (by rfl) (fun w' hw' => ?_) hT (listed' := #[true, true, true, true, true, true, true, false, true, true, true, true, false, false, false, false, false, false, false, false]) (by kernel_rfl) rfl ?_
          · obtain ⟨g0, g1, g2, g3⟩ := hw'; go_simp
          simp only [List.setIfInBounds_toArray, List.set_cons_zero, List.set_cons_succ]
          refine M_take 12 58 (.pointer (some ⟨g, off + i * 2 + 1, none⟩)) _ rfl rfl (by kernel_rfl) (by kernel_rfl) (by kernel_rfl) (by kernel_rfl) (by kernel_rfl) (fun _ _ _ h => h) (by rfl) (fun w' hw' => ?_) hT (listed' := #[true, true, true, true, true, true, true, false, true, true, true, true, true, false, false, false, false, false, false, false]) (by kernel_rfl) rfl ?_
          · obtain ⟨g0, g1, g2, g3⟩ := hw'; go_simp
          simp only [List.setIfInBounds_toArray, List.set_cons_zero, List.set_cons_succ]
          refine M_take 7 53 (.string m0) _ rfl rfl (by kernel_rfl) (by kernel_rfl) (by kernel_rfl) (by kernel_rfl) (by kernel_rfl) (fun _ _ _ h => h) (by rfl) (fun w' hw' => ?_) hT (listed' := #[true, true, true, true, true, true, true, true, true, true, true, true, true, false, false, false, false, false, false, false]) (by kernel_rfl) rfl ?_
          · obtain ⟨g0, g1, g2, g3⟩ := hw'; go_simp
          simp only [List.setIfInBounds_toArray, List.set_cons_zero, List.set_cons_succ]
          refine M_take 13 59 (.slice a3 nF c3) _ rfl rfl (by kernel_rfl) (by kernel_rfl) (by kernel_rfl) (by kernel_rfl) (by kernel_rfl) (fun _ _ _ h => h) (by rfl) (fun w' hw' => ?_) hT (listed' := #[true, true, true, true, true, true, true, true, true, true, true, true, true, true, false, false, false, false, false, false]) (by kernel_rfl) rfl ?_
          · obtain ⟨g0, g1, g2, g3⟩ := hw'; go_simp
          simp only [List.setIfInBounds_toArray, List.set_cons_zero, List.set_cons_succ]
          obtain ⟨vf, W1, r1, r2, r3⟩ := run_joinG (w := W0) 66 66 70 2 24 _ Tryz.underlying66 infoNm rfl (by decide) W0.heap.size (.slice none 0 0) 0 [] (World.ownsRow_nil _ _ _ _) (.slice a3 nF c3) (nmRows mf) (HFf.out.below hbel0) (nmr_len mf) (nmr_one mf) (by have := HLF.out; have := HFl.out; omega) (by decide) (Nat.le_refl _)
          rw [List.nil_append, HLF.out, Nat.zero_add] at r2
          have hb1 : Below W0.heap.size W0 W1 := (Below.refl _ _).grown r3 (Nat.le_refl _) (fun k hk => by cases hk)
          obtain ⟨fa, fc, rfl⟩ := own_form r2
          have HO1 : Hid (W1.ownsRow W0.heap.size 70 2 (.slice fa mf.length fc) mf.length (nmRows mf).flatten) := r2
          have HAE5 : Hid (ApE (pe ++ [.slice fa mf.length fc])) := HAE.out.snoc HES0.out.highE (fun k hk => (HO1.out.lt k hk).1)
          have HRUN : Hid _ := r1
          have hT := hTW W1 hb1
          clear r1 r2 r3
          refine M_run 14 60 (.slice fa mf.length fc) (W1) rfl rfl (by kernel_rfl) (by rfl) (listed' := #[true, true, true, true, true, true, true, true, true, true, true, true, true, true, true, false, false, false, false, false]) (by kernel_rfl) (append_run rfl rfl rfl HRUN.out) hT ?_
          simp only [List.setIfInBounds_toArray, List.set_cons_zero, List.set_cons_succ]
          clear HRUN
          refine M_take 15 61 (.agg #[.string m0, .slice fa mf.length fc]) _ rfl rfl (by kernel_rfl) (by kernel_rfl) (by kernel_rfl) (by kernel_rfl) (by kernel_rfl) (fun _ _ _ h => h) (by rfl) (fun w' hw' => ?_) hT (listed' := #[true, true, true, true, true, true, true, true, true, true, true, true, true, true, true, true, false, false, false, false]) (by kernel_rfl) rfl ?_
          · obtain ⟨g0, g1, g2, g3⟩ := hw'; go_simp
          simp only [List.setIfInBounds_toArray, List.set_cons_zero, List.set_cons_succ]
          have hal : Below W1.heap.size W1 (W1.alloc (.cells #[.string m0, .slice fa mf.length fc] 68)) := (Below.refl _ _).alloc (Nat.le_refl _) _
          have hb03 : Below W0.heap.size W0 (W1.alloc (.cells #[.string m0, .slice fa mf.length fc] 68)) := hb1.trans (hal.mono hb1.size)
          have BE := Blk.new W1 #[.string m0, .slice fa mf.length fc] 68
          have HO1 : Hid ((W1.alloc (.cells #[.string m0, .slice fa mf.length fc] 68)).ownsRow W0.heap.size 70 2 (.slice fa mf.length fc) mf.length (nmRows mf).flatten) := own_below HO1.out hal
          obtain ⟨bz, hbz⟩ : ∃ n, W1.heap.size = n := ⟨_, rfl⟩
          refine M_run 16 62 (.slice (some ⟨W1.heap.size, 0, none⟩) 1 1) (W1.alloc (.cells #[.string m0, .slice fa mf.length fc] 68)) rfl rfl (by kernel_rfl) (by rfl) (listed' := #[true, true, true, true, true, true, true, true, true, true, true, true, true, true, true, true, true, false, false, false]) (by kernel_rfl) (by go_simp) (hTW _ hb03) ?_
          simp only [List.setIfInBounds_toArray, List.set_cons_zero, List.set_cons_succ]
          rw [hbz] at BE ⊢
          generalize (W1.alloc (.cells #[.string m0, .slice fa mf.length fc] 68)) = W3 at *
          clear hbz hal hb1
          have HES3 : Hid (EnO W3 (bt + 1) (.slice na i nc) (es.take i) pe) := HES0.out.below hb03
          obtain ⟨i0, hi0, hz0, hz1, hz2⟩ := info_parts infoEn
          have hown := HES3.out.own
          rw [HLK.out] at hown
          obtain ⟨v', W4, r1, r2, r3, _⟩ := run_append_own W3 (bt + 1) 23 23 68 i0 _ 2 40 Tryz.underlying23 hi0 hz0 hz1 hz2 rfl (by decide) (.slice na i nc) i _ hown ⟨bz, 0, none⟩ 1 1 [.string m0, .slice fa mf.length fc] rfl (fun j u hu => by
            have := BE.cell j
            rw [Addr.add_lit, Nat.zero_add, this]
            simpa using hu) (fun u hu => by
            simp only [List.mem_cons, List.not_mem_nil, or_false] at hu
            rcases hu with rfl | rfl <;> rfl) (by unfold maxLen; omega) (by omega) (by have := hb03.size; omega)
          have HRUN : Hid _ := r1
          have KA : Kp (fun q => (Value.slice na i nc).ownBlock = some q) W3 W4 := (Kp.refl _ _).grown r3 (fun q hq _ => hq)
          have HES4 : Hid (EnO W4 (bt + 1) v' (es.take (i + 1)) (pe ++ [.slice fa mf.length fc])) := by
            show EnO _ _ _ _ _
            rw [HTK.out]
            refine EnO.snoc (m := ⟨m0, mf⟩) HES3.out (H := W0.heap.size) (by omega) HO1.out ?_ KA
            rw [HLK.out]; exact r2
          obtain ⟨oa, oc, hv'⟩ := own_form r2
          subst hv'
          have HES4 : Hid (EnO W4 (bt + 1) (.slice oa (i + 1) oc) (es.take (i + 1)) (pe ++ [.slice fa mf.length fc])) := HES4
          have hnob : ∀ b cs t, Blk W3 b cs t → t ≠ 68 → ¬ (Value.slice na i nc).ownBlock = some b := fun b cs t hb ht hq => ht (own_type hown hq hb).symm
          have BT4 := (BT0.below hb03).kp KA (hnob _ _ _ (BT0.below hb03) (by decide))
          have BX4 := (BX0.below hb03).kp KA (hnob _ _ _ (BX0.below hb03) (by decide))
          have BR4 := (BR0.below hb03).kp KA (hnob _ _ _ (BR0.below hb03) (by decide))
          have HMS4 : Hid (MsO W4 (bt + 1) (.slice va k vc) ms pm) := (HMS0.out.below hb03).beside hown (by decide) (by decide) (by decide) KA
          have HO4 : Hid (W4.ownsRow (b0 + 2) 72 3 (.slice ua T uc) T (mtRows ts).flatten) := own_kpV (own_below HO0.out hb03) KA (fun q hv hq => own_apart hown (own_below HO0.out hb03) (by decide) q hq hv)
          have hb4 : Below w.heap.size w W4 := (hbel0.trans (hb03.mono hbel0.size)).grown r3 (by have := hb03.size; have := hbel0.size; omega) (fun q hq => by have := (hown.lt q hq).1; have := HBZ.out; omega)
          have hTm : W4.cell? ⟨bt, 2, none⟩ = some (.slice na i nc) ∧ W4.cell? ⟨b0, 2, none⟩ = some (.slice (some ⟨g, off, none⟩) E ce) ∧ W4.cell? ⟨g, off + i * 2, none⟩ = some (.string m0) ∧ W4.cell? ⟨g, off + i * 2 + 1, none⟩ = some (.slice a3 nF c3) :=
            ⟨BT4.cell 2, BX4.cell 2, (hb4.cell (World.block_lt_of_cell? _ _ C0.out)).trans C0.out, (hb4.cell (World.block_lt_of_cell? _ _ C1.out)).trans C1.out⟩
          clear r1 r2 r3 hown
          refine M_run 17 63 (.slice oa (i + 1) oc) (W4) rfl rfl (by kernel_rfl) (by rfl) (listed' := #[true, true, true, true, true, true, true, true, true, true, true, true, true, true, true, true, true, true, false, false]) (by kernel_rfl) (append_run rfl rfl rfl HRUN.out) hTm ?_
          simp only [List.setIfInBounds_toArray, List.set_cons_zero, List.set_cons_succ]
          clear HRUN
          have hT := hTm
          refine M_take 18 64 (.pointer (some ⟨bt, 2, none⟩)) _ rfl rfl (by kernel_rfl) (by kernel_rfl) (by kernel_rfl) (by kernel_rfl) (by kernel_rfl) (fun _ _ _ h => h) (by rfl) (fun w' hw' => ?_) hT (listed' := #[true, true, true, true, true, true, true, true, true, true, true, true, true, true, true, true, true, true, true, false]) (by kernel_rfl) rfl ?_
          · obtain ⟨g0, g1, g2, g3⟩ := hw'; go_simp
          simp only [List.setIfInBounds_toArray, List.set_cons_zero, List.set_cons_succ]
          have y1 := (BT4.cell 2).trans rfl
          have z1 := BT4.froz 2
          refine M_store 19 (W4.setCell ⟨bt, 2, none⟩ (.slice oa (i + 1) oc)) rfl rfl (by kernel_rfl) (by rfl) (listed' := #[true, true, true, true, true, true, true, true, true, true, true, true, true, true, true, true, true, true, true, true]) (by kernel_rfl) (by go_simp) (by kernel_rfl) ?_
          refine M_done (by kernel_rfl) ?_ _
          have KS : Kp (fun q => q = bt) W4 (W4.setCell ⟨bt, 2, none⟩ (.slice oa (i + 1) oc)) := by
            refine Kp.setCell ?_ (fun _ => by simp) _
            exact Kp.refl _ _
          have BT5 : Blk (W4.setCell ⟨bt, 2, none⟩ (.slice oa (i + 1) oc)) bt #[.string nm, .slice va k vc, .slice oa (i + 1) oc, .slice ua T uc] 26 := BT4.set 2 _ rfl
          have BX5 := BX4.kp KS (by omega)
          have BR5 := BR4.kp KS (by omega)
          have HES5 : Hid (EnO (W4.setCell ⟨bt, 2, none⟩ (.slice oa (i + 1) oc)) (bt + 1) (.slice oa (i + 1) oc) (es.take (i + 1)) (pe ++ [.slice fa mf.length fc])) := HES4.out.kp KS (fun q h1 h2 => by omega)
          have HMS5 : Hid (MsO (W4.setCell ⟨bt, 2, none⟩ (.slice oa (i + 1) oc)) (bt + 1) (.slice va k vc) ms pm) := HMS4.out.kp KS (fun q h1 h2 => by omega)
          have HO5 : Hid ((W4.setCell ⟨bt, 2, none⟩ (.slice oa (i + 1) oc)).ownsRow (b0 + 2) 72 3 (.slice ua T uc) T (mtRows ts).flatten) := own_blk HO4.out BT4 (by decide) KS
          have hb5 : Below w.heap.size w (W4.setCell ⟨bt, 2, none⟩ (.slice oa (i + 1) oc)) := hb4.trans (KS.toBelow hb4.size (fun q e => by have := HBZ.out; omega))
          generalize (W4.setCell ⟨bt, 2, none⟩ (.slice oa (i + 1) oc)) = W5 at *
          clear y1 z1 KS BT4 BX4 BR4 HMS4 HES4 HO4 hb4 hT hTm hTW BT0 BX0 BR0 HMS0 HES0 HO0 hbel0 HES3 KA BE hb03 HO1 hnob
          go_wp2_with fail
          go_roundw
          case rel => exact ⟨i + 1, _, _, _, by go_num, by omega, HES5, HAE5, HMS5, BT5, HO5, BX5, BR5, hb5⟩
          case measure => simp [intOf]; omega
        · have HES1 : Hid (EnO wr (bt + 1) (.slice na i nc) es pe) := by
            have := HES.out
            rw [List.take_of_length_le (by rw [HNE.out]; omega)] at this
            exact this
          have t0 : wr.cell? ⟨bt, 0, none⟩ = some (.string nm) := BT.cell 0
          have t1 : wr.cell? ⟨bt, 1, none⟩ = some (.slice va k vc) := BT.cell 1
          have t2 : wr.cell? ⟨bt, 2, none⟩ = some (.slice na i nc) := BT.cell 2
          have t3 : wr.cell? ⟨bt, 3, none⟩ = some (.slice ua T uc) := BT.cell 3
          have r0 := (BR.cell 0).trans rfl
          have r1 := (BR.cell 1).trans rfl
          have r2 := (BR.cell 2).trans rfl
          have r3 := (BR.cell 3).trans rfl
          have z0 := BR.froz 0
          have z1 := BR.froz 1
          have z2 := BR.froz 2
          have z3 := BR.froz 3
          go_wp2_with fail
          refine bodyPost_ret (results_cell rfl _ _ _ ⟨b0 + 1, 0, none⟩ (.agg #[.string nm, .slice va k vc, .slice na i nc, .slice ua T uc]) (by go_simp) (by go_simp)) rfl ?_
          have KS : Kp (fun q => q = b0 + 1) wr ((((wr.setCell ⟨b0 + 1, 0, none⟩ (.string nm)).setCell ⟨b0 + 1, 1, none⟩ (.slice va k vc)).setCell ⟨b0 + 1, 2, none⟩ (.slice na i nc)).setCell ⟨b0 + 1, 3, none⟩ (.slice ua T uc)) := by
            refine Kp.setCell ?_ (fun _ => by simp) _
            refine Kp.setCell ?_ (fun _ => by simp) _
            refine Kp.setCell ?_ (fun _ => by simp) _
            refine Kp.setCell ?_ (fun _ => by simp) _
            exact Kp.refl _ _
          refine ⟨_, _, _, pm, pe, rfl, ?_, ?_, ?_, ?_, HAR.out, HAE.out⟩
          · exact (HMS.out.kp KS (fun q h1 h2 => by omega)).base (by have := HBZ.out; omega)
          · exact (HES1.out.kp KS (fun q h1 h2 => by omega)).base (by have := HBZ.out; omega)
          · exact own_base (own_kp HO.out KS (fun q h1 h2 => by omega)) (by have := HBZ.out; omega)
          · exact hbel.trans (KS.toBelow hbel.size (fun q e => by have := HBZ.out; omega))
theorem schema_any {w : World} {v : Value} {s : ScS} (hr : ScIn w v s) (hf : FewL s) :
    Calls Tryz.prog 10 #[v] w fun e w' => ∃ vm ve vt pm pe, e = .returned (.agg #[.string s.name, vm, ve, vt]) ∧ MsO w' w.heap.size vm s.msgs pm ∧ EnO w' w.heap.size ve s.enums pe ∧ w'.ownsRow w.heap.size 72 3 vt s.methods.length (mtRows s.methods).flatten ∧ Below w.heap.size w w' :=
  (schema_ap hr hf).mono fun e w' ⟨vm, ve, vt, pm, pe, h1, h2, h3, h4, h5, _⟩ => ⟨vm, ve, vt, pm, pe, h1, h2, h3, h4, h5⟩
end Go.Proofs.YtfnjbbaphmmjlaaGreat

/- A value that fits, but for one entry whose trees are of another kind. -/
namespace Go.Proofs.YtfnjbbaphmmjlaaGreat
set_option linter.unusedVariables false
set_option linter.unusedSimpArgs false

theorem errF_every : ∀ {l : List Int}, errF l = 0 → ∀ x ∈ l, x = 0
  | [], _, x, hx => by cases hx
  | a :: l, h, x, hx => by
    simp only [errF] at h
    split at h
    · rcases List.mem_cons.1 hx with rfl | hx
      · assumption
      · exact errF_every h x hx
    · exact absurd h (by assumption)
theorem errF_none : ∀ {l : List Int}, (∀ x ∈ l, x = 0) → errF l = 0
  | [], _ => rfl
  | a :: l, h => by
    simp only [errF]
    rw [if_pos (h a (List.mem_cons_self ..))]
    exact errF_none fun x hx => h x (List.mem_cons_of_mem _ hx)
theorem ents_each : ∀ {es : List (Int × List Tr)} {last : Int}, entsB last es = true → ∀ e ∈ es, 1 ≤ e.2.length
  | [], _, _, e, he => by cases he
  | a :: l, last, h, e, he => by
    simp only [entsB, Bool.and_eq_true, decide_eq_true_eq] at h
    rcases List.mem_cons.1 he with rfl | he
    · exact h.1.1.1.2
    · exact ents_each h.2 e he
theorem entsB_set : ∀ {es : List (Int × List Tr)} {last : Int} {i : Nat} {e : Int × List Tr} {ts : List Tr}, entsB last es = true → es[i]? = some e → ts.length = e.2.length → (ts.all fun x => x.kind == (ts.head?.map Tr.kind).getD 0) = true → entsB last (es.set i (e.1, ts)) = true
  | [], _, i, _, _, _, h, _, _ => by simp at h
  | a :: l, last, 0, e, ts, h, hi, hl, hk => by
    obtain rfl : a = e := by simpa using hi
    simp only [List.set_cons_zero, entsB, Bool.and_eq_true, decide_eq_true_eq] at h ⊢
    obtain ⟨⟨⟨⟨⟨h1, h2⟩, h3⟩, h4⟩, h5⟩, h6⟩ := h
    exact ⟨⟨⟨⟨⟨h1, h2⟩, by omega⟩, by omega⟩, hk⟩, h6⟩
  | a :: l, last, i + 1, e, ts, h, hi, hl, hk => by
    simp only [List.set_cons_succ, entsB, Bool.and_eq_true] at h ⊢
    exact ⟨h.1, entsB_set h.2 (by simpa using hi) hl hk⟩
theorem rep_all (n : Nat) (o : Tr) : ((List.replicate n o).all fun x => x.kind == ((List.replicate n o).head?.map Tr.kind).getD 0) = true := by
  cases n with
  | zero => rfl
  | succ n =>
    rw [List.all_eq_true]
    intro x hx
    rw [List.eq_of_mem_replicate hx]
    simp [List.replicate_succ]
/-- One entry's trees are others. -/
def othT (t : Tr) (i : Nat) (e : Int × List Tr) (ts : List Tr) : Tr := ⟨t.kind, t.n, t.s, t.es.set i (e.1, ts), t.rest⟩
theorem mem_set_subs {es : List (Int × List Tr)} {i : Nat} {x : Int × List Tr} {y : Tr} (h : y ∈ subs (es.set i x)) : y ∈ subs es ∨ y ∈ x.2 := by
  obtain ⟨e, he, hy⟩ := mem_subs.1 h
  rcases List.mem_or_eq_of_mem_set he with he | rfl
  · exact .inl (mem_subs.2 ⟨e, he, hy⟩)
  · exact .inr hy
theorem oth_valid {n : Nat} {s : ScS} {nm : ByteArray} {t : Tr} (h : FitT (n + 2) s nm t) (hn : n ≤ 8) (hs : checkA s = 0) (hm : (msgOf s nm).isSome = true) {i : Nat} {e : Int × List Tr} {x0 o : Tr} (hi : t.es[i]? = some e) (hx : e.2[0]? = some x0) (hok : okN (n + 1) o = true) (ho : o.kind ≠ x0.kind) :
    validA (n + 2) s nm (othT t i e (List.replicate e.2.length o)) = 8 := by
  have hE := h.ents
  have hne : 0 < e.2.length := (List.getElem?_eq_some_iff.1 hx).1
  have hlen : i < t.es.length := (List.getElem?_eq_some_iff.1 hi).1
  have hok2 : okN (n + 2) (othT t i e (List.replicate e.2.length o)) = true := by
    have h1 := h.ok
    simp only [okN, Bool.and_eq_true] at h1 ⊢
    have hk3 := h.kind
    refine ⟨?_, ?_⟩
    · have h3 := entsB_set hE hi (ts := List.replicate e.2.length o) (by simp) (rep_all _ _)
      have h4 := h1.1
      rw [h.form] at h4 ⊢
      simp only [lvB, othT, if_neg (show ¬ (3 : Int) = 1 by decide), if_neg (show ¬ (3 : Int) = 2 by decide), if_pos, Bool.and_eq_true] at h4 ⊢
      exact ⟨⟨h4.1.1, h3⟩, by simp [restB, risesB]⟩
    · have h5 := h1.2
      have e3 : (othT t i e (List.replicate e.2.length o)).kind = 3 := hk3
      rw [if_pos hk3] at h5
      rw [if_pos e3]
      rw [List.all_eq_true] at h5 ⊢
      intro y hy
      rcases mem_set_subs hy with hy | hy
      · exact h5 y hy
      · rw [List.eq_of_mem_replicate hy]; exact hok
  have hchk : chkN (n + 2) (othT t i e (List.replicate e.2.length o)) = true := by
    have := dpN_le (n + 2) (othT t i e (List.replicate e.2.length o))
    simp only [chkN, Bool.and_eq_true, decide_eq_true_eq]
    exact ⟨by omega, hok2⟩
  have hk : (othT t i e (List.replicate e.2.length o)).kind = 3 := h.kind
  rw [validA, if_neg (by simp [hs]), if_neg (by simp [hm]), if_neg (by simp [hchk, hk])]
  have herr := h.errs
  have hz := errF_every herr
  have hze : entV (msgV (n + 1) s) ((msgOf s nm).getD zMs).fields e = 0 := hz _ (List.mem_map.2 ⟨e, List.mem_of_getElem? hi, rfl⟩)
  refine msgV_hit ?_ (by decide)
  have hi' : (othT t i e (List.replicate e.2.length o)).es[i]? = some (e.1, List.replicate e.2.length o) := by
    show (t.es.set i _)[i]? = _
    rw [List.getElem?_set, if_pos rfl, if_pos hlen]
  have htk : (othT t i e (List.replicate e.2.length o)).es.take i = t.es.take i := by
    show (t.es.set i _).take i = _
    rw [List.take_set_of_le (Nat.le_refl _)]
  have hV : entV (msgV (n + 1) s) ((msgOf s nm).getD zMs).fields (e.1, List.replicate e.2.length o) = 8 := by
    unfold entV at hze ⊢
    cases hf : fldOf ((msgOf s nm).getD zMs).fields e.1 with
    | none => rw [hf] at hze; simp at hze
    | some f =>
      rw [hf] at hze
      simp only at hze ⊢
      by_cases hl : f.label ≠ 3 ∧ 1 < e.2.length
      · rw [if_pos hl] at hze; exact absurd hze (by decide)
      · rw [if_neg hl] at hze
        have hl2 : ¬ (f.label ≠ 3 ∧ 1 < (List.replicate e.2.length o).length) := by rw [List.length_replicate]; exact hl
        rw [if_neg hl2]
        have hx0 : oneV (msgV (n + 1) s) f x0 = 0 := errF_every hze _ (List.mem_map.2 ⟨x0, List.mem_of_getElem? hx, rfl⟩)
        have hkx : x0.kind = kindT f.kind := by
          by_cases hq : x0.kind = kindT f.kind
          · exact hq
          · have h1 : treeV (msgV (n + 1) s) f.kind f.tname x0 = 8 := by rw [treeV, if_pos hq]
            rw [oneV, h1, if_pos (by decide)] at hx0
            exact absurd hx0 (by decide)
        have ho8 : oneV (msgV (n + 1) s) f o = 8 := by
          have h1 : treeV (msgV (n + 1) s) f.kind f.tname o = 8 := by rw [treeV, if_pos (by rw [← hkx]; exact ho)]
          rw [oneV, h1, if_pos (by decide)]
        obtain ⟨q, hq⟩ : ∃ q, e.2.length = q + 1 := ⟨e.2.length - 1, by omega⟩
        rw [hq, List.replicate_succ, List.map_cons, errF, ho8, if_neg (by decide)]
  have h0 : errF (((othT t i e (List.replicate e.2.length o)).es.take i).map (entV (msgV (n + 1) s) ((msgOf s nm).getD zMs).fields)) = 0 := by
    rw [htk]
    refine errF_none fun x hq => ?_
    obtain ⟨y, hy, rfl⟩ := List.mem_map.1 hq
    exact hz _ (List.mem_map.2 ⟨y, List.mem_of_mem_take hy, rfl⟩)
  rw [errF_hit hi' h0 (by rw [hV]; decide), hV]
/-- The first j trees turned. -/
def rowJ (ts : List Tr) (o : Tr) (j : Nat) : List Tr := List.replicate j o ++ ts.drop j
theorem rowJ_zero (ts : List Tr) (o : Tr) : rowJ ts o 0 = ts := by simp [rowJ]
theorem rowJ_all (ts : List Tr) (o : Tr) : rowJ ts o ts.length = List.replicate ts.length o := by simp [rowJ]
theorem rowJ_len (ts : List Tr) (o : Tr) {j : Nat} (h : j ≤ ts.length) : (rowJ ts o j).length = ts.length := by simp [rowJ]; omega
theorem rowJ_step {ts : List Tr} {o : Tr} {j : Nat} (h : j < ts.length) : (rowJ ts o j).set j o = rowJ ts o (j + 1) := by
  unfold rowJ
  rw [List.set_append_right _ _ (by simp), List.length_replicate, Nat.sub_self, List.drop_eq_getElem_cons h, List.set_cons_zero, List.replicate_succ', List.append_assoc]
  rfl
theorem othT_step (t : Tr) (i : Nat) (e : Int × List Tr) (ts us : List Tr) : (othT (othT t i e ts) i e us) = othT t i e us := by
  simp [othT]
theorem othT_same : ∀ {t : Tr} {i : Nat} {e : Int × List Tr}, t.es[i]? = some e → othT t i e e.2 = t
  | ⟨k, n, s, es, rest⟩, i, e, h => by
    obtain ⟨hl, he⟩ := List.getElem?_eq_some_iff.1 h
    have h2 : es.set i (e.1, e.2) = es := by
      rw [← he]
      exact List.set_getElem_self hl
    simp only [othT]
    rw [h2]
end Go.Proofs.YtfnjbbaphmmjlaaGreat

/- Split from RowSet. -/
namespace Go.Proofs.YtfnjbbaphmmjlaaGreat
open Go.ChangeShapes Go.WideShapes Go.ChangeAt Go.RowKit
set_option linter.unusedVariables false
set_option linter.unusedSimpArgs false
set_option maxRecDepth 20000

theorem flat_set {size : Nat} : ∀ (rs : List (List Value)), (∀ r ∈ rs, r.length = size) → ∀ (j : Nat) (r : List Value), rs[j]? = some r → ∀ (c : Nat) (u : Value), c < size → rs.flatten.set (j * size + c) u = (rs.set j (r.set c u)).flatten
  | [], _, j, r, h, _, _, _ => by simp at h
  | x :: l, hl, 0, r, h, c, u, hc => by
    obtain rfl : x = r := by simpa using h
    have hx := hl x (List.mem_cons_self ..)
    rw [List.flatten_cons, Nat.zero_mul, Nat.zero_add, List.set_append_left _ _ (by omega), List.set_cons_zero, List.flatten_cons]
  | x :: l, hl, j + 1, r, h, c, u, hc => by
    have hx := hl x (List.mem_cons_self ..)
    have ih := flat_set l (fun r hr => hl r (List.mem_cons_of_mem _ hr)) j r (by simpa using h) c u hc
    rw [List.flatten_cons, List.set_append_right _ _ (by rw [hx, Nat.add_mul]; omega), List.set_cons_succ, List.flatten_cons, ← ih]
    congr 2
    rw [hx, Nat.add_mul]; omega
end Go.Proofs.YtfnjbbaphmmjlaaGreat

/- Trees of one's own whose entries are turned in place, or put behind one another. -/
namespace Go.Proofs.YtfnjbbaphmmjlaaGreat
open Go.ChangeShapes Go.WideShapes Go.ChangeAt Go.RowKit
set_option linter.unusedVariables false
set_option linter.unusedSimpArgs false
set_option maxRecDepth 20000

theorem sm_setCell {w : World} {p : Addr} {u : Value} {bs : List Nat} (h : p.block ∉ bs) : Sm w (w.setCell p u) bs := fun k hk => Below.heap_setCell _ _ _ _ (fun e => h (e ▸ hk))
theorem own_baseG {w : World} {base base' : Nat} {e : TypeId} {s : Nat} {v : Value} {n : Nat} {xs : List Value} (h : w.ownsRow base e s v n xs) (hb : base' ≤ base) : w.ownsRow base' e s v n xs := by
  refine ⟨h.1, ?_⟩
  rcases h.2 with h | ⟨g, cap, cur, h1, h2, h3⟩
  · exact .inl h
  · exact .inr ⟨g, cap, cur, h1, Nat.le_trans hb h2, h3⟩
/-- An entry's tag is turned, in place. -/
theorem RowO.setTag {n B g cap : Nat} {w : World} {es : List (Int × List Tr)} {rows : List (List Value)} {bss : List (List Nat)} (h : RowO (EtO (TrO n B) B) B 58 2 w (.slice (some ⟨g, 0, none⟩) es.length cap) es rows bss) (hg : g ∉ bss.flatten) {i : Nat} {e : Int × List Tr} (hi : es[i]? = some e) {z : Int} (hz : Is64 z) :
    ∃ rows', RowO (EtO (TrO n B) B) B 58 2 (w.setCell ⟨g, i * 2, none⟩ (.int .i64 z)) (.slice (some ⟨g, 0, none⟩) es.length cap) (es.set i (z, e.2)) rows' bss := by
  obtain ⟨r, b, hr, hb, vt, rs', bss', rfl, g2, g3, g4⟩ := h.each i e hi
  have hlt : i < rows.length := (List.getElem?_eq_some_iff.1 hr).1
  have hlt2 : i < es.length := (List.getElem?_eq_some_iff.1 hi).1
  have hst := (h.own.stored (i * 2) (.int .i64 z)).1
  have hf := flat_set rows h.wide i _ hr 0 (.int .i64 z) (by decide)
  rw [Nat.add_zero] at hf
  rw [hf] at hst
  refine ⟨rows.set i [.int .i64 z, vt], ⟨by rw [List.length_set]; exact hst, by rw [List.length_set, List.length_set]; exact h.len, by rw [List.length_set]; exact h.blen, fun r hr => ?_, fun j x hx => ?_⟩⟩
  · rcases List.mem_or_eq_of_mem_set hr with hr | rfl
    · exact h.wide r hr
    · rfl
  · rw [List.getElem?_set] at hx
    split at hx
    · rename_i hij
      subst hij
      obtain rfl : (z, e.2) = x := by simpa using hx
      refine ⟨[.int .i64 z, vt], b, by rw [List.getElem?_set, if_pos rfl, if_pos hlt], hb, vt, rs', bss', rfl, hz, ?_, g4⟩
      refine g3.sm (sm_setCell fun hk => hg (List.mem_flatten.2 ⟨b, List.mem_of_getElem? hb, by rw [g4]; exact hk⟩)) fun r x b hp hs => hp.sm hs
    · rename_i hij
      obtain ⟨r2, b2, q1, q2, q3⟩ := h.each j x hx
      exact ⟨r2, b2, by rw [List.getElem?_set, if_neg hij]; exact q1, q2, q3.sm (sm_setCell fun hk => hg (List.mem_flatten.2 ⟨b2, List.mem_of_getElem? q2, hk⟩))⟩
theorem TrO.setTag {n B g cap : Nat} {w : World} {t : Tr} {vr : Value} {bs : List Nat} (h : TrO (n + 1) B w [.int .i64 t.kind, .int .i64 t.n, .string t.s, .slice (some ⟨g, 0, none⟩) t.es.length cap, vr] t bs) (hn : bs.Nodup) {i : Nat} {e : Int × List Tr} (hi : t.es[i]? = some e) {z : Int} (hz : Is64 z) :
    TrO (n + 1) B (w.setCell ⟨g, i * 2, none⟩ (.int .i64 z)) [.int .i64 t.kind, .int .i64 t.n, .string t.s, .slice (some ⟨g, 0, none⟩) t.es.length cap, vr] { t with es := t.es.set i (z, e.2) } bs ∧ g ∈ bs := by
  obtain ⟨ve, vr', rows, bss, h1, h2, h3, h4, h5, h6, h7, rfl⟩ := h
  simp only [List.cons.injEq, and_true, true_and] at h1
  obtain ⟨rfl, rfl⟩ := h1
  have hbl : blkOf (.slice (some ⟨g, 0, none⟩) t.es.length cap) = [g] := rfl
  rw [allB, hbl] at hn
  have hn1 : g ∉ bss.flatten := by
    have := (List.nodup_append.1 hn).2.1
    rw [List.singleton_append, List.nodup_cons] at this
    exact this.1
  have hn2 : g ∉ blkOf vr := fun hk => (List.nodup_append.1 hn).2.2 g hk g (by simp) rfl
  obtain ⟨rows', h8⟩ := h7.setTag hn1 hi hz
  refine ⟨⟨_, vr, rows', bss, rfl, h2, h3, h4, h5, ownsRow_setCell_other h6 (fun e => hn2 (mem_blkOf.2 e)) _, h8, rfl⟩, ?_⟩
  rw [allB, hbl]
  simp
/-- Entries behind entries. -/
theorem RowO.join {n B B2 : Nat} {w w' : World} {v v2 v' : Value} {es fs : List (Int × List Tr)} {rows rows2 : List (List Value)} {bss bss2 : List (List Nat)} (h : RowO (EtO (TrO n B2) B2) B2 58 2 w v es rows bss) (k : RowO (EtO (TrO n B) B) B 58 2 w v2 fs rows2 bss2) (hB : B ≤ B2)
    (ho : w'.ownsRow B2 58 2 v' (es.length + rows2.length) (rows.flatten ++ rows2.flatten)) (s1 : Sm w w' bss.flatten) (s2 : Sm w w' bss2.flatten) : RowO (EtO (TrO n B) B) B 58 2 w' v' (es ++ fs) (rows ++ rows2) (bss ++ bss2) := by
  refine ⟨?_, ?_, ?_, ?_, fun i x hx => ?_⟩
  · rw [List.length_append, ← k.len, List.flatten_append]
    exact own_baseG ho hB
  · rw [List.length_append, List.length_append, h.len, k.len]
  · rw [List.length_append, List.length_append, h.blen, k.blen]
  · intro r hr
    rcases List.mem_append.1 hr with hr | hr
    · exact h.wide r hr
    · exact k.wide r hr
  · by_cases hi : i < es.length
    · rw [List.getElem?_append_left hi] at hx
      obtain ⟨r, b, q1, q2, q3⟩ := h.each i x hx
      refine ⟨r, b, by rw [List.getElem?_append_left (by rw [h.len]; exact hi)]; exact q1, by rw [List.getElem?_append_left (by rw [h.blen]; exact hi)]; exact q2, ?_⟩
      have q4 := q3.sm (s1.mono fun k hk => List.mem_flatten.2 ⟨b, List.mem_of_getElem? q2, hk⟩)
      obtain ⟨vt, rs', bs', g1, g2, g3, g4⟩ := q4
      exact ⟨vt, rs', bs', g1, g2, g3.base hB (fun r x b hp => hp.base hB), g4⟩
    · rw [List.getElem?_append_right (by omega)] at hx
      obtain ⟨r, b, q1, q2, q3⟩ := k.each _ x hx
      refine ⟨r, b, by rw [List.getElem?_append_right (by rw [h.len]; omega), h.len]; exact q1, by rw [List.getElem?_append_right (by rw [h.blen]; omega), h.blen]; exact q2, q3.sm (s2.mono fun k hk => List.mem_flatten.2 ⟨b, List.mem_of_getElem? q2, hk⟩)⟩
end Go.Proofs.YtfnjbbaphmmjlaaGreat
