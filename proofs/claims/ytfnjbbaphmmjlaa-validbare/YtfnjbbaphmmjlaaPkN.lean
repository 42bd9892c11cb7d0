/- Bare and copies. -/
import Derived.Laws.StructEq
import Derived.BigQuiet
import Derived.Test.YtfnjbbaphmmjlaaPkM
import Derived.Test.YtfnjbbaphmmjlaaPkJ
import Derived.Test.YtfnjbbaphmmjlaaPkA
namespace Go.Proofs.Ytfnjbbaphmmjlaa
open Go.ChangeShapes Go.WideShapes Go.ChangeAt Go.RowKit
set_option linter.unusedVariables false
set_option linter.unusedSimpArgs false
set_option maxRecDepth 20000

theorem CyS.start (b : Bool) {W0 w : World} {cb mb : Nat} (hB : Blk w cb #[.bool b, .map (some mb), .slice none 0 0] 67) (hm : PlMap w mb []) (h0 : W0.heap.size ≤ cb) (h1 : W0.heap.size ≤ mb) (hb : Below W0.heap.size W0 w) : CyS b W0 w cb mb (.slice none 0 0) [] [] :=
  ⟨hB, h0, h1, hb, ⟨[], hm, by simp⟩, World.ownsRow_nil _ _ _ _, by simp, by simp, by simp⟩
theorem recs_fil {b : Bool} {W0 w : World} {cb mb : Nat} {lv : Value} {R : List Rec} (h : CyS b W0 w cb mb lv R []) (hf : ∀ r ∈ R, Fil b W0 w R r r.u.es.length) : ∀ r ∈ R, RecOk b W0 w r ∧ Fil b W0 w R r r.u.es.length := fun r hr => ⟨h.recs r hr, hf r hr⟩
set_option maxHeartbeats 8000000 in
/-- Bare answers the tree without what is not known of it. -/
theorem bare_any {n : Nat} {t : Tr} {v : Value} {w : World} (ht : TrW n w v t) (hsm : SmN n t) (hcn : cntN n t ≤ 1000) :
    Calls Try.prog 8 #[v] w fun e w' => ∃ r, e = .returned r ∧ TrW n w' r (cutT true n t) ∧ Below w.heap.size w w' := by
  have hdp : DpN n t := by
    obtain ⟨r, -, h⟩ := ht
    exact h.dp
  have ht' := ht
  obtain ⟨m, a1, c1, a2, c2, hmn, rfl, -⟩ := ht.open
  obtain ⟨K, hK⟩ : ∃ z, t.kind = z := ⟨_, rfl⟩
  obtain ⟨N, hN⟩ : ∃ z, t.n = z := ⟨_, rfl⟩
  obtain ⟨S, hS⟩ : ∃ z, t.s = z := ⟨_, rfl⟩
  obtain ⟨n1, hn1⟩ : ∃ z, t.es.length = z := ⟨_, rfl⟩
  obtain ⟨n2, hn2⟩ : ∃ z, t.rest.length = z := ⟨_, rfl⟩
  rw [hK, hN, hS, hn1, hn2] at ht' ⊢
  have HKS : Hid (t.kind = K ∧ t.n = N ∧ t.s = S) := ⟨hK, hN, hS⟩
  obtain ⟨Z, hZ⟩ : ∃ Z, Z = (((w.alloc (Obj.cells #[.int .i64 K, .int .i64 N, .string S, .slice a1 n1 c1, .slice a2 n2 c2] 30)).alloc (Obj.cells #[.int .i64 0, .int .i64 0, .string ⟨#[]⟩, .slice none 0 0, .slice none 0 0] 30)).alloc (.map #[] 0)).alloc (Obj.cells #[.bool true, .map (some (w.heap.size + 1 + 1)), .slice none 0 0] 67) := ⟨_, rfl⟩
  have hb : Below w.heap.size w Z := by
    rw [hZ]
    exact ((((Below.refl _ _).alloc (Nat.le_refl _) _).alloc (by simp) _).alloc (by simp; omega) _).alloc (by simp; omega) _
  have BR : Blk Z (w.heap.size + 1) #[.int .i64 0, .int .i64 0, .string ⟨#[]⟩, .slice none 0 0, .slice none 0 0] 30 := by
    rw [hZ]
    have := Blk.new (w.alloc (Obj.cells #[.int .i64 K, .int .i64 N, .string S, .slice a1 n1 c1, .slice a2 n2 c2] 30)) #[.int .i64 0, .int .i64 0, .string ⟨#[]⟩, .slice none 0 0, .slice none 0 0] 30
    rw [show (w.alloc (Obj.cells #[.int .i64 K, .int .i64 N, .string S, .slice a1 n1 c1, .slice a2 n2 c2] 30)).heap.size = w.heap.size + 1 from by simp] at this
    exact (this.below ((Below.refl _ _).alloc (Nat.le_refl _) _)).below ((Below.refl _ _).alloc (Nat.le_refl _) _)
  have BC : Blk Z (w.heap.size + 1 + 1 + 1) #[.bool true, .map (some (w.heap.size + 1 + 1)), .slice none 0 0] 67 := by
    rw [hZ]
    have := Blk.new (((w.alloc (Obj.cells #[.int .i64 K, .int .i64 N, .string S, .slice a1 n1 c1, .slice a2 n2 c2] 30)).alloc (Obj.cells #[.int .i64 0, .int .i64 0, .string ⟨#[]⟩, .slice none 0 0, .slice none 0 0] 30)).alloc (.map #[] 0)) #[.bool true, .map (some (w.heap.size + 1 + 1)), .slice none 0 0] 67
    rwa [show (((w.alloc (Obj.cells #[.int .i64 K, .int .i64 N, .string S, .slice a1 n1 c1, .slice a2 n2 c2] 30)).alloc (Obj.cells #[.int .i64 0, .int .i64 0, .string ⟨#[]⟩, .slice none 0 0, .slice none 0 0] 30)).alloc (.map #[] 0)).heap.size = w.heap.size + 1 + 1 + 1 from by simp] at this
  have PM : PlMap Z (w.heap.size + 1 + 1) [] := by
    rw [hZ]
    have := PlMap.made ((w.alloc (Obj.cells #[.int .i64 K, .int .i64 N, .string S, .slice a1 n1 c1, .slice a2 n2 c2] 30)).alloc (Obj.cells #[.int .i64 0, .int .i64 0, .string ⟨#[]⟩, .slice none 0 0, .slice none 0 0] 30))
    rw [show ((w.alloc (Obj.cells #[.int .i64 K, .int .i64 N, .string S, .slice a1 n1 c1, .slice a2 n2 c2] 30)).alloc (Obj.cells #[.int .i64 0, .int .i64 0, .string ⟨#[]⟩, .slice none 0 0, .slice none 0 0] 30)).heap.size = w.heap.size + 1 + 1 from by simp] at this
    exact this.below ((Below.refl _ _).alloc (Nat.le_refl _) _)
  obtain ⟨W0, hW0⟩ : ∃ z, z = ((w.alloc (Obj.cells #[.int .i64 K, .int .i64 N, .string S, .slice a1 n1 c1, .slice a2 n2 c2] 30)).alloc (Obj.cells #[.int .i64 0, .int .i64 0, .string ⟨#[]⟩, .slice none 0 0, .slice none 0 0] 30)) := ⟨_, rfl⟩
  have hb0 : Below w.heap.size w W0 := by
    rw [hW0]
    exact ((Below.refl _ _).alloc (Nat.le_refl _) _).alloc (by simp) _
  have hs0 : W0.heap.size = w.heap.size + 1 + 1 := by rw [hW0]; simp
  have hbZ : Below W0.heap.size W0 Z := by
    rw [hZ, hW0]
    exact ((Below.refl _ _).alloc (Nat.le_refl _) _).alloc (by simp) _
  have HC0 : Hid (CyS true W0 Z (w.heap.size + 1 + 1 + 1) (w.heap.size + 1 + 1) (.slice none 0 0) [] []) := CyS.start true BC PM (by omega) (by omega) hbZ
  have HCA : Hid (Calls Try.prog 17 #[.pointer (some ⟨w.heap.size + 1 + 1 + 1, 0, none⟩), .agg #[.int .i64 K, .int .i64 N, .string S, .slice a1 n1 c1, .slice a2 n2 c2]] Z (TreP true W0 (w.heap.size + 1 + 1 + 1) (w.heap.size + 1 + 1) n t (.slice none 0 0) [] [] Z))   := ctree_any true W0 _ _ n t K N S a1 a2 n1 c1 n2 c2 Z _ [] [] (ht'.cel (Cel.ofBelow hb0)) hsm (by simp) HC0.out
  have HDP : Hid (DpN n t) := hdp
  have HS0 : Hid (W0.heap.size = w.heap.size + 1 + 1 ∧ Below w.heap.size w W0) := ⟨hs0, hb0⟩
  have HCN : Hid (cntN n t ≤ 1000) := hcn
  have HBR : Hid (Blk Z (w.heap.size + 1) #[.int .i64 0, .int .i64 0, .string ⟨#[]⟩, .slice none 0 0, .slice none 0 0] 30) := BR
  clear ht ht' hsm hcn hdp hmn hK hN hS hn1 hn2 BC PM BR HC0 hb hW0 hb0 hs0 hbZ
  have hmm := @run_makeMap Try.prog
  go_enter Try.func8, Try.ntmps8
  go_wp2_with fail
  clear hmm
  rw [← hZ]
  clear hZ
  refine Calls.mono HCA.out ?_
  rintro e w1 ⟨r, lv1, R1, M1, rfl, ho1, hc1, -, h12, h13, -, hct1, -⟩
  obtain ⟨z1, l1, e1, z2, l2, e2, hr⟩ := hc1.shape ho1
  rw [HKS.out.1, HKS.out.2.1, HKS.out.2.2] at hr
  subst hr
  have al1 : Below w1.heap.size w1 (w1.alloc (Obj.cells #[.int .i64 K, .int .i64 N, .string S, .slice z1 l1 e1, .slice z2 l2 e2] 30)) := (Below.refl _ _).alloc (Nat.le_refl _) _
  have B4 : Blk (w1.alloc (Obj.cells #[.int .i64 K, .int .i64 N, .string S, .slice z1 l1 e1, .slice z2 l2 e2] 30)) w1.heap.size #[.int .i64 K, .int .i64 N, .string S, .slice z1 l1 e1, .slice z2 l2 e2] 30 := Blk.new w1 _ _
  have BR1 := (hct1.celR _ _ HBR.out).below al1
  have hc2 := hc1.mk_below al1
  rw [List.nil_append] at hc2
  have HFI : Hid (Calls Try.prog 18 #[.pointer (some ⟨w.heap.size + 1 + 1 + 1, 0, none⟩)] (w1.alloc (Obj.cells #[.int .i64 K, .int .i64 N, .string S, .slice z1 l1 e1, .slice z2 l2 e2] 30)) fun e w' => e = .returned (.tuple #[]) ∧ ∃ lv' R', CyS true W0 w' (w.heap.size + 1 + 1 + 1) (w.heap.size + 1 + 1) lv' R' [] ∧ (∀ q ∈ R1, q ∈ R') ∧ (∀ r ∈ R', Fil true W0 w' R' r r.u.es.length) ∧ CelR (w1.alloc (Obj.cells #[.int .i64 K, .int .i64 N, .string S, .slice z1 l1 e1, .slice z2 l2 e2] 30)) w') := cfill_any true W0 _ _ _ lv1 R1 M1 hc2 (fun q hq => by
    rcases h12 q hq with h | h | h
    · cases h
    · exact .inl h
    · obtain ⟨rw0, q1, q2, q3, q4⟩ := (hc2.recs q hq).room
      exact .inr ⟨rw0, q1, q2, q3, fun k x hk hx => by rw [h] at hx; simp at hx⟩) (by have := HCN.out; omega)
  have HOO : Hid (OutOf true R1 [.int .i64 K, .int .i64 N, .string S, .slice z1 l1 e1, .slice z2 l2 e2] t) := ho1
  clear hc1 hc2 ho1 h12 h13 hct1 HCA HBR al1
  go_wp2_with fail
  refine Calls.mono HFI.out ?_
  rintro e w2 ⟨rfl, lv2, R2, hc2, h21, h22, hcr⟩
  have B42 := hcr _ _ B4
  have BR2 := hcr _ _ BR1
  have HRR : Hid ((∀ r ∈ R2, RecOk true W0 w2 r ∧ Fil true W0 w2 R2 r r.u.es.length) ∧ OutOf true R2 [.int .i64 K, .int .i64 N, .string S, .slice z1 l1 e1, .slice z2 l2 e2] t) := ⟨recs_fil hc2 h22, HOO.out.mono h21⟩
  have hbw2 : Below w.heap.size w w2 := HS0.out.2.trans (hc2.below.mono HS0.out.2.size)
  clear hc2 h21 h22 hcr B4 BR1 HFI HOO
  obtain ⟨b4, hb4⟩ : ∃ z, w1.heap.size = z := ⟨_, rfl⟩
  rw [hb4] at B42
  simp only [hb4]
  clear hb4
  obtain ⟨s, hs⟩ : ∃ z, w.heap.size + 1 = z := ⟨_, rfl⟩
  have HSZ : Hid (w.heap.size + 1 = s) := hs
  rw [hs] at BR2
  simp only [hs]
  clear hs
  have c0 := (B42.cell 0).trans rfl
  have c1' := (B42.cell 1).trans rfl
  have c2' := (B42.cell 2).trans rfl
  have c3 := (B42.cell 3).trans rfl
  have c4 := (B42.cell 4).trans rfl
  have r0 := (BR2.cell 0).trans rfl
  have r1 := (BR2.cell 1).trans rfl
  have r2 := (BR2.cell 2).trans rfl
  have r3 := (BR2.cell 3).trans rfl
  have r4 := (BR2.cell 4).trans rfl
  have z0 := BR2.froz 0
  have y1 := BR2.froz 1
  have y2 := BR2.froz 2
  have z3 := BR2.froz 3
  have z4 := BR2.froz 4
  have hlt := BR2.lt
  have HFN : Hid (∃ r, Ending.returned (.agg #[.int .i64 K, .int .i64 N, .string S, .slice z1 l1 e1, .slice z2 l2 e2]) = .returned r ∧ TrW n (((((w2.setCell ⟨s, 0, none⟩ (.int .i64 K)).setCell ⟨s, 1, none⟩ (.int .i64 N)).setCell ⟨s, 2, none⟩ (.string S)).setCell ⟨s, 3, none⟩ (.slice z1 l1 e1)).setCell ⟨s, 4, none⟩ (.slice z2 l2 e2)) r (cutT true n t) ∧ Below w.heap.size w (((((w2.setCell ⟨s, 0, none⟩ (.int .i64 K)).setCell ⟨s, 1, none⟩ (.int .i64 N)).setCell ⟨s, 2, none⟩ (.string S)).setCell ⟨s, 3, none⟩ (.slice z1 l1 e1)).setCell ⟨s, 4, none⟩ (.slice z2 l2 e2))) := (by
    have kp := Kp.set5 w2 s (.int .i64 K) (.int .i64 N) (.string S) (.slice z1 l1 e1) (.slice z2 l2 e2)
    have hg : s < W0.heap.size := by have h1 := HSZ.out; have h2 := HS0.out.1; omega
    refine ⟨_, rfl, ⟨_, rfl, out_read (W0 := W0) (fun r hr => ⟨(HRR.out.1 r hr).1.low kp hg, (HRR.out.1 r hr).2.low kp hg⟩) HRR.out.2 HDP.out⟩, below_set5 hbw2 (by have := HSZ.out; omega) _ _ _ _ _⟩)
  clear HRR hbw2 B42 BR2
  go_wp2_with fail
  refine bodyPost_ret (results_cell rfl _ _ _ ⟨s, 0, none⟩ (.agg #[.int .i64 K, .int .i64 N, .string S, .slice z1 l1 e1, .slice z2 l2 e2]) (by go_simp) (by go_simp)) rfl HFN.out
set_option maxHeartbeats 8000000 in
/-- copies answers the trees as they are, in memory of their own. -/
theorem copies_any {n : Nat} {ts : List Tr} {v : Value} {w : World} (ht : TrsR n w v ts) (hsm : ∀ x ∈ ts, SmN n x) (hl : ts.length ≤ 70) (hcn : (ts.map (cntN n)).sum ≤ 2000) :
    Calls Try.prog 26 #[v] w fun e w' => ∃ r, e = .returned r ∧ TrsR n w' r ts ∧ Below w.heap.size w w' := by
  have hdp : ∀ x ∈ ts, DpN n x := fun x hx => by
    obtain ⟨r, h⟩ := RowP.all ht x hx
    exact h.dp
  obtain ⟨ta, tc, hv, -⟩ := RowP.open ht
  obtain ⟨N, hN⟩ : ∃ z, ts.length = z := ⟨_, rfl⟩
  rw [hN] at hv
  have HN : Hid (ts.length = N) := hN
  have hb : Below w.heap.size w ((w.alloc (.map #[] 0)).alloc (Obj.cells #[.bool false, .map (some w.heap.size), .slice none 0 0] 67)) := ((Below.refl _ _).alloc (Nat.le_refl _) _).alloc (by simp) _
  have BC : Blk ((w.alloc (.map #[] 0)).alloc (Obj.cells #[.bool false, .map (some w.heap.size), .slice none 0 0] 67)) (w.heap.size + 1) #[.bool false, .map (some w.heap.size), .slice none 0 0] 67 := by
    have := Blk.new (w.alloc (.map #[] 0)) #[.bool false, .map (some w.heap.size), .slice none 0 0] 67
    rwa [show (w.alloc (.map #[] 0)).heap.size = w.heap.size + 1 from by simp] at this
  have HC0 : Hid (CyS false w ((w.alloc (.map #[] 0)).alloc (Obj.cells #[.bool false, .map (some w.heap.size), .slice none 0 0] 67)) (w.heap.size + 1) w.heap.size (.slice none 0 0) [] []) := CyS.start false BC ((PlMap.made w).below ((Below.refl _ _).alloc (Nat.le_refl _) _)) (by omega) (Nat.le_refl _) hb
  have HCA : Hid (Calls Try.prog 30 #[.pointer (some ⟨w.heap.size + 1, 0, none⟩), v] ((w.alloc (.map #[] 0)).alloc (Obj.cells #[.bool false, .map (some w.heap.size), .slice none 0 0] 67)) (TrsP false w (w.heap.size + 1) w.heap.size n ts (.slice none 0 0) [] [] ((w.alloc (.map #[] 0)).alloc (Obj.cells #[.bool false, .map (some w.heap.size), .slice none 0 0] 67)))) := ctrees_any false w _ _ n ts v _ _ [] [] ht hsm hl (by simp; omega) HC0.out
  have HDP : Hid (∀ x ∈ ts, DpN n x) := hdp
  have HCN : Hid ((ts.map (cntN n)).sum ≤ 2000) := hcn
  subst hv
  clear ht hsm hl hcn hdp hN BC HC0 hb
  have hmm := @run_makeMap Try.prog
  go_enter Try.func26, Try.ntmps26
  go_wp2_with fail
  clear hmm
  refine Calls.mono HCA.out ?_
  rintro e w1 ⟨vt, lv1, R1, M1, rfl, ht1, hc1, -, h12, h13, -, hct1, -⟩
  rw [List.nil_append] at hc1
  obtain ⟨va, vc, hvt⟩ : ∃ va vc, vt = .slice va N vc := by
    obtain ⟨rw0, q1, -⟩ := ht1
    obtain ⟨va, vc, h⟩ := own_form q1
    rw [HN.out] at h
    exact ⟨va, vc, h⟩
  subst hvt
  have HFI : Hid (Calls Try.prog 18 #[.pointer (some ⟨w.heap.size + 1, 0, none⟩)] w1 fun e w' => e = .returned (.tuple #[]) ∧ ∃ lv' R', CyS false w w' (w.heap.size + 1) w.heap.size lv' R' [] ∧ (∀ q ∈ R1, q ∈ R') ∧ (∀ r ∈ R', Fil false w w' R' r r.u.es.length) ∧ CelR w1 w') := cfill_any false w _ _ _ lv1 R1 M1 hc1 (fun q hq => by
    rcases h12 q hq with h | h | h
    · cases h
    · exact .inl h
    · obtain ⟨rw0, q1, q2, q3, q4⟩ := (hc1.recs q hq).room
      exact .inr ⟨rw0, q1, q2, q3, fun k x hk hx => by rw [h] at hx; simp at hx⟩) (by have := HCN.out; omega)
  have HTM : Hid (TrsM false w w1 R1 (.slice va N vc) ts) := ht1
  clear hc1 ht1 h12 h13 hct1 HCA
  go_wp2_with fail
  refine Calls.mono HFI.out ?_
  rintro e w2 ⟨rfl, lv2, R2, hc2, h21, h22, hcr⟩
  have HT2 : Hid (TrsR n w2 (.slice va N vc) ts) := (by
    have h1 := trsM_read (recs_fil hc2 h22) ((HTM.out.celR hcr).mono h21) HDP.out
    have h2 : ts.map (cutT false n) = ts := by
      conv => rhs; rw [← List.map_id ts]
      exact List.map_congr_left fun x _ => cutT_false n x
    rw [h2] at h1
    exact h1 : TrsR n w2 (.slice va N vc) ts)
  have hbw2 : Below w.heap.size w w2 := hc2.below
  clear hc2 h21 h22 hcr HFI HTM
  go_wp2_with fail
  go_ret
  exact ⟨_, rfl, HT2.out, hbw2⟩
end Go.Proofs.Ytfnjbbaphmmjlaa

/- A value without what is not known of it: it fits as well, but for messages that are empty then. -/
namespace Go.Proofs.Ytfnjbbaphmmjlaa
set_option linter.unusedVariables false
set_option linter.unusedSimpArgs false

theorem cutT_twice : ∀ (n : Nat) (t : Tr), cutT true n (cutT true n t) = cutT true n t
  | 0, _ => rfl
  | n + 1, t => by
    have h : ((t.es.map fun e => (e.1, e.2.map (cutT true n))).map fun e => (e.1, e.2.map (cutT true n))) = t.es.map fun e => (e.1, e.2.map (cutT true n)) := by
      rw [List.map_map]
      refine List.map_congr_left fun e _ => ?_
      simp only [Function.comp, List.map_map]
      congr 1
      exact List.map_congr_left fun x _ => cutT_twice n x
    simp only [cutT, h, if_true]
theorem dpN_cut : ∀ (n : Nat) (t : Tr), dpN n (cutT true n t) = dpN n t
  | 0, _ => rfl
  | n + 1, t => by
    simp only [dpN, cutT, subs_map, List.map_map]
    rw [List.map_congr_left (g := dpN n)]
    intro x _
    exact dpN_cut n x
theorem entsB_cut (n : Nat) : ∀ (es : List (Int × List Tr)) (last : Int), entsB last (es.map fun e => (e.1, e.2.map (cutT true n))) = entsB last es
  | [], _ => rfl
  | e :: l, last => by
    have h1 : ((e.2.map (cutT true n)).head?.map Tr.kind).getD 0 = (e.2.head?.map Tr.kind).getD 0 := by
      cases e.2 with
      | nil => rfl
      | cons a m => simp [cutT_kind]
    simp only [List.map_cons, entsB, List.length_map, entsB_cut n l, List.all_map, h1, Function.comp_def, cutT_kind]
theorem okN_cut : ∀ (n : Nat) (t : Tr), okN n t = true → okN n (cutT true n t) = true
  | 0, _, _ => rfl
  | n + 1, t, h => by
    simp only [okN, Bool.and_eq_true] at h ⊢
    obtain ⟨h1, h2⟩ := h
    refine ⟨?_, ?_⟩
    · unfold lvB at h1 ⊢
      simp only [cutT]
      by_cases k1 : t.kind = 1
      · simp only [k1, if_true] at h1 ⊢
        simp at h1 ⊢
        exact h1.1
      · by_cases k2 : t.kind = 2
        · simp only [k2, if_true, if_neg (show ¬ (2 : Int) = 1 by decide)] at h1 ⊢
          simp at h1 ⊢
          exact h1.1
        · by_cases k3 : t.kind = 3
          · simp only [k3, if_true, if_neg (show ¬ (3 : Int) = 1 by decide), if_neg (show ¬ (3 : Int) = 2 by decide), Bool.and_eq_true] at h1 ⊢
            exact ⟨⟨h1.1.1, by rw [entsB_cut]; exact h1.1.2⟩, by simp [restB, risesB]⟩
          · simp only [if_neg k1, if_neg k2, if_neg k3] at h1
            exact absurd h1 (by decide)
    · have hk : (cutT true (n + 1) t).kind = t.kind := rfl
      rw [hk]
      by_cases k3 : t.kind = 3
      · rw [if_pos k3] at h2 ⊢
        have hs : subs (cutT true (n + 1) t).es = (subs t.es).map (cutT true n) := subs_map _ _
        rw [hs, List.all_map, List.all_eq_true]
        rw [List.all_eq_true] at h2
        exact fun x hx => okN_cut n x (h2 x hx)
      · rw [if_neg k3]
theorem chkN_cut {n : Nat} {t : Tr} (h : chkN n t = true) : chkN n (cutT true n t) = true := by
  simp only [chkN, Bool.and_eq_true] at h ⊢
  exact ⟨by rw [dpN_cut]; exact h.1, okN_cut n t h.2⟩
theorem errF_two : ∀ {l : List Int}, (∀ x ∈ l, x = 0 ∨ x = 12) → errF l = 0 ∨ errF l = 12
  | [], _ => .inl rfl
  | a :: l, h => by
    simp only [errF]
    split
    · exact errF_two fun x hx => h x (List.mem_cons_of_mem _ hx)
    · exact h a (List.mem_cons_self ..)
theorem errF_zero : ∀ {l : List Int}, errF l = 0 → ∀ x ∈ l, x = 0
  | [], _, x, hx => by cases hx
  | a :: l, h, x, hx => by
    simp only [errF] at h
    split at h
    · rcases List.mem_cons.1 hx with rfl | hx
      · assumption
      · exact errF_zero h x hx
    · exact absurd h (by assumption)
theorem msgV_cut : ∀ (n : Nat) (s : ScS) (nm : ByteArray) (t : Tr), msgV n s nm t = 0 → msgV n s nm (cutT true n t) = 0 ∨ msgV n s nm (cutT true n t) = 12
  | 0, _, _, _, _ => .inl rfl
  | n + 1, s, nm, t, h => by
    have h0 : errF (t.es.map (entV (msgV n s) ((msgOf s nm).getD zMs).fields)) = 0 := by
      by_cases hz : errF (t.es.map (entV (msgV n s) ((msgOf s nm).getD zMs).fields)) = 0
      · exact hz
      · rw [msgV, if_pos hz] at h
        exact h
    have hall := errF_zero h0
    have key : ∀ y ∈ ((t.es.map fun e => (e.1, e.2.map (cutT true n))).map (entV (msgV n s) ((msgOf s nm).getD zMs).fields)), y = 0 ∨ y = 12 := by
      intro y hy
      rw [List.map_map] at hy
      obtain ⟨e, he, rfl⟩ := List.mem_map.1 hy
      have hz := hall _ (List.mem_map.2 ⟨e, he, rfl⟩)
      simp only [Function.comp]
      unfold entV at hz ⊢
      simp only
      cases hf : fldOf ((msgOf s nm).getD zMs).fields e.1 with
      | none => rw [hf] at hz; simp at hz
      | some f =>
        rw [hf] at hz
        simp only [List.length_map] at hz ⊢
        by_cases hl : f.label ≠ 3 ∧ 1 < e.2.length
        · rw [if_pos hl] at hz; exact absurd hz (by decide)
        · rw [if_neg hl] at hz ⊢
          refine errF_two fun z hz' => ?_
          rw [List.map_map] at hz'
          obtain ⟨x, hx, rfl⟩ := List.mem_map.1 hz'
          have hone := errF_zero hz _ (List.mem_map.2 ⟨x, hx, rfl⟩)
          simp only [Function.comp]
          have htr : treeV (msgV n s) f.kind f.tname x = 0 := by
            by_cases ht : treeV (msgV n s) f.kind f.tname x = 0
            · exact ht
            · rw [oneV, if_pos ht] at hone; exact hone
          have hcn : (cutT true n x).n = x.n := by cases n <;> rfl
          have hcs : (cutT true n x).s = x.s := by cases n <;> rfl
          have htc : treeV (msgV n s) f.kind f.tname (cutT true n x) = 0 ∨ treeV (msgV n s) f.kind f.tname (cutT true n x) = 12 := by
            unfold treeV at htr ⊢
            rw [cutT_kind, hcn, hcs]
            by_cases c1 : x.kind ≠ kindT f.kind
            · rw [if_pos c1] at htr; exact absurd htr (by decide)
            · rw [if_neg c1] at htr ⊢
              by_cases c2 : x.kind = 1 ∧ nmrB f.kind x.n = false
              · rw [if_pos c2] at htr; exact absurd htr (by decide)
              · rw [if_neg c2] at htr ⊢
                by_cases c3 : f.kind = 4 ∧ validB x.s.data.toList = false
                · rw [if_pos c3] at htr; exact absurd htr (by decide)
                · rw [if_neg c3] at htr ⊢
                  by_cases c4 : x.kind = 3
                  · rw [if_pos c4] at htr ⊢
                    exact msgV_cut n s f.tname x htr
                  · rw [if_neg c4]; exact .inl rfl
          unfold oneV
          split
          · exact htc
          · split
            · exact .inr rfl
            · exact .inl rfl
    have h2 := errF_two key
    have hes : (cutT true (n + 1) t).es = t.es.map fun e => (e.1, e.2.map (cutT true n)) := rfl
    have hrs : (cutT true (n + 1) t).rest = [] := rfl
    rw [msgV, hes, hrs]
    by_cases hz : errF ((t.es.map fun e => (e.1, e.2.map (cutT true n))).map (entV (msgV n s) ((msgOf s nm).getD zMs).fields)) = 0
    · rw [if_neg (fun hne => hne hz)]
      exact .inl (by simp)
    · rw [if_pos hz]
      exact h2
theorem validA_cut {n : Nat} {s : ScS} {nm : ByteArray} {t : Tr} (h : validA n s nm t = 0) : validA n s nm (cutT true n t) = 0 ∨ validA n s nm (cutT true n t) = 12 := by
  unfold validA at h ⊢
  by_cases c1 : checkA s ≠ 0
  · rw [if_pos c1] at h; exact absurd h (by decide)
  · rw [if_neg c1] at h ⊢
    by_cases c2 : (msgOf s nm).isSome = false
    · rw [if_pos c2] at h; exact absurd h (by decide)
    · rw [if_neg c2] at h ⊢
      by_cases c3 : chkN n t = false ∨ t.kind ≠ 3
      · rw [if_pos c3] at h; exact absurd h (by decide)
      · rw [if_neg c3] at h
        have c4 : chkN n t = true := by
          cases hc : chkN n t
          · exact absurd (.inl hc) c3
          · rfl
        have c5 : t.kind = 3 := by
          by_cases hk : t.kind = 3
          · exact hk
          · exact absurd (.inr hk) c3
        rw [if_neg (by rw [chkN_cut c4, cutT_kind, c5]; simp)]
        exact msgV_cut n s nm t h
end Go.Proofs.Ytfnjbbaphmmjlaa

/- Whether two fields are the same, as a statement of the program asks it. -/
namespace Go.Proofs.Ytfnjbbaphmmjlaa
open Go.ChangeShapes Go.WideShapes Go.ChangeAt Go.RowKit
set_option linter.unusedVariables false
set_option linter.unusedSimpArgs false
set_option maxRecDepth 20000

theorem toList_ext {a b : ByteArray} (h : a.toList = b.toList) : a = b := by
  rw [ByteArray.toList_eq, ByteArray.toList_eq] at h
  obtain ⟨⟨l⟩⟩ := a
  obtain ⟨⟨m⟩⟩ := b
  simp at h
  rw [h]
theorem fd_neq (t1 t2 t3 s1 s2 s3 : Int) (t4 s4 : ByteArray) (h : Fd.mk t1 t2 t3 t4 ≠ Fd.mk s1 s2 s3 s4) (W : World) :
    (binOp .neq 70 (.agg #[.int .i64 t1, .int .i64 t2, .int .i64 t3, .string t4]) (.agg #[.int .i64 s1, .int .i64 s2, .int .i64 s3, .string s4])).run Try.prog W = .ok (.bool true) W := by
  by_cases h1 : t1 = s1
  · by_cases h2 : t2 = s2
    · by_cases h3 : t3 = s3
      · by_cases h4 : t4.toList = s4.toList
        · exact absurd (by rw [h1, h2, h3, toList_ext h4]) h
        · subst h1 h2 h3
          simp [go_sem, h4]
      · subst h1 h2
        simp [go_sem, h3]
    · subst h1
      simp [go_sem, h2]
  · simp [go_sem, h1]
theorem fd_eql (t1 t2 t3 s1 s2 s3 : Int) (t4 s4 : ByteArray) (h : Fd.mk t1 t2 t3 t4 ≠ Fd.mk s1 s2 s3 s4) (W : World) :
    (binOp .eql 70 (.agg #[.int .i64 t1, .int .i64 t2, .int .i64 t3, .string t4]) (.agg #[.int .i64 s1, .int .i64 s2, .int .i64 s3, .string s4])).run Try.prog W = .ok (.bool false) W := by
  by_cases h1 : t1 = s1
  · by_cases h2 : t2 = s2
    · by_cases h3 : t3 = s3
      · by_cases h4 : t4.toList = s4.toList
        · exact absurd (by rw [h1, h2, h3, toList_ext h4]) h
        · subst h1 h2 h3
          simp [go_sem, h4]
      · subst h1 h2
        simp [go_sem, h3]
    · subst h1
      simp [go_sem, h2]
  · simp [go_sem, h1]
end Go.Proofs.Ytfnjbbaphmmjlaa
