/- EncodeRest answers true at every tree. -/
import Derived.Test.YtkmdaopmmfdpgaaPkH
import Derived.Test.YtkmdaopmmfdpgaaPkJ
import Derived.Test.YtkmdaopmmfdpgaaPkG
import Derived.Test.YtkmdaopmmfdpgaaPkK
import Derived.Test.YtkmdaopmmfdpgaaPkC
namespace Go.Proofs.Ytkmdaopmmfdpgaa
open Go.ChangeShapes Go.WideShapes Go.ChangeAt Go.RowKit
set_option linter.unusedVariables false
set_option linter.unusedSimpArgs false
set_option maxRecDepth 20000

theorem flE_tag {B : Tr → List Nat × Nat} {tag : Int} {x : Tr} (h : (flE B tag x).2 = 0) : (flE B tag x).1.tag = tag := by
  unfold flE at h ⊢
  split
  · rfl
  · rename_i h1
    rw [if_neg h1] at h
    split
    · rename_i h2
      rw [if_pos h2] at h
      split
      · rename_i h3; rw [if_pos h3] at h; exact absurd h (by decide)
      · rfl
    · rename_i h2
      rw [if_neg h2] at h
      split
      · rename_i h3; rw [if_pos h3] at h; exact absurd h h3
      · rfl
/-- What is left of a message's fields without its entries' tags: the rest. -/
theorem rest_back {n : Nat} {t : Tr} (h : chkN n t = true) (hk : t.kind = 3) (hn : n ≠ 0) (h0 : errE (fsE (bytE (n - 1)) t.es) = 0) : (sortF (fldsE n t)).filter (fun f => !hasB t.es f.tag) = t.rest := by
  have hr : restB t.rest t.es = true := by
    cases n with
    | zero => exact absurd rfl hn
    | succ n =>
      simp only [chkN, okN, Bool.and_eq_true] at h
      have h1 := h.2.1
      simp only [lvB, hk, if_neg (show ¬ (3 : Int) = 1 by decide), if_neg (show ¬ (3 : Int) = 2 by decide), if_pos, Bool.and_eq_true] at h1
      exact h1.2
  simp only [restB, Bool.and_eq_true, List.all_eq_true] at hr
  obtain ⟨hr1, hr2⟩ := hr
  obtain ⟨s1, _, _, s4⟩ := sortF_all _ (fldsE n t) (Nat.le_refl _)
  refine rises_uniq _ _ (s1.filter _) ((rises_iff _).1 hr2) fun tag => ?_
  rw [List.filter_filter]
  by_cases hh : hasB t.es tag = true
  · rw [List.filter_eq_nil_iff.2, List.filter_eq_nil_iff.2]
    · intro x hx he
      have e1 : x.tag = tag := by simpa using he
      have h2 := (hr1 x hx).2
      rw [e1, hh] at h2
      exact absurd h2 (by decide)
    · intro x hx he
      simp only [Bool.and_eq_true, beq_iff_eq] at he
      obtain ⟨e1, e2⟩ := he
      rw [e1, hh] at e2
      exact absurd e2 (by decide)
  · have hf : hasB t.es tag = false := by simpa using hh
    have e1 : (sortF (fldsE n t)).filter (fun a => (a.tag == tag) && !hasB t.es a.tag) = (sortF (fldsE n t)).filter (fun a => a.tag == tag) := by
      refine List.filter_congr fun x _ => ?_
      by_cases hx : x.tag = tag
      · rw [hx, hf]; simp
      · simp [hx]
    rw [e1, s4]
    unfold fldsE
    rw [List.filter_append, List.filter_eq_nil_iff.2, List.nil_append]
    intro x hx he
    have e2 : x.tag = tag := by simpa using he
    obtain ⟨p, hp, rfl⟩ := List.mem_map.1 hx
    have hp0 := errE_all h0 p hp
    simp only [fsE, List.mem_flatMap, enE, List.mem_map] at hp
    obtain ⟨e, hem, y, _, rfl⟩ := hp
    rw [flE_tag hp0] at e2
    have : hasB t.es tag = true := by unfold hasB; rw [List.any_eq_true]; exact ⟨e, hem, by simpa using e2⟩
    rw [hf] at this
    exact absurd this (by decide)
theorem filt_has {es : List (Int × List Tr)} {rs : List Fd} {i : Nat} {f : Fd} {A : Bool} (hx : rs[i]? = some f) (hA : hasB es f.tag = A) : (rs.take (i + 1)).filter (fun f => !hasB es f.tag) = (rs.take i).filter (fun f => !hasB es f.tag) ++ if A = true then [] else [f] := by
  obtain ⟨hl, hgx⟩ := List.getElem?_eq_some_iff.1 hx
  rw [List.take_succ_eq_append_getElem hl, List.filter_append, hgx]
  congr 1
  subst hA
  cases h : hasB es f.tag <;> simp [h]
set_option maxHeartbeats 1000000 in
theorem encodeRest_walk (v : Value) (n : Nat) (t : Tr) (w : World) (h : TrIn n w v t) :
    Calls Try.prog 8 #[v] w fun e w' => e = .returned (.bool true) ∧ Below w.heap.size w w' := by
  have HS : Hid (∀ W, Below w.heap.size w W → Calls Try.prog 9 #[v] W fun e w' => SmallP t v W e ∧ Below W.heap.size W w') := fun W hW => small_any n t v W (h.below hW)
  obtain ⟨m, ve, vr, -, rfl, -, -, -, -, ra, ea⟩ := h.open
  obtain ⟨pe, ce, rfl, e1, e2, -⟩ := ea.open
  obtain ⟨pr, cr, rfl, e3, e4, -⟩ := rest_holds ra
  unfold maxLen at e2 e4
  have HEA : Hid (EnsIn m w (.slice pe t.es.length ce) t.es) := ea
  have HRA : Hid (RowG w (.slice pr t.rest.length cr) 4 (fdRows t.rest)) := ra
  clear ea ra h
  obtain ⟨Ke, hKe⟩ : ∃ z, t.es.length = z := ⟨_, rfl⟩
  obtain ⟨Kr, hKr⟩ : ∃ z, t.rest.length = z := ⟨_, rfl⟩
  obtain ⟨K, hK⟩ : ∃ z, t.kind = z := ⟨_, rfl⟩
  obtain ⟨N, hN⟩ : ∃ z, t.n = z := ⟨_, rfl⟩
  obtain ⟨S, hS⟩ : ∃ z, t.s = z := ⟨_, rfl⟩
  have HK : Hid (t.es.length = Ke ∧ t.rest.length = Kr ∧ t.kind = K) := ⟨hKe, hKr, hK⟩
  rw [hKe] at HEA e1
  rw [hKr] at HRA e3
  rw [hKe, hKr, hK, hN, hS] at HS ⊢
  clear hK hN hS hKe hKr
  have al : Below w.heap.size w (w.alloc (Obj.cells #[.int .i64 K, .int .i64 N, .string S, .slice pe Ke ce, .slice pr Kr cr] 25)) := (Below.refl _ _).alloc (Nat.le_refl _) _
  have HB : Hid (Blk (w.alloc (Obj.cells #[.int .i64 K, .int .i64 N, .string S, .slice pe Ke ce, .slice pr Kr cr] 25)) w.heap.size #[.int .i64 K, .int .i64 N, .string S, .slice pe Ke ce, .slice pr Kr cr] 25) := Blk.new w _ _
  go_enter Try.func8, Try.ntmps8
  go_wp2_with fail
  refine (HS.out _ al).mono ?_
  rintro e w1 ⟨⟨R, rfl, hR⟩, hb1⟩
  have hbw1 : Below w.heap.size w w1 := al.trans (hb1.mono al.size)
  have HB1 : Hid (Blk w1 w.heap.size #[.int .i64 K, .int .i64 N, .string S, .slice pe Ke ce, .slice pr Kr cr] 25) := HB.out.below hb1
  have HRR : Hid (R = true → SmN 14 t ∧ cntN 14 t ≤ 200 ∧ TrIn 14 w1 (.agg #[.int .i64 K, .int .i64 N, .string S, .slice pe Ke ce, .slice pr Kr cr]) t) := fun hr => ⟨(hR hr).1, (hR hr).2.1, (hR hr).2.2.below hb1⟩
  clear hR hb1 al HB HS
  cases R with
  | false =>
    go_wp2_with fail
    refine (eawake_any _).mono ?_
    rintro e w2 ⟨rfl, hw2⟩
    have hbw2 : Below w.heap.size w w2 := hbw1.trans (hw2.mono hbw1.size)
    go_wp2_with fail
    go_ret
    exact ⟨rfl, hbw2⟩
  | true =>
    have q0 := (HB1.out.cell 0).trans rfl
    by_cases hK3 : K = 3
    rotate_left
    · have d3 : (K != 3) = true := by simpa using hK3
      clear hK3
      go_wp2_with fail
      refine (eawake_any _).mono ?_
      rintro e w2 ⟨rfl, hw2⟩
      have hbw2 : Below w.heap.size w w2 := hbw1.trans (hw2.mono hbw1.size)
      go_wp2_with fail
      go_ret
      exact ⟨rfl, hbw2⟩
    · have HK3 : Hid (t.kind = 3) := (by rw [HK.out.2.2, hK3] : t.kind = 3)
      subst hK3
      obtain ⟨s1, s2, s3⟩ := HRR.out rfl
      have HS1 : Hid (SmN 14 t ∧ cntN 14 t ≤ 200) := ⟨s1, s2⟩
      have HC : Hid (Calls Try.prog 11 #[.agg #[.int .i64 3, .int .i64 N, .string S, .slice pe Ke ce, .slice pr Kr cr]] w1 (CopyP 14 t w1)) := copy_any 14 t _ w1 s3 s1
      have HTI : Hid (TrIn 14 w1 (.agg #[.int .i64 3, .int .i64 N, .string S, .slice pe Ke ce, .slice pr Kr cr]) t) := s3
      clear q0
      have q0 := (HB1.out.cell 0).trans rfl
      have q1 := (HB1.out.cell 1).trans rfl
      have q2 := (HB1.out.cell 2).trans rfl
      have q3 := (HB1.out.cell 3).trans rfl
      have q4 := (HB1.out.cell 4).trans rfl
      clear s1 s2 s3 HRR
      go_wp2_with fail
      refine HC.out.mono ?_
      rintro e w2 ⟨xv, bs, rfl, hX, hb2⟩
      have hbw2 : Below w.heap.size w w2 := hbw1.trans (hb2.mono hbw1.size)
      have HB2 : Hid (Blk w2 w.heap.size #[.int .i64 3, .int .i64 N, .string S, .slice pe Ke ce, .slice pr Kr cr] 25) := HB1.out.below hb2
      have HT2 : Hid (TrIn 14 w2 (.agg #[.int .i64 3, .int .i64 N, .string S, .slice pe Ke ce, .slice pr Kr cr]) t) := HTI.out.below hb2
      have HO : Hid (Calls Try.prog 14 #[xv] w2 (RwsP (rawsA 14 t) w2)) := eraws_any hX.trW (by omega) (by have := HS1.out.2; omega) HS1.out.1
      clear hX hb2 HC hbw1 HB1 HTI q0 q1 q2 q3 q4
      go_wp2_with fail
      refine Calls.mono HO.out ?_
      rintro e w3 ⟨r, rfl, hra, hok, hb3⟩
      have hbw3 : Below w.heap.size w w3 := hbw2.trans (hb3.mono hbw2.size)
      have HB3 : Hid (Blk w3 w.heap.size #[.int .i64 3, .int .i64 N, .string S, .slice pe Ke ce, .slice pr Kr cr] 25) := HB2.out.below hb3
      have HT3 : Hid (TrIn 14 w3 (.agg #[.int .i64 3, .int .i64 N, .string S, .slice pe Ke ce, .slice pr Kr cr]) t) := HT2.out.below hb3
      have HRG : Hid (RowG w3 (.slice pr Kr cr) 4 (fdRows t.rest)) := HRA.out.below hbw3
      have HNO : Hid ((rawsA 14 t).2 ≠ 0 → (rawsA 14 t).1 = []) := rawsA_no
      have HIV : Hid ((rawsA 14 t).2 = 0 → (rawsA 14 t).1.filter (fun f => !hasB t.es f.tag) = t.rest) := fun h0 => by
        obtain ⟨g1, g2, g3, g4⟩ := raws_inv h0
        rw [g3]
        exact rest_back g2 g1 (by decide) g4
      clear hb3 hbw2 HB2 HT2 HO HRA
      generalize rawsA 14 t = q at *
      obtain ⟨rs, er⟩ := q
      obtain ⟨la, lc, hl0, l1, l2, l3, l4⟩ := hra
      simp only at hl0 l1 l2 l4 HNO HIV hok ⊢
      subst hl0
      by_cases he : er = 0
      rotate_left
      · have hd : ((er : Int) != 0) = true := by simp; omega
        have hrs := HNO.out he
        subst hrs
        clear he HNO HIV l1 l2 l3 l4 hok
        simp only [List.length_nil]
        go_wp2_with fail
        refine (eawake_any _).mono ?_
        rintro e w4 ⟨rfl, hw4⟩
        have hbw4 : Below w.heap.size w w4 := hbw3.trans (hw4.mono hbw3.size)
        go_wp2_with fail
        go_ret
        exact ⟨rfl, hbw4⟩
      · subst he
        simp only [show ((0 : Nat) : Int) = 0 from rfl]
        have HFL : Hid (rs.filter (fun f => !hasB t.es f.tag) = t.rest) := HIV.out rfl
        have HLA : Hid (rs = [] ∨ ∃ g off, la = some ⟨g, off, none⟩) := own_adrR l1
        have HLH : Hid (HoldsR w3 la rs) := l4
        obtain ⟨RL, hRL⟩ : ∃ z, rs.length = z := ⟨_, rfl⟩
        have HRL : Hid (rs.length = RL) := hRL
        have hrl : RL ≤ 1000000 := by rw [← hRL]; exact hok.1
        rw [hRL] at l2 ⊢
        unfold maxLen at l3
        clear HNO HIV l1 l4 hok hRL
        obtain ⟨b1, hb1'⟩ : ∃ b, w.heap.size = b := ⟨_, rfl⟩
        have HBS : Hid (w.heap.size = b1) := hb1'
        rw [hb1'] at HB3
        simp only [hb1']
        clear hb1'
        have HRH : Hid (∀ (tag : Int) W, Below w3.heap.size w3 W → Calls Try.prog 23 #[.agg #[.int .i64 3, .int .i64 N, .string S, .slice pe Ke ce, .slice pr Kr cr], .int .i64 tag] W fun e w' => e = .returned (.bool (hasB t.es tag)) ∧ Below W.heap.size W w') := fun tag W hW => rhas_any 13 t _ tag W (HT3.out.below hW)
        go_wp2_with fail
        go_loopw [5, 6] (fun ov iv wr => ∃ (out : Value) (i : Nat), out = ov ∧ iv = .int .i64 (i : Int) ∧ i ≤ RL ∧ Hid (wr.ownsRow w3.heap.size 46 4 out ((rs.take i).filter (fun f => !hasB t.es f.tag)).length (rawCells ((rs.take i).filter (fun f => !hasB t.es f.tag)))) ∧ Below w3.heap.size w3 wr) (fun _ iv _ => RL - (intOf iv).toNat)
        case atStart => exact ⟨_, 0, rfl, rfl, by omega, World.ownsRow_nil _ _ _ _, Below.refl _ _⟩
        case round =>
          obtain ⟨out, i, rfl, rfl, hi, HO, hbr⟩ := hrel
          by_cases hlt : i < RL
          · obtain ⟨f, hx⟩ : ∃ r, rs[i]? = some r := ⟨_, List.getElem?_eq_getElem (by rw [HRL.out]; exact hlt)⟩
            obtain ⟨g, off, rfl⟩ : ∃ g off, la = some ⟨g, off, none⟩ := by
              rcases HLA.out with h0 | h0
              · rw [h0] at hx; simp at hx
              · exact h0
            obtain ⟨ft, fk, fn, fb⟩ := f
            have HCE : Hid (∀ W, Below wr.heap.size wr W → W.cell? ⟨g, off + i * 4, none⟩ = some (.int .i64 ft) ∧ W.cell? ⟨g, off + i * 4 + 1, none⟩ = some (.int .i64 fk) ∧ W.cell? ⟨g, off + i * 4 + 2, none⟩ = some (.int .i64 fn) ∧ W.cell? ⟨g, off + i * 4 + 3, none⟩ = some (.string fb)) := fun W hW => (HLH.out.below (hbr.trans (hW.mono hbr.size))).at hx
            have HBX : Hid (Blk wr b1 #[.int .i64 3, .int .i64 N, .string S, .slice pe Ke ce, .slice pr Kr cr] 25) := HB3.out.below hbr
            obtain ⟨A, hA⟩ : ∃ z, hasB t.es ft = z := ⟨_, rfl⟩
            have HFS : Hid ((rs.take (i + 1)).filter (fun f => !hasB t.es f.tag) = (rs.take i).filter (fun f => !hasB t.es f.tag) ++ if A = true then [] else [⟨ft, fk, fn, fb⟩]) := filt_has hx hA
            have HHC : Hid (∀ W, Below wr.heap.size wr W → Calls Try.prog 23 #[.agg #[.int .i64 3, .int .i64 N, .string S, .slice pe Ke ce, .slice pr Kr cr], .int .i64 ft] W fun e w' => e = .returned (.bool A) ∧ Below W.heap.size W w') := fun W hW => by
              have h1 := HRH.out ft W (hbr.trans (hW.mono hbr.size))
              rw [hA] at h1
              exact h1
            have HAL : Hid (((rs.take i).filter (fun f => !hasB t.es f.tag)).length ≤ 1000000) := (by have h1 := List.length_filter_le (fun f => !hasB t.es f.tag) (rs.take i); have h2 : (rs.take i).length ≤ RL := (by rw [List.length_take, HRL.out]; omega); omega : _ ≤ _)
            clear hx hA
            go_wp2_with fail
            have hS : Below wr.heap.size wr wr.drew := (Below.refl _ _).drew
            refine wp_region_held_drew (S := fun w' => Below wr.heap.size wr w') (by kernel_rfl) hS (fun hS => ?_)
            refine rg_take 0 36 (.agg #[.int .i64 3, .int .i64 N, .string S, .slice pe Ke ce, .slice pr Kr cr]) _ rfl rfl (by kernel_rfl) (by kernel_rfl) (by kernel_rfl) (fun _ _ _ h => h) (by rfl) (fun w' hw' => ?_) hS (listed' := #[true, false, false, false, false, false, false, false]) (by kernel_rfl) rfl ?_
            · have f0 := (HBX.out.below hw').cell 0; have f1 := (HBX.out.below hw').cell 1; have f2 := (HBX.out.below hw').cell 2; have f3 := (HBX.out.below hw').cell 3; have f4 := (HBX.out.below hw').cell 4; go_simp
            simp only [List.setIfInBounds_toArray, List.set_cons_zero, List.set_cons_succ]
            refine rg_take 1 37 (.slice (some ⟨g, off, none⟩) RL lc) _ rfl rfl (by kernel_rfl) (by kernel_rfl) (by kernel_rfl) (fun _ _ _ h => h) (by rfl) (fun w' hw' => ?_) hS (listed' := #[true, true, false, false, false, false, false, false]) (by kernel_rfl) rfl ?_
            · go_simp
            simp only [List.setIfInBounds_toArray, List.set_cons_zero, List.set_cons_succ]
            refine rg_take 2 38 (.int .i64 (i : Int)) _ rfl rfl (by kernel_rfl) (by kernel_rfl) (by kernel_rfl) (fun _ _ _ h => h) (by rfl) (fun w' hw' => ?_) hS (listed' := #[true, true, true, false, false, false, false, false]) (by kernel_rfl) rfl ?_
            · go_simp
            simp only [List.setIfInBounds_toArray, List.set_cons_zero, List.set_cons_succ]
            refine rg_take 3 39 (.pointer (some ⟨g, off + i * 4, none⟩)) _ rfl rfl (by kernel_rfl) (by kernel_rfl) (by kernel_rfl) (fun _ _ _ h => h) (by rfl) (fun w' hw' => ?_) hS (listed' := #[true, true, true, true, false, false, false, false]) (by kernel_rfl) rfl ?_
            · go_simp
            simp only [List.setIfInBounds_toArray, List.set_cons_zero, List.set_cons_succ]
            refine rg_take 4 40 (.pointer (some ⟨g, off + i * 4, none⟩)) _ rfl rfl (by kernel_rfl) (by kernel_rfl) (by kernel_rfl) (fun _ _ _ h => h) (by rfl) (fun w' hw' => ?_) hS (listed' := #[true, true, true, true, true, false, false, false]) (by kernel_rfl) rfl ?_
            · go_simp
            simp only [List.setIfInBounds_toArray, List.set_cons_zero, List.set_cons_succ]
            refine rg_take 5 41 (.int .i64 ft) _ rfl rfl (by kernel_rfl) (by kernel_rfl) (by kernel_rfl) (fun _ _ _ h => h) (by rfl) (fun w' hw' => ?_) hS (listed' := #[true, true, true, true, true, true, false, false]) (by kernel_rfl) rfl ?_
            · obtain ⟨f0, f1, f2, f3⟩ := HCE.out _ hw'; go_simp
            simp only [List.setIfInBounds_toArray, List.set_cons_zero, List.set_cons_succ]
            refine rg_call 6 42 23 #[.agg #[.int .i64 3, .int .i64 N, .string S, .slice pe Ke ce, .slice pr Kr cr], .int .i64 ft] rfl rfl (by kernel_rfl) (by rfl) (listed' := #[true, true, true, true, true, true, true, false]) (by kernel_rfl) (fun W => by go_simp) ?_
            refine (HHC.out _ hS).mono ?_
            rintro e W1 ⟨rfl, hbW1⟩
            have hS0 := hS
            have hS : Below wr.heap.size wr W1 := hS0.trans (hbW1.mono hS0.size)
            clear hS0 hbW1
            refine ⟨_, rfl, hS, ?_⟩
            simp only [List.setIfInBounds_toArray, List.set_cons_zero, List.set_cons_succ]
            refine rg_take 7 43 (.bool (!A)) _ rfl rfl (by kernel_rfl) (by kernel_rfl) (by kernel_rfl) (fun _ _ _ h => h) (by rfl) (fun w' hw' => ?_) hS (listed' := #[true, true, true, true, true, true, true, true]) (by kernel_rfl) rfl ?_
            · go_simp
            simp only [List.setIfInBounds_toArray, List.set_cons_zero, List.set_cons_succ]
            refine wpAnyH_done (by kernel_rfl) ?_ _
            have HO1 : Hid (W1.ownsRow w3.heap.size 46 4 out ((rs.take i).filter (fun f => !hasB t.es f.tag)).length (rawCells ((rs.take i).filter (fun f => !hasB t.es f.tag)))) := own_belowH HO hS
            have hbr1 : Below w3.heap.size w3 W1 := hbr.trans (hS.mono hbr.size)
            obtain ⟨f0, f1, f2, f3⟩ := HCE.out W1 hS
            obtain ⟨acc, hacc⟩ : ∃ z, (rs.take i).filter (fun f => !hasB t.es f.tag) = z := ⟨_, rfl⟩
            rw [hacc] at HO1 HFS HAL
            obtain ⟨AL, hAL⟩ : ∃ z, acc.length = z := ⟨_, rfl⟩
            have HAC : Hid (acc.length = AL) := hAL
            have hal : AL ≤ 1000000 := by rw [← hAL]; exact HAL.out
            rw [hAL] at HO1
            clear hS hacc HCE HBX HHC HO hAL HAL
            cases A with
            | true =>
              have HO2 : Hid (W1.ownsRow w3.heap.size 46 4 out ((rs.take (i + 1)).filter (fun f => !hasB t.es f.tag)).length (rawCells ((rs.take (i + 1)).filter (fun f => !hasB t.es f.tag)))) := (by rw [HFS.out, if_pos rfl, List.append_nil, HAC.out]; exact HO1.out : World.ownsRow _ _ _ _ _ _ _)
              clear HO1 HFS
              go_wp2_with fail
              go_roundw
              case rel => exact ⟨_, i + 1, rfl, by go_num, by omega, HO2, hbr1⟩
              case measure => simp [intOf]; omega
            | false =>
              obtain ⟨i0, hif, hz0, hz1, hz2⟩ := info_parts infoRaw
              have hsz : w3.heap.size ≤ W1.heap.size := hbr1.size
              go_wp2_with (first
                | (at_builtin; refine wpList_append_own _ rfl _ _ 23 rfl w3.heap.size 46 i0 _ 4 40 Try.underlying23 hif hz0 hz1 hz2 rfl (by decide) _ _ _ rfl (HO1.out.alloc _) ⟨W1.heap.size, 0, none⟩ 1 1 (Fd.cells ⟨ft, fk, fn, fb⟩) rfl rfl ?c1 ?c2 ?c3 ?c4 ?c5 ?_)
                | fail)
              case c1 =>
                intro j u hj
                match j, hj with
                | 0, hj | 1, hj | 2, hj | 3, hj => simp [Fd.cells] at hj; subst hj; simp [Addr.add]
              case c2 => intro u hu; simp [Fd.cells] at hu; rcases hu with rfl | rfl | rfl | rfl <;> rfl
              case c3 => unfold maxLen; omega
              case c4 => omega
              case c5 => simp; omega
              intro v5 w5 ho5 hg5 _
              have hbr5 : Below w3.heap.size w3 w5 := (hbr1.alloc hsz _).grown hg5 (by simp; omega) (fun k hk => (HO1.out.lt k hk).1)
              have HO2 : Hid (w5.ownsRow w3.heap.size 46 4 v5 ((rs.take (i + 1)).filter (fun f => !hasB t.es f.tag)).length (rawCells ((rs.take (i + 1)).filter (fun f => !hasB t.es f.tag)))) := (by rw [HFS.out, if_neg (by decide), (rawCells_snoc' acc _).1, (rawCells_snoc' acc _).2, HAC.out]; exact ho5 : World.ownsRow _ _ _ _ _ _ _)
              clear HO1 HFS ho5 hg5
              go_wp2_with fail
              go_roundw
              case rel => exact ⟨_, i + 1, rfl, by go_num, by omega, HO2, hbr5⟩
              case measure => simp [intOf]; omega
          · obtain rfl : i = RL := by omega
            have HO2 : Hid (wr.ownsRow w3.heap.size 46 4 out t.rest.length (rawCells t.rest)) := (by
              have h1 := HO.out
              rw [List.take_of_length_le (by rw [HRL.out]; exact Nat.le_refl _), HFL.out] at h1
              exact h1 : World.ownsRow _ _ _ _ _ _ _)
            have HSR : Hid (Calls Try.prog 16 #[out, .slice pr Kr cr] wr fun e w' => e = .returned (.bool true) ∧ Below wr.heap.size wr w') := sameRows_any (own_rest HO2.out) (HRG.out.below hbr) (by have := HS1.out.1.2.1; omega)
            have hbwr : Below w.heap.size w wr := hbw3.trans (hbr.mono hbw3.size)
            have BX := HB3.out.below hbr
            have q4 := (BX.cell 4).trans rfl
            clear HO HO2 BX
            go_wp2_with fail
            refine Calls.mono HSR.out ?_
            rintro e w5 ⟨rfl, hb5⟩
            have hbw5 : Below w.heap.size w w5 := hbwr.trans (hb5.mono hbwr.size)
            clear HSR hb5
            go_wp2_with fail
            refine (eawake_any _).mono ?_
            rintro e w6 ⟨rfl, hw6⟩
            have hbw6 : Below w.heap.size w w6 := hbw5.trans (hw6.mono hbw5.size)
            go_wp2_with fail
            go_ret
            exact ⟨rfl, hbw6⟩
end Go.Proofs.Ytkmdaopmmfdpgaa
