/- ValidFits answers true at every schema, list of numbers and tag. -/
import Derived.Test.YtiiegphbhfiffaaGreatPkL
import Derived.Test.YtiiegphbhfiffaaGreatPkQ
import Derived.Test.YtiiegphbhfiffaaGreatPkV
import Derived.Test.YtiiegphbhfiffaaGreatPkW
namespace Go.Proofs.YtiiegphbhfiffaaGreat
open Go.ChangeShapes Go.WideShapes Go.ChangeAt Go.RowKit
set_option linter.unusedVariables false
set_option linter.unusedSimpArgs false
set_option maxRecDepth 20000

theorem typeB_kind {mn en : List ByteArray} {k : Int} {t : ByteArray} (h : typeB mn en k t = true) : 1 ≤ k ∧ k ≤ 7 := by
  unfold typeB at h
  by_cases h1 : 1 ≤ k ∧ k ≤ 7
  · exact h1
  · exfalso
    revert h
    simp
    intros
    omega
theorem ok_kinds {s : ScS} (h : OkS s) : ∀ m ∈ s.msgs, ∀ f ∈ m.fields, 1 ≤ f.kind ∧ f.kind ≤ 7 := fun m hm f hf => typeB_kind ((h.msgs m hm).2.2.2.2.1 f hf).1.2.2.2
theorem mtr_len3 (ms : List MtS) : ∀ r ∈ mtRows ms, r.length = 3 := fun r hr => by
  simp only [mtRows, List.mem_map] at hr
  obtain ⟨_, _, rfl⟩ := hr
  rfl
theorem schemaC_any {w : World} {v : Value} {s : ScS} (hr : ScIn w v s) (hf : FewL s) : Calls Tryz.prog 10 #[v] w fun e w' => ∃ r, e = .returned r ∧ ScIn w' r s ∧ Below w.heap.size w w' :=
  (schema_any hr hf).mono fun e w' ⟨vm, ve, vt, pm, pe, h1, h2, h3, h4, h5⟩ => ⟨_, h1, ⟨vm, ve, vt, rfl, h2.to_in, h3.to_in, (RowG.own (mtr_len3 _) (by decide) h4).1⟩, h5⟩
theorem own_five {w : World} {B g N : Nat} {e : TypeId} {cs : List Value} (h : Blk w g cs.toArray e) (hN : cs.length = N * 5) (hB : B ≤ g) (hm : N ≤ maxLen) : w.ownsRow B e 5 (.slice (some ⟨g, 0, none⟩) N N) N cs :=
  ⟨hN, .inr ⟨g, N, cs.toArray, rfl, hB, h, Nat.le_refl _, hm, by simp [hN], by rw [← hN]; simp⟩⟩
/-- A copy with an entry more. -/
theorem more_entry {B : Nat} {w : World} {t : Tr} {bs : List Nat} {q : Int} {ve vr : Value} {bz1 bz2 : Nat} {xs : List Nat} (h : TrO 6 B w [.int .i64 t.kind, .int .i64 t.n, .string t.s, ve, vr] t bs) (hap : Apt B w (xs ++ (bs ++ [bz1]))) (h64 : Is64 q) (ht : t = ⟨3, 0, ⟨#[]⟩, t.es, []⟩) (hl : t.es.length ≤ 40)
    (B1 : Blk w bz1 #[.int .i64 1, .int .i64 1, .string ⟨#[]⟩, .slice none 0 0, .slice none 0 0] 30) (B2 : Blk w bz2 #[.int .i64 q, .slice (some ⟨bz1, 0, none⟩) 1 1] 58) :
    ∃ v' W', (Builtin.append_ #[27, 27] 27 #[ve, .slice (some ⟨bz2, 0, none⟩) 1 1]).run Tryz.prog w = .ok v' W' ∧ (∃ a c, v' = .slice a (t.es.length + 1) c) ∧ (∃ bs', TrO 6 B W' [.int .i64 t.kind, .int .i64 t.n, .string t.s, v', vr] (moreE t q) bs' ∧ Apt B W' (xs ++ bs')) ∧ Kp (fun k => k ∈ bs) w W' := by
  obtain ⟨ve', vr', rows, bss, e, h2, h3, h4, h5, h6, h7, rfl⟩ := h
  simp only [List.cons.injEq, and_true] at e
  obtain ⟨-, -, -, rfl, rfl⟩ := e
  have hr0 : t.rest = [] := by rw [ht]
  have hbz : B ≤ bz1 := (hap.2 bz1 (by simp)).1
  have hB0 : B ≤ w.heap.size := by have := (hap.2 bz1 (by simp)); omega
  have hleaf : RowO (TrO 5 B) B 30 5 w (.slice (some ⟨bz1, 0, none⟩) 1 1) [⟨1, 1, ⟨#[]⟩, [], []⟩] [[.int .i64 1, .int .i64 1, .string ⟨#[]⟩, .slice none 0 0, .slice none 0 0]] [[]] :=
    ⟨own_five (cs := [.int .i64 1, .int .i64 1, .string ⟨#[]⟩, .slice none 0 0, .slice none 0 0]) B1 rfl hbz (by decide), rfl, rfl, (fun r hr => by simp at hr; subst hr; rfl), fun i x hx => by
      match i, hx with
      | 0, hx => simp at hx; subst hx; exact ⟨_, _, rfl, rfl, trO_leaf 4 B w 1 1 ⟨#[]⟩ ⟨by decide, by decide⟩ ⟨by decide, by decide⟩ (by decide)⟩
      | i + 1, hx => simp at hx⟩
  have hab : allB (.slice (some ⟨bz1, 0, none⟩) 1 1) [[]] = [bz1] := rfl
  obtain ⟨v', W', r1, r2, r3, r4, r5⟩ := push_row (P := EtO (TrO 5 B) B) (t := 27) (x := (q, [⟨1, 1, ⟨#[]⟩, [], []⟩])) (r := [.int .i64 q, .slice (some ⟨bz1, 0, none⟩) 1 1]) (b := [bz1]) (more := xs ++ blkOf vr) Tryz.underlying27 infoEt rfl (by decide) h7 (hap.of_count fun k => by simp only [List.count_append]; omega) ⟨_, _, _, rfl, h64, hleaf, hab.symm⟩ rfl (fun u hu => by
    simp only [List.mem_cons, List.not_mem_nil, or_false] at hu
    rcases hu with rfl | rfl <;> rfl) (fun _ _ _ _ hp hs => hp.sm hs) B2 (by omega) (by decide) hB0
  have hno : ∀ k ∈ blkOf vr, k ∉ blkOf ve := fun k hk hq => (hap.of_count (cs := blkOf vr ++ allB ve bss) fun y => by simp only [List.count_append]; omega).apart k hk (by simp [allB, hq])
  have hsv : Sm w W' (blkOf vr) := r5.sm fun k hk => ⟨(hap.2 k (by simp [hk])).2, hno k hk⟩
  refine ⟨v', W', r1, r4, ⟨blkOf vr ++ allB v' (bss ++ [[bz1]]), ?_, by rw [← List.append_assoc]; exact r3⟩, r5.weak fun i _ hi => by simp [allB, hi]⟩
  have e1 : t.kind = 3 := by rw [ht]
  have e2 : t.n = 0 := by rw [ht]
  have e3 : t.s = ⟨#[]⟩ := by rw [ht]
  refine ⟨v', vr, rows ++ [[Value.int .i64 q, Value.slice (some ⟨bz1, 0, none⟩) 1 1]], bss ++ [[bz1]], by rw [e1, e2, e3]; rfl, ⟨by show (-9223372036854775808 : Int) ≤ 3; decide, by show (3 : Int) ≤ 9223372036854775807; decide⟩, ⟨by show (-9223372036854775808 : Int) ≤ 0; decide, by show (0 : Int) ≤ 9223372036854775807; decide⟩, Nat.zero_le _, (fun f hf => by simp [moreE] at hf), ?_, r2, rfl⟩
  have h8 := own_sm h6 hsv
  rw [hr0] at h8
  exact h8
/-- A copy with a rest. -/
theorem more_rest {B : Nat} {w : World} {t : Tr} {bs : List Nat} {q : Int} {ve vr : Value} {bz : Nat} (h : TrO 6 B w [.int .i64 t.kind, .int .i64 t.n, .string t.s, ve, vr] t bs) (h64 : Is64 q) (ht : t = ⟨3, 0, ⟨#[]⟩, t.es, []⟩)
    (B1 : Blk w bz #[.int .i64 q, .int .i64 0, .int .i64 1, .string ⟨#[]⟩] 60) : TrW 6 w (.agg #[.int .i64 t.kind, .int .i64 t.n, .string t.s, ve, .slice (some ⟨bz, 0, none⟩) 1 1]) (moreR t q) := by
  obtain ⟨ve', vr', e, h2, h3, h4, h5, h6, h7, h8, h9⟩ := h.trR
  simp only [List.cons.injEq, and_true] at e
  obtain ⟨-, -, -, rfl, rfl⟩ := e
  have e1 : t.kind = 3 := by rw [ht]
  have e2 : t.n = 0 := by rw [ht]
  have e3 : t.s = ⟨#[]⟩ := by rw [ht]
  refine ⟨_, rfl, ve, .slice (some ⟨bz, 0, none⟩) 1 1, by rw [e1, e2, e3]; rfl, ⟨by show (-9223372036854775808 : Int) ≤ 3; decide, by show (3 : Int) ≤ 9223372036854775807; decide⟩, ⟨by show (-9223372036854775808 : Int) ≤ 0; decide, by show (0 : Int) ≤ 9223372036854775807; decide⟩, Nat.zero_le _, (fun f hf => by simp [moreR] at hf; subst hf; exact ⟨h64, ⟨by show (-9223372036854775808 : Int) ≤ 0; decide, by show (0 : Int) ≤ 9223372036854775807; decide⟩, ⟨by show (-9223372036854775808 : Int) ≤ 1; decide, by show (1 : Int) ≤ 9223372036854775807; decide⟩, Nat.zero_le _⟩), ?_, h7, h8, B1.pln⟩
  exact RowG.blk B1 rfl (fdr_len _) rfl (by decide)
theorem FitT.len40 {n : Nat} {s : ScS} {nm : ByteArray} {t : Tr} (h : FitT (n + 1) s nm t) : t.es.length ≤ 40 := h.sm.2.2.1
theorem moreE_sm {n : Nat} {t : Tr} {q : Int} (h : SmN (n + 2) t) (hl : t.es.length ≤ 39) : SmN (n + 2) (moreE t q) := by
  refine ⟨Nat.zero_le _, by simp [moreE], by simp [moreE]; omega, by simp [moreE], fun e he => ?_⟩
  rcases List.mem_append.1 he with he | he
  · exact h.2.2.2.2 e he
  · obtain rfl : e = (q, [⟨1, 1, ⟨#[]⟩, [], []⟩]) := by simpa using he
    exact ⟨by simp, fun x hx => by simp at hx; subst hx; exact leaf_sm n 1 1 ⟨#[]⟩ (by decide)⟩
theorem moreR_sm {n : Nat} {t : Tr} {q : Int} (h : SmN (n + 1) t) : SmN (n + 1) (moreR t q) := ⟨Nat.zero_le _, by simp [moreR], h.2.2.1, (fun f hf => by simp [moreR] at hf; subst hf; exact Nat.zero_le _), h.2.2.2.2⟩
theorem moreE_cnt {n : Nat} {t : Tr} {q : Int} : cntN (n + 2) (moreE t q) ≤ cntN (n + 2) t + 1 := by
  simp [cntN, moreE, subs, List.flatMap_append]
  omega
theorem moreR_cnt {n : Nat} {t : Tr} {q : Int} : cntN (n + 1) (moreR t q) = cntN (n + 1) t := rfl
theorem fit_len {s : ScS} {nm : ByteArray} {t : Tr} (h : FitT 6 s nm t) (hf : ((msgOf s nm).getD zMs).fields.length ≤ 20) : t.es.length ≤ 20 := by
  have hsub : ∀ e ∈ t.es, (fldOf ((msgOf s nm).getD zMs).fields e.1).isSome = true := fun e he => by
    have h1 := h.errs
    obtain ⟨i, hi, e1⟩ := List.getElem_of_mem he
    cases hq : fldOf ((msgOf s nm).getD zMs).fields e.1 with
    | some f => rfl
    | none =>
      exfalso
      have h2 : entV (msgV 5 s) ((msgOf s nm).getD zMs).fields e = 7 := by rw [entV, hq]
      have h3 : ∀ (l : List (Int × List Tr)), e ∈ l → errF (l.map (entV (msgV 5 s) ((msgOf s nm).getD zMs).fields)) ≠ 0 := fun l => by
        induction l with
        | nil => intro h; cases h
        | cons a l ih =>
          intro hm
          rw [List.map_cons, errF]
          by_cases hz : entV (msgV 5 s) ((msgOf s nm).getD zMs).fields a = 0
          · rw [if_pos hz]
            rcases List.mem_cons.1 hm with rfl | hm
            · rw [h2] at hz; cases hz
            · exact ih hm
          · rw [if_neg hz]; exact hz
      exact h3 t.es he h1
  have key : ∀ (es : List (Int × List Tr)) (last : Int) (fs : List FlS), entsB last es = true → (∀ e ∈ es, ∃ f ∈ fs, f.tag = e.1) → es.length ≤ (fs.filter fun f => decide (last < f.tag)).length := by
    intro es
    induction es with
    | nil => intro last fs _ _; simp
    | cons a l ih =>
      intro last fs h0 h1
      simp only [entsB, Bool.and_eq_true, decide_eq_true_eq] at h0
      obtain ⟨f, hf1, hf2⟩ := h1 a (by simp)
      have h2 := ih a.1 fs h0.2 (fun e he => h1 e (List.mem_cons_of_mem _ he))
      have h3 : ∀ (fs : List FlS), f ∈ fs → (fs.filter fun f => decide (a.1 < f.tag)).length + 1 ≤ (fs.filter fun f => decide (last < f.tag)).length := fun fs => by
        have hmono : ∀ (fs : List FlS), (fs.filter fun f => decide (a.1 < f.tag)).length ≤ (fs.filter fun f => decide (last < f.tag)).length := fun fs => by
          induction fs with
          | nil => simp
          | cons g gs ih2 =>
            have := h0.1.1.1.1.1
            by_cases q1 : a.1 < g.tag
            · have q2 : last < g.tag := by omega
              simp [List.filter_cons, q1, q2]; exact ih2
            · by_cases q2 : last < g.tag
              · simp [List.filter_cons, q1, q2]; omega
              · simp [List.filter_cons, q1, q2]; exact ih2
        induction fs with
        | nil => intro h; cases h
        | cons g gs ih2 =>
          intro hm
          have := h0.1.1.1.1.1
          rcases List.mem_cons.1 hm with rfl | hm
          · have q1 : ¬ a.1 < f.tag := by omega
            have q2 : last < f.tag := by omega
            have := hmono gs
            simp [List.filter_cons, q1, q2]; exact this
          · have h4 := ih2 hm
            by_cases q1 : a.1 < g.tag
            · have q2 : last < g.tag := by omega
              simp [List.filter_cons, q1, q2]; omega
            · by_cases q2 : last < g.tag
              · simp [List.filter_cons, q1, q2]; omega
              · simp [List.filter_cons, q1, q2]; omega
      have := h3 fs hf1
      simp only [List.length_cons]
      omega
  have := key t.es 0 ((msgOf s nm).getD zMs).fields h.ents (fun e he => by
    have h1 := hsub e he
    obtain ⟨f, hf⟩ := Option.isSome_iff_exists.1 h1
    exact ⟨f, List.mem_of_find?_eq_some hf, by simpa using List.find?_some hf⟩)
  have := List.length_filter_le (fun f : FlS => decide (0 < f.tag)) ((msgOf s nm).getD zMs).fields
  omega
set_option maxHeartbeats 8000000 in
theorem validFits_walk (v : Value) (s : ScS) (which : Int) (la : Option Addr) (L lc : Nat) (zs : List Int) (tag : Int) (w : World) (hr : ScIn w v s) (hw : ScW s) (g1 : (Lit.int .i64 which).wf = true) (hI : IsRow .i64 w la L lc zs) (hcap : lc * Tryz.prog.bytesOf 3 ≤ 140737488351232) (g3 : (Lit.int .i64 tag).wf = true) :
    Calls Tryz.prog 4 #[v, .int .i64 which, .slice la L lc, .int .i64 tag] w fun e w' => e = .returned (.bool true) ∧ Below w.heap.size w w' := by
  obtain ⟨i1, i2⟩ := bounds_i64 g1
  obtain ⟨t1, t2⟩ := bounds_i64 g3
  obtain ⟨hRl, hLl⟩ := hI.rowG
  have HRL : Hid (RowG w (.slice la L lc) 1 (inRows (zs.take L)) ∧ (zs.take L).length = L) := ⟨hRl, hLl⟩
  have hs' := hr
  obtain ⟨vm, ve, vt, rfl, hms, hen, hmt⟩ := hr
  obtain ⟨ma, mc, rfl, hmc1, hmc2, -⟩ := hms.open
  obtain ⟨ea, ec, rfl, -⟩ := hen.open
  obtain ⟨ta, tn, tc, rfl⟩ := row_slice hmt
  obtain ⟨mn, hmn⟩ : ∃ z, s.msgs.length = z := ⟨_, rfl⟩
  obtain ⟨en, hen'⟩ : ∃ z, s.enums.length = z := ⟨_, rfl⟩
  obtain ⟨sn, hsn⟩ : ∃ z, s.name = z := ⟨_, rfl⟩
  rw [hmn, hen', hsn] at hs' ⊢
  rw [hmn] at hmc1 hms
  unfold maxLen at hmc2
  have HMN : Hid (s.msgs.length = mn) := hmn
  have HSC : Hid (ScIn w (.agg #[.string sn, .slice ma mn mc, .slice ea en ec, .slice ta tn tc]) s) := hs'
  have HMS : Hid (MsIn w (.slice ma mn mc) s.msgs) := hms
  have HSW : Hid (ScW s) := hw
  have al : Below w.heap.size w (w.alloc (Obj.cells #[.string sn, .slice ma mn mc, .slice ea en ec, .slice ta tn tc] 26)) := (Below.refl _ _).alloc (Nat.le_refl _) _
  have BS : Blk (w.alloc (Obj.cells #[.string sn, .slice ma mn mc, .slice ea en ec, .slice ta tn tc] 26)) w.heap.size #[.string sn, .slice ma mn mc, .slice ea en ec, .slice ta tn tc] 26 := Blk.new w _ _
  have HFW : Hid (Calls Tryz.prog 7 #[.agg #[.string sn, .slice ma mn mc, .slice ea en ec, .slice ta tn tc]] (w.alloc (Obj.cells #[.string sn, .slice ma mn mc, .slice ea en ec, .slice ta tn tc] 26)) fun e w' => FewP s e ∧ Below (w.alloc (Obj.cells #[.string sn, .slice ma mn mc, .slice ea en ec, .slice ta tn tc] 26)).heap.size (w.alloc (Obj.cells #[.string sn, .slice ma mn mc, .slice ea en ec, .slice ta tn tc] 26)) w') := few_any (hs'.below al) hw
  clear hRl hLl hI hcap hs' hms hen hmt hmn hen' hsn hw g1
  go_enter Tryz.func4, Tryz.ntmps4
  go_wp2_with fail
  refine HFW.out.mono ?_
  rintro e w2 ⟨hfw, hb2⟩
  have hbw2 : Below w.heap.size w w2 := al.trans (hb2.mono al.size)
  have BS2 := BS.below hb2
  clear hb2 al BS HFW
  rcases hfw with rfl | ⟨rfl, hfs⟩
  · clear BS2
    go_wp2_with fail
    refine (awake_any _).mono ?_
    rintro e wz ⟨rfl, hbz⟩
    have hbwz : Below w.heap.size w wz := hbw2.trans (hbz.mono hbw2.size)
    clear hbz
    go_wp2_with fail
    go_ret
    exact ⟨rfl, hbwz⟩
  have HFS : Hid (FewS s) := hfs
  have HRK : Hid (Calls Tryz.prog 21 #[.agg #[.string sn, .slice ma mn mc, .slice ea en ec, .slice ta tn tc]] w2 fun e w' => e = .returned (.int .i64 (checkA s)) ∧ Below w2.heap.size w2 w') := rcheck_any (HSC.out.below hbw2) hfs
  have s0 := (BS2.cell 0).trans rfl
  have s1 := (BS2.cell 1).trans rfl
  have s2 := (BS2.cell 2).trans rfl
  have s3 := (BS2.cell 3).trans rfl
  clear hfs
  go_wp2_with fail
  refine HRK.out.mono ?_
  rintro e w3 ⟨rfl, hb3⟩
  have hbw3 : Below w.heap.size w w3 := hbw2.trans (hb3.mono hbw2.size)
  have BS3 := BS2.below hb3
  clear hb3 hbw2 BS2 HRK s0 s1 s2 s3
  obtain ⟨A, hA⟩ : ∃ z, checkA s = z := ⟨_, rfl⟩
  have HA : Hid (checkA s = A) := hA
  rw [hA]
  clear hA
  by_cases hA0 : A = 0
  rotate_left
  · have d : (A != 0) = true := by simpa using hA0
    clear hA0 BS3
    go_wp2_with fail
    refine (awake_any _).mono ?_
    rintro e wz ⟨rfl, hbz⟩
    have hbwz : Below w.heap.size w wz := hbw3.trans (hbz.mono hbw3.size)
    clear hbz
    go_wp2_with fail
    go_ret
    exact ⟨rfl, hbwz⟩
  subst hA0
  have HOK : Hid (OkS s) := (checkA_ok s).1 HA.out
  by_cases hL2 : 200 < L
  · have d : decide (200 < (L : Int)) = true := by simp; omega
    clear BS3
    go_wp2_with fail
    refine (awake_any _).mono ?_
    rintro e wz ⟨rfl, hbz⟩
    have hbwz : Below w.heap.size w wz := hbw3.trans (hbz.mono hbw3.size)
    clear hbz
    go_wp2_with fail
    go_ret
    exact ⟨rfl, hbwz⟩
  have d : decide (200 < (L : Int)) = false := by simp; omega
  have hmn1 : 0 < mn := by have := HOK.out.some; rw [HMN.out] at this; exact this
  have hmn2 : mn ≤ 14 := by have := HFS.out.msgs; rw [HMN.out] at this; exact this
  obtain ⟨hp1, hp2⟩ := placeI_in which (mn : Int) (by omega)
  obtain ⟨k, hk⟩ : ∃ z : Nat, placeI which (mn : Int) = (z : Int) := ⟨(placeI which (mn : Int)).toNat, by omega⟩
  have hkm : k < mn := by omega
  have HPL : Hid (∀ W, Calls Tryz.prog 25 #[.int .i64 which, .int .i64 (mn : Int)] W fun e w1 => e = .returned (.int .i64 (k : Int)) ∧ w1 = W) := fun W => by
    have h1 := place_is which (mn : Int) i1 i2 (by omega) (by omega) W
    rw [hk] at h1
    exact h1
  obtain ⟨m, hm⟩ : ∃ x, s.msgs[k]? = some x := ⟨_, List.getElem?_eq_getElem (by rw [HMN.out]; exact hkm)⟩
  have HM : Hid (s.msgs[k]? = some m) := hm
  obtain ⟨g, off, vf, vr, rfl, c0, c1, c2, hrf, hrr⟩ := HMS.out.get hm
  have HRF : Hid (RowG w vf 5 (flRows m.fields)) := hrf
  obtain ⟨fa, fl, fc, rfl⟩ := row_slice hrf
  obtain ⟨ra, rl, rc, rfl⟩ := row_slice hrr
  obtain ⟨mnm, hmnm⟩ : ∃ z, m.name = z := ⟨_, rfl⟩
  have HNM : Hid (m.name = mnm) := hmnm
  rw [hmnm] at c0
  have HCE : Hid (∀ W, Below w3.heap.size w3 W → W.cell? ⟨w.heap.size, 1, none⟩ = some (.slice (some ⟨g, off, none⟩) mn mc) ∧ W.cell? ⟨g, off + k * 3, none⟩ = some (.string mnm) ∧ W.cell? ⟨g, off + k * 3 + 1, none⟩ = some (.slice fa fl fc) ∧ W.cell? ⟨g, off + k * 3 + 2, none⟩ = some (.slice ra rl rc)) := fun W hW => by
    have hb : Below w.heap.size w W := hbw3.trans (hW.mono hbw3.size)
    exact ⟨((BS3.below hW).cell 1).trans rfl, (hb.cell (World.block_lt_of_cell? _ _ c0)).trans c0, (hb.cell (World.block_lt_of_cell? _ _ c1)).trans c1, (hb.cell (World.block_lt_of_cell? _ _ c2)).trans c2⟩
  clear hm hrf hrr hmnm hk c0 c1 c2 hp1 hp2
  go_wp2_with fail
  obtain ⟨b0, hb0⟩ : ∃ z, w.heap.size = z := ⟨_, rfl⟩
  have HBZ : Hid (w.heap.size = b0) := hb0
  rw [hb0] at HCE BS3
  try simp only [hb0]
  clear hb0 d
  refine M_region (T := fun W => W.cell? ⟨b0, 1, none⟩ = some (.slice (some ⟨g, off, none⟩) mn mc) ∧ W.cell? ⟨g, off + k * 3, none⟩ = some (.string mnm) ∧ W.cell? ⟨g, off + k * 3 + 1, none⟩ = some (.slice fa fl fc) ∧ W.cell? ⟨g, off + k * 3 + 2, none⟩ = some (.slice ra rl rc)) (m := 10) (by kernel_rfl) ?_
  have hd : Below w3.heap.size w3 w3.drew := (Below.refl _ _).drew
  have hdz : w3.drew.heap.size = w3.heap.size := rfl
  have hS := HCE.out _ hd
  refine M_take 0 30 (.pointer (some ⟨b0, 1, none⟩)) _ rfl rfl (by kernel_rfl) (by kernel_rfl) (by kernel_rfl) (by kernel_rfl) (by kernel_rfl) (fun _ _ _ h => h) (by rfl) (fun w' hw' => ?_) hS (listed' := #[true, false, false, false, false, false, false, false, false, false, false]) (by kernel_rfl) rfl ?_
  · go_simp
  simp only [List.setIfInBounds_toArray, List.set_cons_zero, List.set_cons_succ]
  refine M_take 1 31 (.slice (some ⟨g, off, none⟩) mn mc) _ rfl rfl (by kernel_rfl) (by kernel_rfl) (by kernel_rfl) (by kernel_rfl) (by kernel_rfl) (fun _ _ _ h => h) (by rfl) (fun w' hw' => ?_) hS (listed' := #[true, true, false, false, false, false, false, false, false, false, false]) (by kernel_rfl) rfl ?_
  · obtain ⟨f0, f1, f2, f3⟩ := hw'; go_simp
  simp only [List.setIfInBounds_toArray, List.set_cons_zero, List.set_cons_succ]
  refine M_take 2 32 (.int .i64 which) _ rfl rfl (by kernel_rfl) (by kernel_rfl) (by kernel_rfl) (by kernel_rfl) (by kernel_rfl) (fun _ _ _ h => h) (by rfl) (fun w' hw' => ?_) hS (listed' := #[true, true, true, false, false, false, false, false, false, false, false]) (by kernel_rfl) rfl ?_
  · go_simp
  simp only [List.setIfInBounds_toArray, List.set_cons_zero, List.set_cons_succ]
  refine M_take 3 33 (.pointer (some ⟨b0, 1, none⟩)) _ rfl rfl (by kernel_rfl) (by kernel_rfl) (by kernel_rfl) (by kernel_rfl) (by kernel_rfl) (fun _ _ _ h => h) (by rfl) (fun w' hw' => ?_) hS (listed' := #[true, true, true, true, false, false, false, false, false, false, false]) (by kernel_rfl) rfl ?_
  · go_simp
  simp only [List.setIfInBounds_toArray, List.set_cons_zero, List.set_cons_succ]
  refine M_take 4 34 (.slice (some ⟨g, off, none⟩) mn mc) _ rfl rfl (by kernel_rfl) (by kernel_rfl) (by kernel_rfl) (by kernel_rfl) (by kernel_rfl) (fun _ _ _ h => h) (by rfl) (fun w' hw' => ?_) hS (listed' := #[true, true, true, true, true, false, false, false, false, false, false]) (by kernel_rfl) rfl ?_
  · obtain ⟨f0, f1, f2, f3⟩ := hw'; go_simp
  simp only [List.setIfInBounds_toArray, List.set_cons_zero, List.set_cons_succ]
  refine M_take 5 35 (.int .i64 (mn : Int)) _ rfl rfl (by kernel_rfl) (by kernel_rfl) (by kernel_rfl) (by kernel_rfl) (by kernel_rfl) (fun _ _ _ h => h) (by rfl) (fun w' hw' => ?_) hS (listed' := #[true, true, true, true, true, true, false, false, false, false, false]) (by kernel_rfl) rfl ?_
  · go_simp
  simp only [List.setIfInBounds_toArray, List.set_cons_zero, List.set_cons_succ]
  have hal4 : Below w3.heap.size w3 (w3.drew.alloc (Obj.cells #[.string ⟨#[]⟩, .slice none 0 0, .slice none 0 0] 50)) := hd.trans (((Below.refl _ _).alloc (Nat.le_refl _) _).mono hd.size)
  refine M_cabl 6 9 7 8 36 9 37 38 25 #[.int .i64 which, .int .i64 (mn : Int)] (.int .i64 (k : Int)) (.pointer (some ⟨g, off + k * 3, none⟩)) (.agg #[.string mnm, .slice fa fl fc, .slice ra rl rc]) (fun W => .pointer (some ⟨W.heap.size, 0, none⟩)) (fun W => W.alloc (Obj.cells #[.string ⟨#[]⟩, .slice none 0 0, .slice none 0 0] 50))
    rfl rfl rfl rfl rfl rfl rfl rfl (by decide) (by decide) (by decide) (by decide) (by decide) (by decide) (by kernel_rfl) (by kernel_rfl) (by kernel_rfl) (by kernel_rfl) (by kernel_rfl) (by kernel_rfl) (by kernel_rfl) (fun _ => rfl) (fun _ => rfl) (fun _ => rfl) (fun _ => rfl) (by kernel_rfl) (by kernel_rfl) (by kernel_rfl) (by kernel_rfl) (by kernel_rfl) (by kernel_rfl) (by kernel_rfl) (fun _ _ _ _ h => h) (fun _ _ _ _ h => h) ?x1 ?x1' ?x2 HPL.out ?xk ?xk' ?xl ?xl' hS (HCE.out _ hal4) ?_
  case x1 => intro W'; go_simp
  case x1' => intro u W'; go_simp
  case x2 => intro a' W'; go_simp
  case xk => intro W'; go_simp
  case xk' => intro u W'; go_simp
  case xl => rintro W' ⟨f0, f1, f2, f3⟩; go_simp
  case xl' => rintro u W' ⟨f0, f1, f2, f3⟩; go_simp
  simp only [List.setIfInBounds_toArray, List.set_cons_zero, List.set_cons_succ]
  have B4 : Blk (w3.drew.alloc (Obj.cells #[.string ⟨#[]⟩, .slice none 0 0, .slice none 0 0] 50)) w3.heap.size #[.string ⟨#[]⟩, .slice none 0 0, .slice none 0 0] 50 := Blk.new w3.drew _ _
  rw [hdz]
  obtain ⟨b4, hb4⟩ : ∃ z, w3.heap.size = z := ⟨_, rfl⟩
  have HB4 : Hid (w3.heap.size = b4) := hb4
  rw [hb4] at B4
  simp only [hb4]
  have h40 := (B4.cell 0).trans rfl
  have h41 := (B4.cell 1).trans rfl
  have h42 := (B4.cell 2).trans rfl
  have z40 := B4.froz 0
  have z41 := B4.froz 1
  have z42 := B4.froz 2
  have HBL4 : Hid (Below w3.heap.size w3 (w3.drew.alloc (Obj.cells #[.string ⟨#[]⟩, .slice none 0 0, .slice none 0 0] 50))) := hal4
  clear hb4 hal4 hd hdz hS
  generalize (w3.drew.alloc (Obj.cells #[.string ⟨#[]⟩, .slice none 0 0, .slice none 0 0] 50)) = W4 at *
  refine M_store 10 ((((W4.setCell ⟨b4, 0, none⟩ (.string mnm)).setCell ⟨b4, 1, none⟩ (.slice fa fl fc)).setCell ⟨b4, 2, none⟩ (.slice ra rl rc))) rfl rfl (by kernel_rfl) (by rfl) (listed' := #[true, true, true, true, true, true, true, true, true, true, true]) (by kernel_rfl) (by go_simp) (by kernel_rfl) ?_
  refine M_done (by kernel_rfl) ?_ _
  have KS : Kp (fun q => q = b4) W4 ((((W4.setCell ⟨b4, 0, none⟩ (.string mnm)).setCell ⟨b4, 1, none⟩ (.slice fa fl fc)).setCell ⟨b4, 2, none⟩ (.slice ra rl rc))) := by
    refine Kp.setCell ?_ (fun _ => by simp) _
    refine Kp.setCell ?_ (fun _ => by simp) _
    refine Kp.setCell ?_ (fun _ => by simp) _
    exact Kp.refl _ _
  have B4a : Blk (W4.setCell ⟨b4, 0, none⟩ (.string mnm)) b4 #[.string mnm, .slice none 0 0, .slice none 0 0] 50 := B4.set 0 _ rfl
  have B4b : Blk ((W4.setCell ⟨b4, 0, none⟩ (.string mnm)).setCell ⟨b4, 1, none⟩ (.slice fa fl fc)) b4 #[.string mnm, .slice fa fl fc, .slice none 0 0] 50 := B4a.set 1 _ rfl
  have B5 : Blk ((((W4.setCell ⟨b4, 0, none⟩ (.string mnm)).setCell ⟨b4, 1, none⟩ (.slice fa fl fc)).setCell ⟨b4, 2, none⟩ (.slice ra rl rc))) b4 #[.string mnm, .slice fa fl fc, .slice ra rl rc] 50 := B4b.set 2 _ rfl
  have hb35 : Below w3.heap.size w3 ((((W4.setCell ⟨b4, 0, none⟩ (.string mnm)).setCell ⟨b4, 1, none⟩ (.slice fa fl fc)).setCell ⟨b4, 2, none⟩ (.slice ra rl rc))) := HBL4.out.trans (KS.toBelow HBL4.out.size (fun q e => by rw [e]; exact Nat.le_of_eq HB4.out))
  have hbw5 : Below w.heap.size w ((((W4.setCell ⟨b4, 0, none⟩ (.string mnm)).setCell ⟨b4, 1, none⟩ (.slice fa fl fc)).setCell ⟨b4, 2, none⟩ (.slice ra rl rc))) := hbw3.trans (hb35.mono hbw3.size)
  have BS5 : Blk ((((W4.setCell ⟨b4, 0, none⟩ (.string mnm)).setCell ⟨b4, 1, none⟩ (.slice fa fl fc)).setCell ⟨b4, 2, none⟩ (.slice ra rl rc))) b0 #[.string sn, .slice (some ⟨g, off, none⟩) mn mc, .slice ea en ec, .slice ta tn tc] 26 := BS3.below hb35
  clear h40 h41 h42 z40 z41 z42 KS B4 B4a B4b hb35 hbw3 BS3 HBL4 HCE HPL
  generalize ((((W4.setCell ⟨b4, 0, none⟩ (.string mnm)).setCell ⟨b4, 1, none⟩ (.slice fa fl fc)).setCell ⟨b4, 2, none⟩ (.slice ra rl rc))) = W5 at *
  have HFT : Hid (Calls Tryz.prog 26 #[.agg #[.string sn, .slice (some ⟨g, off, none⟩) mn mc, .slice ea en ec, .slice ta tn tc], .string mnm, .slice la L lc] W5 (FitA s mnm W5)) := fitAll_any s sn (some ⟨g, off, none⟩) ea ta mn mc en ec tn tc (fun m hm => (HFS.out.few.flds m hm).1) (ok_kinds HOK.out) (zs.take L) la lc L W5 (HSC.out.below hbw5) (HRL.out.1.below hbw5) HRL.out.2 (by omega) mnm
  have s0 := (BS5.cell 0).trans rfl
  have s1 := (BS5.cell 1).trans rfl
  have s2 := (BS5.cell 2).trans rfl
  have s3 := (BS5.cell 3).trans rfl
  have m0 := (B5.cell 0).trans rfl
  go_wp2_with fail
  refine Calls.mono HFT.out ?_
  rintro e w6 ⟨r, t, bs, rfl, hO, hA6, hT, hc6, hb6⟩
  have hbw6 : Below w.heap.size w w6 := hbw5.trans (hb6.mono hbw5.size)
  have BS6 := BS5.below hb6
  have B6 := B5.below hb6
  obtain ⟨x1, x2, x3, x4, x5, x6, hr6⟩ := TrO.open hO
  subst hr6
  have HO6 : Hid (TrO 6 W5.heap.size w6 [.int .i64 t.kind, .int .i64 t.n, .string t.s, .slice x1 x2 x3, .slice x4 x5 x6] t bs ∧ Apt W5.heap.size w6 bs ∧ FitT 6 s mnm t ∧ cntN 6 t ≤ 180) := ⟨hO, hA6, hT, hc6⟩
  clear hO hA6 hT hc6 hb6 hbw5 BS5 B5 HFT s0 s1 s2 s3 m0
  obtain ⟨K, hK⟩ : ∃ z, t.kind = z := ⟨_, rfl⟩
  obtain ⟨N, hN⟩ : ∃ z, t.n = z := ⟨_, rfl⟩
  obtain ⟨S, hS⟩ : ∃ z, t.s = z := ⟨_, rfl⟩
  rw [hK, hN, hS] at HO6
  rw [hK, hN, hS]
  have HKN : Hid (t.kind = K ∧ t.n = N ∧ t.s = S) := ⟨hK, hN, hS⟩
  have HFIT : Hid (FitT 6 s mnm t ∧ cntN 6 t ≤ 180) := HO6.out.2.2
  have hx2 : t.es.length = x2 := by
    have h1 : TrW 6 w6 (.agg #[.int .i64 K, .int .i64 N, .string S, .slice x1 x2 x3, .slice x4 x5 x6]) t := ⟨_, rfl, HO6.out.1.trR⟩
    exact h1.parts.2.2.2.1
  have HX2 : Hid (t.es.length = x2) := hx2
  have al7 : Below w6.heap.size w6 (w6.alloc (Obj.cells #[.int .i64 K, .int .i64 N, .string S, .slice x1 x2 x3, .slice x4 x5 x6] 30)) := (Below.refl _ _).alloc (Nat.le_refl _) _
  have hbw7 : Below w.heap.size w (w6.alloc (Obj.cells #[.int .i64 K, .int .i64 N, .string S, .slice x1 x2 x3, .slice x4 x5 x6] 30)) := hbw6.trans (al7.mono hbw6.size)
  have BT7 : Blk (w6.alloc (Obj.cells #[.int .i64 K, .int .i64 N, .string S, .slice x1 x2 x3, .slice x4 x5 x6] 30)) w6.heap.size #[.int .i64 K, .int .i64 N, .string S, .slice x1 x2 x3, .slice x4 x5 x6] 30 := Blk.new w6 _ _
  have BS7 := BS6.below al7
  have B7 := B6.below al7
  have HTR7 : Hid (TrR 6 (w6.alloc (Obj.cells #[.int .i64 K, .int .i64 N, .string S, .slice x1 x2 x3, .slice x4 x5 x6] 30)) [.int .i64 K, .int .i64 N, .string S, .slice x1 x2 x3, .slice x4 x5 x6] t) := (HO6.out.1.trR).cel (Cel.ofBelow al7)
  clear hK hN hS al7 hbw6 BS6 B6 HO6 hx2
  go_wp2_with fail
  obtain ⟨bt, hbt⟩ : ∃ z, w6.heap.size = z := ⟨_, rfl⟩
  rw [hbt] at BT7
  try simp only [hbt]
  clear hbt
  generalize (w6.alloc (Obj.cells #[.int .i64 K, .int .i64 N, .string S, .slice x1 x2 x3, .slice x4 x5 x6] 30)) = W7 at *
  have hMO : msgOf s mnm = some m := by
    have h1 := ok_findM HOK.out HM.out
    rw [HNM.out] at h1
    exact h1
  have HMO : Hid (msgOf s mnm = some m) := hMO
  have HFL2 : Hid (((msgOf s mnm).getD zMs).fields = m.fields ∧ (msgOf s mnm).isSome = true ∧ m.fields.length ≤ 20) := ⟨by rw [hMO]; rfl, by rw [hMO]; rfl, (HFS.out.few.flds m (List.mem_of_getElem? HM.out)).1⟩
  have HCS : Hid (∀ W, Below W7.heap.size W7 W → Calls Tryz.prog 10 #[.agg #[.string sn, .slice (some ⟨g, off, none⟩) mn mc, .slice ea en ec, .slice ta tn tc]] W fun e w' => ∃ r, e = .returned r ∧ ScIn w' r s ∧ Below W.heap.size W w') := fun W hW => schemaC_any (HSC.out.below (hbw7.trans (hW.mono hbw7.size))) HFS.out.few
  have HCT : Hid (∀ W, Below W7.heap.size W7 W → Calls Tryz.prog 11 #[.agg #[.int .i64 K, .int .i64 N, .string S, .slice x1 x2 x3, .slice x4 x5 x6]] W (CopyP 6 t W)) := fun W hW => copy_any 6 t _ W ⟨_, rfl, (HTR7.out.cel (Cel.ofBelow hW)).trQ.trC⟩ HFIT.out.1.sm
  have HVL : Hid (∀ W vs va (u : Tr) (X : Int), ScIn W vs s → TrW 6 W va u → cntN 6 u ≤ 1000 → SmN 6 u → validA 6 s mnm u = X → Calls Tryz.prog 12 #[vs, .string mnm, va] W fun e w' => e = .returned (.int .i64 X) ∧ Below W.heap.size W w') := fun W vs va u X h1 h2 h3 h4 h5 => by
    have h6 := fits_any (nm := mnm) h1 HSW.out HFS.out.few h2 (by decide) h3 h4
    rw [h5] at h6
    exact h6
  clear hMO
  have hS : Below W7.heap.size W7 W7.drew := (Below.refl _ _).drew
  refine wp_region_held_drew (S := fun w' => Below W7.heap.size W7 w') (by kernel_rfl) hS (fun hS => ?_)
  refine rg_take 0 44 (.agg #[.string sn, .slice (some ⟨g, off, none⟩) mn mc, .slice ea en ec, .slice ta tn tc]) _ rfl rfl (by kernel_rfl) (by kernel_rfl) (by kernel_rfl) (fun _ _ _ h => h) (by rfl) (fun w' hw' => ?_) hS (listed' := #[true, false, false, false, false, false, false, false]) (by kernel_rfl) rfl ?_
  · have f0 := (BS7.below hw').cell 0; have f1 := (BS7.below hw').cell 1; have f2 := (BS7.below hw').cell 2; have f3 := (BS7.below hw').cell 3; go_simp
  simp only [List.setIfInBounds_toArray, List.set_cons_zero, List.set_cons_succ]
  refine rg_take 2 46 (.pointer (some ⟨b4, 0, none⟩)) _ rfl rfl (by kernel_rfl) (by kernel_rfl) (by kernel_rfl) (fun _ _ _ h => h) (by rfl) (fun w' hw' => ?_) hS (listed' := #[true, false, true, false, false, false, false, false]) (by kernel_rfl) rfl ?_
  · go_simp
  simp only [List.setIfInBounds_toArray, List.set_cons_zero, List.set_cons_succ]
  refine rg_take 3 47 (.string mnm) _ rfl rfl (by kernel_rfl) (by kernel_rfl) (by kernel_rfl) (fun _ _ _ h => h) (by rfl) (fun w' hw' => ?_) hS (listed' := #[true, false, true, true, false, false, false, false]) (by kernel_rfl) rfl ?_
  · have f0 := (B7.below hw').cell 0; go_simp
  simp only [List.setIfInBounds_toArray, List.set_cons_zero, List.set_cons_succ]
  refine rg_take 4 48 (.agg #[.int .i64 K, .int .i64 N, .string S, .slice x1 x2 x3, .slice x4 x5 x6]) _ rfl rfl (by kernel_rfl) (by kernel_rfl) (by kernel_rfl) (fun _ _ _ h => h) (by rfl) (fun w' hw' => ?_) hS (listed' := #[true, false, true, true, true, false, false, false]) (by kernel_rfl) rfl ?_
  · have f0 := (BT7.below hw').cell 0; have f1 := (BT7.below hw').cell 1; have f2 := (BT7.below hw').cell 2; have f3 := (BT7.below hw').cell 3; have f4 := (BT7.below hw').cell 4; go_simp
  simp only [List.setIfInBounds_toArray, List.set_cons_zero, List.set_cons_succ]
  refine rg_call 1 45 10 #[.agg #[.string sn, .slice (some ⟨g, off, none⟩) mn mc, .slice ea en ec, .slice ta tn tc]] rfl rfl (by kernel_rfl) (by rfl) (listed' := #[true, true, true, true, true, false, false, false]) (by kernel_rfl) (fun W => by go_simp) ?_
  refine (HCS.out _ hS).mono ?_
  rintro e W1 ⟨vs, rfl, hvs, hbW1⟩
  have HVS1 : Hid (ScIn W1 vs s) := hvs
  have hS0 := hS
  have hS : Below W7.heap.size W7 W1 := hS0.trans (hbW1.mono hS0.size)
  clear hS0 hbW1 hvs
  refine ⟨_, rfl, hS, ?_⟩
  simp only [List.setIfInBounds_toArray, List.set_cons_zero, List.set_cons_succ]
  refine rg_call 5 49 11 #[.agg #[.int .i64 K, .int .i64 N, .string S, .slice x1 x2 x3, .slice x4 x5 x6]] rfl rfl (by kernel_rfl) (by rfl) (listed' := #[true, true, true, true, true, true, false, false]) (by kernel_rfl) (fun W => by go_simp) ?_
  refine Calls.mono (HCT.out _ hS) ?_
  rintro e W2 ⟨va, bs2, rfl, hva, hbW2⟩
  have HVS2 : Hid (ScIn W2 vs s) := HVS1.out.below hbW2
  have HVA2 : Hid (TrW 6 W2 va t) := hva.trW
  have hS0 := hS
  have hS : Below W7.heap.size W7 W2 := hS0.trans (hbW2.mono hS0.size)
  clear hS0 hbW2 hva
  refine ⟨_, rfl, hS, ?_⟩
  simp only [List.setIfInBounds_toArray, List.set_cons_zero, List.set_cons_succ]
  refine rg_call 6 50 12 #[vs, .string mnm, va] rfl rfl (by kernel_rfl) (by rfl) (listed' := #[true, true, true, true, true, true, true, false]) (by kernel_rfl) (fun W => by go_simp) ?_
  refine (HVL.out W2 vs va t 0 HVS2.out HVA2.out (by have := HFIT.out.2; omega) HFIT.out.1.sm (HFIT.out.1.valid (by decide) HA.out HFL2.out.2.1)).mono ?_
  rintro e W3 ⟨rfl, hbW3⟩
  have hS0 := hS
  have hS : Below W7.heap.size W7 W3 := hS0.trans (hbW3.mono hS0.size)
  clear hS0 hbW3
  refine ⟨_, rfl, hS, ?_⟩
  simp only [List.setIfInBounds_toArray, List.set_cons_zero, List.set_cons_succ]
  refine rg_take 7 51 (.bool false) _ rfl rfl (by kernel_rfl) (by kernel_rfl) (by kernel_rfl) (fun _ _ _ h => h) (by rfl) (fun w' hw' => ?_) hS (listed' := #[true, true, true, true, true, true, true, true]) (by kernel_rfl) rfl ?_
  · go_simp
  simp only [List.setIfInBounds_toArray, List.set_cons_zero, List.set_cons_succ]
  refine wpAnyH_done (by kernel_rfl) ?_ _
  obtain ⟨hq1, hq2⟩ := placeI_in tag 500 (by decide)
  obtain ⟨k2, hk2⟩ : ∃ z : Nat, placeI tag 500 = (z : Int) := ⟨(placeI tag 500).toNat, by omega⟩
  have hk5 : k2 < 500 := by omega
  have HP2 : Hid (Calls Tryz.prog 25 #[.int .i64 tag, .int .i64 500] W3 fun e w1 => e = .returned (.int .i64 (k2 : Int)) ∧ w1 = W3) := (by
    have h1 := place_is tag 500 t1 t2 (by decide) (by decide) W3
    rw [hk2] at h1
    exact h1 : Calls Tryz.prog _ _ W3 _)
  have hbw3' : Below w.heap.size w W3 := hbw7.trans (hS.mono hbw7.size)
  clear hk2 hq1 hq2 HVS1 HVS2 HVA2
  go_wp2_with fail
  refine HP2.out.mono ?_
  rintro e W3' ⟨rfl, hW3'⟩
  subst hW3'
  obtain ⟨q, hq⟩ : ∃ z : Nat, (1 : Int) + (k2 : Int) = (z : Int) := ⟨1 + k2, by omega⟩
  have hq1 : 1 ≤ q := by omega
  have hq5 : q ≤ 500 := by omega
  have B8 := B7.below hS
  have m0 := (B8.cell 0).trans rfl
  have m1 := (B8.cell 1).trans rfl
  have m2 := (B8.cell 2).trans rfl
  have HFC : Hid (Calls Tryz.prog 27 #[.agg #[.string mnm, .slice fa fl fc, .slice ra rl rc], .int .i64 (q : Int)] W3' fun e' w' => e' = .returned (.tuple #[flV ((fldOf m.fields (q : Int)).getD zeroF), .bool (fldOf m.fields (q : Int)).isSome]) ∧ Below W3'.heap.size W3' w') := r7field_any (HRF.out.below hbw3')
  clear HP2
  go_wp2_with fail
  refine HFC.out.mono ?_
  rintro e w9 ⟨rfl, hb9⟩
  obtain ⟨Y, hY⟩ : ∃ z, (fldOf m.fields (q : Int)).getD zeroF = z := ⟨_, rfl⟩
  rw [hY]
  obtain ⟨y1, y2, y3, y4, y5⟩ := Y
  simp only [flV]
  have al10 : Below w9.heap.size w9 (w9.alloc (Obj.cells #[.string y1, .int .i64 y2, .int .i64 y3, .int .i64 y4, .string y5] 54)) := (Below.refl _ _).alloc (Nat.le_refl _) _
  have hb710 : Below W7.heap.size W7 (w9.alloc (Obj.cells #[.string y1, .int .i64 y2, .int .i64 y3, .int .i64 y4, .string y5] 54)) := (hS.trans (hb9.mono hS.size)).trans (al10.mono (hS.trans (hb9.mono hS.size)).size)
  have hbw10 : Below w.heap.size w (w9.alloc (Obj.cells #[.string y1, .int .i64 y2, .int .i64 y3, .int .i64 y4, .string y5] 54)) := hbw7.trans (hb710.mono hbw7.size)
  have HB10 : Hid (Below W7.heap.size W7 (w9.alloc (Obj.cells #[.string y1, .int .i64 y2, .int .i64 y3, .int .i64 y4, .string y5] 54))) := hb710
  clear hY hb9 al10 hS hbw3' B8 m0 m1 m2 HFC hb710
  cases hfo : fldOf m.fields (q : Int) with
  | some f =>
    simp only [Option.isSome_some]
    go_wp2_with fail
    refine (awake_any _).mono ?_
    rintro e wz ⟨rfl, hbz⟩
    have hbwz : Below w.heap.size w wz := hbw10.trans (hbz.mono hbw10.size)
    clear hbz
    go_wp2_with fail
    go_ret
    exact ⟨rfl, hbwz⟩
  | none =>
    simp only [Option.isSome_none]
    have HFN : Hid (fldOf ((msgOf s mnm).getD zMs).fields (q : Int) = none) := (by rw [HFL2.out.1]; exact hfo : fldOf ((msgOf s mnm).getD zMs).fields (q : Int) = none)
    have e0 := ((BT7.below HB10.out).cell 0).trans rfl
    have e1 := ((BT7.below HB10.out).cell 1).trans rfl
    have e2 := ((BT7.below HB10.out).cell 2).trans rfl
    have e3 := ((BT7.below HB10.out).cell 3).trans rfl
    have e4 := ((BT7.below HB10.out).cell 4).trans rfl
    clear hfo
    by_cases hx0 : x2 = 0
    · have d8 : decide (0 < x2) = false := by simp; omega
      have HLE : Hid (∀ e ∈ t.es, e.1 < (q : Int)) := fun e he => by
        have h1 : t.es = [] := List.eq_nil_of_length_eq_zero (by rw [HX2.out]; exact hx0)
        rw [h1] at he
        cases he
      clear hx0
      go_wp2_with fail
      clear d8 e0 e1 e2 e3 e4
      refine Calls.mono (HCT.out _ HB10.out) ?_
      rintro e w11 ⟨ua, bsu, rfl, ⟨ru, rfl, hOu, hAu⟩, hb11⟩
      obtain ⟨u1, u2, u3, u4, u5, u6, hru⟩ := TrO.open hOu
      subst hru
      have hu2 : t.es.length = u2 := by
        have h1 : TrW 6 w11 (.agg #[.int .i64 t.kind, .int .i64 t.n, .string t.s, .slice u1 u2 u3, .slice u4 u5 u6]) t := ⟨_, rfl, hOu.trR⟩
        exact h1.parts.2.2.2.1
      rw [HX2.out] at hu2
      subst hu2
      rw [HKN.out.1, HKN.out.2.1, HKN.out.2.2]
      obtain ⟨Bu, hBu⟩ : ∃ z, (w9.alloc (Obj.cells #[.string y1, .int .i64 y2, .int .i64 y3, .int .i64 y4, .string y5] 54)).heap.size = z := ⟨_, rfl⟩
      rw [hBu] at hOu hAu
      have hle11 : Bu ≤ w11.heap.size := by have := hb11.size; rw [hBu] at this; exact this
      have HB10s : Hid ((w9.alloc (Obj.cells #[.string y1, .int .i64 y2, .int .i64 y3, .int .i64 y4, .string y5] 54)).heap.size = Bu) := hBu
      have al14 : Below w11.heap.size w11 (((w11.alloc (Obj.cells #[.int .i64 K, .int .i64 N, .string S, .slice u1 x2 u3, .slice u4 u5 u6] 30)).alloc (Obj.cells #[.int .i64 1, .int .i64 1, .string ⟨#[]⟩, .slice none 0 0, .slice none 0 0] 30)).alloc (Obj.cells #[.int .i64 (q : Int), .slice (some ⟨w11.heap.size + 1, 0, none⟩) 1 1] 58)) := ((((Below.refl _ _).alloc (Nat.le_refl _) _).alloc (by simp) _).alloc (by simp; omega) _)
      have sz14 : (((w11.alloc (Obj.cells #[.int .i64 K, .int .i64 N, .string S, .slice u1 x2 u3, .slice u4 u5 u6] 30)).alloc (Obj.cells #[.int .i64 1, .int .i64 1, .string ⟨#[]⟩, .slice none 0 0, .slice none 0 0] 30)).alloc (Obj.cells #[.int .i64 (q : Int), .slice (some ⟨w11.heap.size + 1, 0, none⟩) 1 1] 58)).heap.size = w11.heap.size + 3 := by simp
      have BU14 : Blk (((w11.alloc (Obj.cells #[.int .i64 K, .int .i64 N, .string S, .slice u1 x2 u3, .slice u4 u5 u6] 30)).alloc (Obj.cells #[.int .i64 1, .int .i64 1, .string ⟨#[]⟩, .slice none 0 0, .slice none 0 0] 30)).alloc (Obj.cells #[.int .i64 (q : Int), .slice (some ⟨w11.heap.size + 1, 0, none⟩) 1 1] 58)) w11.heap.size #[.int .i64 K, .int .i64 N, .string S, .slice u1 x2 u3, .slice u4 u5 u6] 30 := b3a w11 #[.int .i64 K, .int .i64 N, .string S, .slice u1 x2 u3, .slice u4 u5 u6] #[.int .i64 1, .int .i64 1, .string ⟨#[]⟩, .slice none 0 0, .slice none 0 0] #[.int .i64 (q : Int), .slice (some ⟨w11.heap.size + 1, 0, none⟩) 1 1] 30 30 58
      have BZ1 : Blk (((w11.alloc (Obj.cells #[.int .i64 K, .int .i64 N, .string S, .slice u1 x2 u3, .slice u4 u5 u6] 30)).alloc (Obj.cells #[.int .i64 1, .int .i64 1, .string ⟨#[]⟩, .slice none 0 0, .slice none 0 0] 30)).alloc (Obj.cells #[.int .i64 (q : Int), .slice (some ⟨w11.heap.size + 1, 0, none⟩) 1 1] 58)) (w11.heap.size + 1) #[.int .i64 1, .int .i64 1, .string ⟨#[]⟩, .slice none 0 0, .slice none 0 0] 30 := b3b w11 #[.int .i64 K, .int .i64 N, .string S, .slice u1 x2 u3, .slice u4 u5 u6] #[.int .i64 1, .int .i64 1, .string ⟨#[]⟩, .slice none 0 0, .slice none 0 0] #[.int .i64 (q : Int), .slice (some ⟨w11.heap.size + 1, 0, none⟩) 1 1] 30 30 58
      have BZ2 : Blk (((w11.alloc (Obj.cells #[.int .i64 K, .int .i64 N, .string S, .slice u1 x2 u3, .slice u4 u5 u6] 30)).alloc (Obj.cells #[.int .i64 1, .int .i64 1, .string ⟨#[]⟩, .slice none 0 0, .slice none 0 0] 30)).alloc (Obj.cells #[.int .i64 (q : Int), .slice (some ⟨w11.heap.size + 1, 0, none⟩) 1 1] 58)) (w11.heap.size + 1 + 1) #[.int .i64 (q : Int), .slice (some ⟨w11.heap.size + 1, 0, none⟩) 1 1] 58 := b3c w11 #[.int .i64 K, .int .i64 N, .string S, .slice u1 x2 u3, .slice u4 u5 u6] #[.int .i64 1, .int .i64 1, .string ⟨#[]⟩, .slice none 0 0, .slice none 0 0] #[.int .i64 (q : Int), .slice (some ⟨w11.heap.size + 1, 0, none⟩) 1 1] 30 30 58
      have hap14 : Apt Bu (((w11.alloc (Obj.cells #[.int .i64 K, .int .i64 N, .string S, .slice u1 x2 u3, .slice u4 u5 u6] 30)).alloc (Obj.cells #[.int .i64 1, .int .i64 1, .string ⟨#[]⟩, .slice none 0 0, .slice none 0 0] 30)).alloc (Obj.cells #[.int .i64 (q : Int), .slice (some ⟨w11.heap.size + 1, 0, none⟩) 1 1] 58)) ([w11.heap.size] ++ (bsu ++ [w11.heap.size + 1])) := by
        refine ⟨?_, fun y hy => ?_⟩
        · simp only [List.cons_append, List.nil_append, List.nodup_cons, List.mem_append, List.mem_singleton, not_or]
          refine ⟨⟨fun h => by have := (hAu.2 _ h).2; omega, by omega⟩, List.nodup_append.2 ⟨hAu.1, by simp, fun a ha b hb e => ?_⟩⟩
          simp at hb
          have := (hAu.2 a ha).2
          omega
        · rw [sz14]
          simp only [List.cons_append, List.nil_append, List.mem_cons, List.mem_append, List.not_mem_nil, or_false] at hy
          rcases hy with rfl | hy | rfl
          · omega
          · have := hAu.2 y hy; omega
          · omega
      obtain ⟨v', W15, r1, ⟨na, nc, hv'⟩, ⟨bs', hO', hA'⟩, KP⟩ := more_entry (hOu.sm (Sm.below al14 fun y hy => (hAu.2 y hy).2)) hap14 (q := (q : Int)) ⟨by omega, by omega⟩ HFIT.out.1.form (by have := HFIT.out.1.len40; exact this) BZ1 BZ2
      rw [HX2.out] at hv'
      subst hv'
      have HRUN : Hid ((Builtin.append_ #[27, 27] 27 #[.slice u1 x2 u3, .slice (some ⟨w11.heap.size + 1 + 1, 0, none⟩) 1 1]).run Tryz.prog (((w11.alloc (Obj.cells #[.int .i64 K, .int .i64 N, .string S, .slice u1 x2 u3, .slice u4 u5 u6] 30)).alloc (Obj.cells #[.int .i64 1, .int .i64 1, .string ⟨#[]⟩, .slice none 0 0, .slice none 0 0] 30)).alloc (Obj.cells #[.int .i64 (q : Int), .slice (some ⟨w11.heap.size + 1, 0, none⟩) 1 1] 58)) = .ok (.slice na (x2 + 1) nc) W15) := r1
      have BU15 : Blk W15 w11.heap.size #[.int .i64 K, .int .i64 N, .string S, .slice u1 x2 u3, .slice u4 u5 u6] 30 := BU14.kp KP (fun h => by have := (hAu.2 _ h).2; omega)
      have KS16 : Kp (fun y => y = w11.heap.size) W15 (W15.setCell ⟨w11.heap.size, 3, none⟩ (.slice na (x2 + 1) nc)) := by
        refine Kp.setCell ?_ (fun _ => by simp) _
        exact Kp.refl _ _
      have BU16 : Blk (W15.setCell ⟨w11.heap.size, 3, none⟩ (.slice na (x2 + 1) nc)) w11.heap.size #[.int .i64 K, .int .i64 N, .string S, (.slice na (x2 + 1) nc), .slice u4 u5 u6] 30 := BU15.set 3 _ rfl
      have hO16 : TrO 6 Bu (W15.setCell ⟨w11.heap.size, 3, none⟩ (.slice na (x2 + 1) nc)) [.int .i64 t.kind, .int .i64 t.n, .string t.s, (.slice na (x2 + 1) nc), .slice u4 u5 u6] (moreE t (q : Int)) bs' := hO'.sm (KS16.sm fun y hy => ⟨(hA'.2 y (List.mem_append.2 (.inr hy))).2, fun e => by subst e; exact hA'.apart _ (by simp) hy⟩)
      have hA16 : Apt Bu (W15.setCell ⟨w11.heap.size, 3, none⟩ (.slice na (x2 + 1) nc)) bs' := (hA'.right).mono KS16.size
      have hb16 : Below (w9.alloc (Obj.cells #[.string y1, .int .i64 y2, .int .i64 y3, .int .i64 y4, .string y5] 54)).heap.size (w9.alloc (Obj.cells #[.string y1, .int .i64 y2, .int .i64 y3, .int .i64 y4, .string y5] 54)) (W15.setCell ⟨w11.heap.size, 3, none⟩ (.slice na (x2 + 1) nc)) := by
        have h1 := hb11.trans (al14.mono hb11.size)
        have h2 := h1.trans (KP.toBelow h1.size (fun y hy => by have := (hAu.2 y hy).1; rw [hBu]; exact this))
        exact h2.trans (KS16.toBelow h2.size (fun y hy => by rw [hBu]; omega))
      have HU16 : Hid (TrO 6 Bu (W15.setCell ⟨w11.heap.size, 3, none⟩ (.slice na (x2 + 1) nc)) [.int .i64 t.kind, .int .i64 t.n, .string t.s, (.slice na (x2 + 1) nc), .slice u4 u5 u6] (moreE t (q : Int)) bs' ∧ Apt Bu (W15.setCell ⟨w11.heap.size, 3, none⟩ (.slice na (x2 + 1) nc)) bs' ∧ Blk (W15.setCell ⟨w11.heap.size, 3, none⟩ (.slice na (x2 + 1) nc)) w11.heap.size #[.int .i64 K, .int .i64 N, .string S, (.slice na (x2 + 1) nc), .slice u4 u5 u6] 30) := ⟨hO16, hA16, BU16⟩
      have hb716 : Below W7.heap.size W7 (W15.setCell ⟨w11.heap.size, 3, none⟩ (.slice na (x2 + 1) nc)) := HB10.out.trans (hb16.mono HB10.out.size)
      have HB16 : Hid (Below W7.heap.size W7 (W15.setCell ⟨w11.heap.size, 3, none⟩ (.slice na (x2 + 1) nc))) := hb716
      have BT16 := BT7.below hb716
      have p3 := (BU15.cell 3).trans rfl
      have p4 := BU15.froz 3
      have p5 := BU15.lt
      have j0 := (BT16.cell 0).trans rfl
      have j1 := (BT16.cell 1).trans rfl
      have j2 := (BT16.cell 2).trans rfl
      have j3 := (BT16.cell 3).trans rfl
      have j4 := (BT16.cell 4).trans rfl
      have HBT16 : Hid (Blk (W15.setCell ⟨w11.heap.size, 3, none⟩ (.slice na (x2 + 1) nc)) bt #[.int .i64 K, .int .i64 N, .string S, .slice x1 x2 x3, .slice x4 x5 x6] 30) := BT16
      clear hOu hAu hb11 al14 sz14 BU14 BZ1 BZ2 hap14 r1 hO' hA' KP BU15 KS16 BU16 hO16 hA16 hb16 hb716 BT16 hBu hle11 HB10
      go_wp2_with (first | (at_builtin; refine wpList_ran rfl (append_run rfl rfl rfl HRUN.out) ?_) | fail)
      clear HRUN
      go_wp2_with fail
      generalize (W15.setCell ⟨w11.heap.size, 3, none⟩ (.slice na (x2 + 1) nc)) = W16 at *
      obtain ⟨bu, hbu⟩ : ∃ z, w11.heap.size = z := ⟨_, rfl⟩
      rw [hbu] at HU16
      try simp only [hbu]
      clear hbu p3 p4 p5 j0 j1 j2 j3 j4
      refine Calls.mono (HCT.out _ HB16.out) ?_
      rintro e w17 ⟨vb, bsv, rfl, ⟨rv, rfl, hOv, hAv⟩, hb17⟩
      obtain ⟨v1, v2, v3, v4, v5, v6, hrv⟩ := TrO.open hOv
      subst hrv
      rw [HKN.out.1, HKN.out.2.1, HKN.out.2.2]
      have al19 : Below w17.heap.size w17 ((w17.alloc (Obj.cells #[.int .i64 K, .int .i64 N, .string S, .slice v1 v2 v3, .slice v4 v5 v6] 30)).alloc (Obj.cells #[.int .i64 (q : Int), .int .i64 0, .int .i64 1, .string ⟨#[]⟩] 60)) := (((Below.refl _ _).alloc (Nat.le_refl _) _).alloc (by simp) _)
      have BV19 : Blk ((w17.alloc (Obj.cells #[.int .i64 K, .int .i64 N, .string S, .slice v1 v2 v3, .slice v4 v5 v6] 30)).alloc (Obj.cells #[.int .i64 (q : Int), .int .i64 0, .int .i64 1, .string ⟨#[]⟩] 60)) w17.heap.size #[.int .i64 K, .int .i64 N, .string S, .slice v1 v2 v3, .slice v4 v5 v6] 30 := (Blk.new w17 _ _).below ((Below.refl _ _).alloc (Nat.le_refl _) _)
      have al20 : Below w17.heap.size w17 ((w17.alloc (Obj.cells #[.int .i64 K, .int .i64 N, .string S, .slice v1 v2 v3, (.slice (some ⟨w17.heap.size + 1, 0, none⟩) 1 1)] 30)).alloc (Obj.cells #[.int .i64 (q : Int), .int .i64 0, .int .i64 1, .string ⟨#[]⟩] 60)) := (((Below.refl _ _).alloc (Nat.le_refl _) _).alloc (by simp) _)
      have BZ3 : Blk ((w17.alloc (Obj.cells #[.int .i64 K, .int .i64 N, .string S, .slice v1 v2 v3, (.slice (some ⟨w17.heap.size + 1, 0, none⟩) 1 1)] 30)).alloc (Obj.cells #[.int .i64 (q : Int), .int .i64 0, .int .i64 1, .string ⟨#[]⟩] 60)) (w17.heap.size + 1) #[.int .i64 (q : Int), .int .i64 0, .int .i64 1, .string ⟨#[]⟩] 60 := by
        have := Blk.new (w17.alloc (Obj.cells #[.int .i64 K, .int .i64 N, .string S, .slice v1 v2 v3, (.slice (some ⟨w17.heap.size + 1, 0, none⟩) 1 1)] 30)) #[.int .i64 (q : Int), .int .i64 0, .int .i64 1, .string ⟨#[]⟩] 60
        rwa [show (w17.alloc (Obj.cells #[.int .i64 K, .int .i64 N, .string S, .slice v1 v2 v3, (.slice (some ⟨w17.heap.size + 1, 0, none⟩) 1 1)] 30)).heap.size = w17.heap.size + 1 from by simp] at this
      have hb1620 : Below W16.heap.size W16 ((w17.alloc (Obj.cells #[.int .i64 K, .int .i64 N, .string S, .slice v1 v2 v3, (.slice (some ⟨w17.heap.size + 1, 0, none⟩) 1 1)] 30)).alloc (Obj.cells #[.int .i64 (q : Int), .int .i64 0, .int .i64 1, .string ⟨#[]⟩] 60)) := hb17.trans (al20.mono hb17.size)
      have HVW : Hid (TrW 6 ((w17.alloc (Obj.cells #[.int .i64 K, .int .i64 N, .string S, .slice v1 v2 v3, (.slice (some ⟨w17.heap.size + 1, 0, none⟩) 1 1)] 30)).alloc (Obj.cells #[.int .i64 (q : Int), .int .i64 0, .int .i64 1, .string ⟨#[]⟩] 60)) (.agg #[.int .i64 K, .int .i64 N, .string S, .slice v1 v2 v3, (.slice (some ⟨w17.heap.size + 1, 0, none⟩) 1 1)]) (moreR t (q : Int))) := by
        have h1 := hOv.sm (Sm.below al20 fun y hy => (hAv.2 y hy).2)
        have h3 := more_rest h1 (q := (q : Int)) ⟨by omega, by omega⟩ HFIT.out.1.form BZ3
        rw [HKN.out.1, HKN.out.2.1, HKN.out.2.2] at h3
        exact h3
      have HUW : Hid (TrW 6 ((w17.alloc (Obj.cells #[.int .i64 K, .int .i64 N, .string S, .slice v1 v2 v3, (.slice (some ⟨w17.heap.size + 1, 0, none⟩) 1 1)] 30)).alloc (Obj.cells #[.int .i64 (q : Int), .int .i64 0, .int .i64 1, .string ⟨#[]⟩] 60)) (.agg #[.int .i64 K, .int .i64 N, .string S, (.slice na (x2 + 1) nc), .slice u4 u5 u6]) (moreE t (q : Int))) := by
        have h1 := HU16.out.1.sm (Sm.below hb1620 fun y hy => (HU16.out.2.1.2 y hy).2)
        rw [HKN.out.1, HKN.out.2.1, HKN.out.2.2] at h1
        exact ⟨_, rfl, h1.trR⟩
      have hb720 : Below W7.heap.size W7 ((w17.alloc (Obj.cells #[.int .i64 K, .int .i64 N, .string S, .slice v1 v2 v3, (.slice (some ⟨w17.heap.size + 1, 0, none⟩) 1 1)] 30)).alloc (Obj.cells #[.int .i64 (q : Int), .int .i64 0, .int .i64 1, .string ⟨#[]⟩] 60)) := HB16.out.trans (hb1620.mono HB16.out.size)
      have hbw20 : Below w.heap.size w ((w17.alloc (Obj.cells #[.int .i64 K, .int .i64 N, .string S, .slice v1 v2 v3, (.slice (some ⟨w17.heap.size + 1, 0, none⟩) 1 1)] 30)).alloc (Obj.cells #[.int .i64 (q : Int), .int .i64 0, .int .i64 1, .string ⟨#[]⟩] 60)) := hbw7.trans (hb720.mono hbw7.size)
      have BS20 := BS7.below hb720
      have B20 := B7.below hb720
      have BU20 := HU16.out.2.2.below hb1620
      have BV20 : Blk ((w17.alloc (Obj.cells #[.int .i64 K, .int .i64 N, .string S, .slice v1 v2 v3, (.slice (some ⟨w17.heap.size + 1, 0, none⟩) 1 1)] 30)).alloc (Obj.cells #[.int .i64 (q : Int), .int .i64 0, .int .i64 1, .string ⟨#[]⟩] 60)) w17.heap.size #[.int .i64 K, .int .i64 N, .string S, .slice v1 v2 v3, (.slice (some ⟨w17.heap.size + 1, 0, none⟩) 1 1)] 30 := (Blk.new w17 _ _).below ((Below.refl _ _).alloc (Nat.le_refl _) _)
      have HBX : Hid (Blk ((w17.alloc (Obj.cells #[.int .i64 K, .int .i64 N, .string S, .slice v1 v2 v3, (.slice (some ⟨w17.heap.size + 1, 0, none⟩) 1 1)] 30)).alloc (Obj.cells #[.int .i64 (q : Int), .int .i64 0, .int .i64 1, .string ⟨#[]⟩] 60)) b0 #[.string sn, .slice (some ⟨g, off, none⟩) mn mc, .slice ea en ec, .slice ta tn tc] 26 ∧ Blk ((w17.alloc (Obj.cells #[.int .i64 K, .int .i64 N, .string S, .slice v1 v2 v3, (.slice (some ⟨w17.heap.size + 1, 0, none⟩) 1 1)] 30)).alloc (Obj.cells #[.int .i64 (q : Int), .int .i64 0, .int .i64 1, .string ⟨#[]⟩] 60)) b4 #[.string mnm, .slice fa fl fc, .slice ra rl rc] 50 ∧ Blk ((w17.alloc (Obj.cells #[.int .i64 K, .int .i64 N, .string S, .slice v1 v2 v3, (.slice (some ⟨w17.heap.size + 1, 0, none⟩) 1 1)] 30)).alloc (Obj.cells #[.int .i64 (q : Int), .int .i64 0, .int .i64 1, .string ⟨#[]⟩] 60)) w17.heap.size #[.int .i64 K, .int .i64 N, .string S, .slice v1 v2 v3, (.slice (some ⟨w17.heap.size + 1, 0, none⟩) 1 1)] 30) := ⟨BS20, B20, BV20⟩
      have p3 := (BV19.cell 4).trans rfl
      have p4 := BV19.froz 4
      have p5 := BV19.lt
      have s0 := (BS20.cell 0).trans rfl
      have s1 := (BS20.cell 1).trans rfl
      have s2 := (BS20.cell 2).trans rfl
      have s3 := (BS20.cell 3).trans rfl
      have m0 := (B20.cell 0).trans rfl
      have j0 := (BU20.cell 0).trans rfl
      have j1 := (BU20.cell 1).trans rfl
      have j2 := (BU20.cell 2).trans rfl
      have j3 := (BU20.cell 3).trans rfl
      have j4 := (BU20.cell 4).trans rfl
      have HVU : Hid (Calls Tryz.prog 12 #[.agg #[.string sn, .slice (some ⟨g, off, none⟩) mn mc, .slice ea en ec, .slice ta tn tc], .string mnm, .agg #[.int .i64 K, .int .i64 N, .string S, (.slice na (x2 + 1) nc), .slice u4 u5 u6]] ((w17.alloc (Obj.cells #[.int .i64 K, .int .i64 N, .string S, .slice v1 v2 v3, (.slice (some ⟨w17.heap.size + 1, 0, none⟩) 1 1)] 30)).alloc (Obj.cells #[.int .i64 (q : Int), .int .i64 0, .int .i64 1, .string ⟨#[]⟩] 60)) fun e w' => e = .returned (.int .i64 7) ∧ Below ((w17.alloc (Obj.cells #[.int .i64 K, .int .i64 N, .string S, .slice v1 v2 v3, (.slice (some ⟨w17.heap.size + 1, 0, none⟩) 1 1)] 30)).alloc (Obj.cells #[.int .i64 (q : Int), .int .i64 0, .int .i64 1, .string ⟨#[]⟩] 60)).heap.size ((w17.alloc (Obj.cells #[.int .i64 K, .int .i64 N, .string S, .slice v1 v2 v3, (.slice (some ⟨w17.heap.size + 1, 0, none⟩) 1 1)] 30)).alloc (Obj.cells #[.int .i64 (q : Int), .int .i64 0, .int .i64 1, .string ⟨#[]⟩] 60)) w') := HVL.out _ _ _ (moreE t (q : Int)) 7 (HSC.out.below hbw20) HUW.out (by have h1 : cntN 6 (moreE t (q : Int)) ≤ cntN 6 t + 1 := moreE_cnt (n := 4); have h2 := HFIT.out.2; omega) (moreE_sm HFIT.out.1.sm (by have h1 := fit_len HFIT.out.1 (by rw [HFL2.out.1]; exact HFL2.out.2.2); omega)) (HFIT.out.1.moreE_valid (by decide) HA.out HFL2.out.2.1 (by omega) (by omega) HFN.out HLE.out)
      clear hOv hAv hb17 al19 al20 BV19 BZ3 hb1620 hb720 BS20 B20 BU20 BV20
      go_wp2_with fail
      refine HVU.out.mono ?_
      clear p3 p4 p5 s0 s1 s2 s3 m0 j0 j1 j2 j3 j4
      generalize ((w17.alloc (Obj.cells #[.int .i64 K, .int .i64 N, .string S, .slice v1 v2 v3, (.slice (some ⟨w17.heap.size + 1, 0, none⟩) 1 1)] 30)).alloc (Obj.cells #[.int .i64 (q : Int), .int .i64 0, .int .i64 1, .string ⟨#[]⟩] 60)) = W20 at *
      rintro e w21 ⟨rfl, hb21⟩
      have hbw21 : Below w.heap.size w w21 := hbw20.trans (hb21.mono hbw20.size)
      have BS21 := HBX.out.1.below hb21
      have B21 := HBX.out.2.1.below hb21
      have BV21 := HBX.out.2.2.below hb21
      have s0 := (BS21.cell 0).trans rfl
      have s1 := (BS21.cell 1).trans rfl
      have s2 := (BS21.cell 2).trans rfl
      have s3 := (BS21.cell 3).trans rfl
      have m0 := (B21.cell 0).trans rfl
      have j0 := (BV21.cell 0).trans rfl
      have j1 := (BV21.cell 1).trans rfl
      have j2 := (BV21.cell 2).trans rfl
      have j3 := (BV21.cell 3).trans rfl
      have j4 := (BV21.cell 4).trans rfl
      have HVV : Hid (Calls Tryz.prog 12 #[.agg #[.string sn, .slice (some ⟨g, off, none⟩) mn mc, .slice ea en ec, .slice ta tn tc], .string mnm, .agg #[.int .i64 K, .int .i64 N, .string S, .slice v1 v2 v3, (.slice (some ⟨w17.heap.size + 1, 0, none⟩) 1 1)]] w21 fun e w' => e = .returned (.int .i64 0) ∧ Below w21.heap.size w21 w') := HVL.out _ _ _ (moreR t (q : Int)) 0 (HSC.out.below hbw21) (HVW.out.cel (Cel.ofBelow hb21)) (by have h1 : cntN 6 (moreR t (q : Int)) = cntN 6 t := rfl; have h2 := HFIT.out.2; omega) (moreR_sm HFIT.out.1.sm) (HFIT.out.1.moreR_valid (by decide) HA.out HFL2.out.2.1 (by omega) (by omega) HFN.out HLE.out)
      clear BS21 B21 BV21 HVU hb21
      go_wp2_with fail
      refine HVV.out.mono ?_
      rintro e w22 ⟨rfl, hb22⟩
      have hbw22 : Below w.heap.size w w22 := hbw21.trans (hb22.mono hbw21.size)
      clear s0 s1 s2 s3 m0 j0 j1 j2 j3 j4 HVV hb22
      go_wp2_with fail
      refine (awake_any _).mono ?_
      rintro e wz ⟨rfl, hbz⟩
      have hbwz : Below w.heap.size w wz := hbw22.trans (hbz.mono hbw22.size)
      clear hbz
      go_wp2_with fail
      go_ret
      exact ⟨rfl, hbwz⟩
    · have d8 : decide (0 < x2) = true := by simp; omega
      obtain ⟨xl, hxl⟩ : ∃ x, t.es[x2 - 1]? = some x := ⟨_, List.getElem?_eq_getElem (by rw [HX2.out]; omega)⟩
      obtain ⟨ve', vr', hve, -, -, -, -, -, he7, -, -⟩ := HTR7.out.cel (Cel.ofBelow HB10.out)
      simp only [List.cons.injEq, and_true] at hve
      obtain ⟨-, -, -, rfl, rfl⟩ := hve
      obtain ⟨ge, oe, a1', c1', rfl, y0, -⟩ := ensR_get he7 hxl
      have hlast : t.es.getLast? = some xl := by rw [List.getLast?_eq_getElem?, HX2.out]; exact hxl
      have HLS : Hid ((∀ e ∈ t.es, e.1 ≤ xl.1) ∧ (0 : Int) < xl.1) := ents_last t.es 0 HFIT.out.1.ents xl hlast
      obtain ⟨xt, hxt⟩ : ∃ z, xl.1 = z := ⟨_, rfl⟩
      rw [hxt] at y0 HLS
      have hx2c : x2 ≤ x3 ∧ x3 ≤ 9223372036854775807 := by
        obtain ⟨a9, c9, e9, h91, h92, -⟩ := RowP.open he7
        simp only [Value.slice.injEq] at e9
        obtain ⟨-, e91, rfl⟩ := e9
        unfold maxLen at h92
        omega
      obtain ⟨hx2c1, hx2c2⟩ := hx2c
      have hx1c : (x2 : Int) - 1 = ((x2 - 1 : Nat) : Int) := by omega
      clear hxl hxt he7 hlast
      by_cases hqx : (q : Int) ≤ xt
      · have d9 : decide ((q : Int) ≤ xt) = true := by simpa using hqx
        clear HTR7
        go_wp2_with fail
        refine (awake_any _).mono ?_
        rintro e wz ⟨rfl, hbz⟩
        have hbwz : Below w.heap.size w wz := hbw10.trans (hbz.mono hbw10.size)
        clear hbz
        go_wp2_with fail
        go_ret
        exact ⟨rfl, hbwz⟩
      · have d9 : decide ((q : Int) ≤ xt) = false := by simpa using hqx
        have HLE : Hid (∀ e ∈ t.es, e.1 < (q : Int)) := fun e he => by have := HLS.out.1 e he; omega
        go_wp2_with fail
        clear d8 d9 e0 e1 e2 e3 e4 y0 hx1c
        refine Calls.mono (HCT.out _ HB10.out) ?_
        rintro e w11 ⟨ua, bsu, rfl, ⟨ru, rfl, hOu, hAu⟩, hb11⟩
        obtain ⟨u1, u2, u3, u4, u5, u6, hru⟩ := TrO.open hOu
        subst hru
        have hu2 : t.es.length = u2 := by
          have h1 : TrW 6 w11 (.agg #[.int .i64 t.kind, .int .i64 t.n, .string t.s, .slice u1 u2 u3, .slice u4 u5 u6]) t := ⟨_, rfl, hOu.trR⟩
          exact h1.parts.2.2.2.1
        rw [HX2.out] at hu2
        subst hu2
        rw [HKN.out.1, HKN.out.2.1, HKN.out.2.2]
        obtain ⟨Bu, hBu⟩ : ∃ z, (w9.alloc (Obj.cells #[.string y1, .int .i64 y2, .int .i64 y3, .int .i64 y4, .string y5] 54)).heap.size = z := ⟨_, rfl⟩
        rw [hBu] at hOu hAu
        have hle11 : Bu ≤ w11.heap.size := by have := hb11.size; rw [hBu] at this; exact this
        have HB10s : Hid ((w9.alloc (Obj.cells #[.string y1, .int .i64 y2, .int .i64 y3, .int .i64 y4, .string y5] 54)).heap.size = Bu) := hBu
        have al14 : Below w11.heap.size w11 (((w11.alloc (Obj.cells #[.int .i64 K, .int .i64 N, .string S, .slice u1 x2 u3, .slice u4 u5 u6] 30)).alloc (Obj.cells #[.int .i64 1, .int .i64 1, .string ⟨#[]⟩, .slice none 0 0, .slice none 0 0] 30)).alloc (Obj.cells #[.int .i64 (q : Int), .slice (some ⟨w11.heap.size + 1, 0, none⟩) 1 1] 58)) := ((((Below.refl _ _).alloc (Nat.le_refl _) _).alloc (by simp) _).alloc (by simp; omega) _)
        have sz14 : (((w11.alloc (Obj.cells #[.int .i64 K, .int .i64 N, .string S, .slice u1 x2 u3, .slice u4 u5 u6] 30)).alloc (Obj.cells #[.int .i64 1, .int .i64 1, .string ⟨#[]⟩, .slice none 0 0, .slice none 0 0] 30)).alloc (Obj.cells #[.int .i64 (q : Int), .slice (some ⟨w11.heap.size + 1, 0, none⟩) 1 1] 58)).heap.size = w11.heap.size + 3 := by simp
        have BU14 : Blk (((w11.alloc (Obj.cells #[.int .i64 K, .int .i64 N, .string S, .slice u1 x2 u3, .slice u4 u5 u6] 30)).alloc (Obj.cells #[.int .i64 1, .int .i64 1, .string ⟨#[]⟩, .slice none 0 0, .slice none 0 0] 30)).alloc (Obj.cells #[.int .i64 (q : Int), .slice (some ⟨w11.heap.size + 1, 0, none⟩) 1 1] 58)) w11.heap.size #[.int .i64 K, .int .i64 N, .string S, .slice u1 x2 u3, .slice u4 u5 u6] 30 := b3a w11 #[.int .i64 K, .int .i64 N, .string S, .slice u1 x2 u3, .slice u4 u5 u6] #[.int .i64 1, .int .i64 1, .string ⟨#[]⟩, .slice none 0 0, .slice none 0 0] #[.int .i64 (q : Int), .slice (some ⟨w11.heap.size + 1, 0, none⟩) 1 1] 30 30 58
        have BZ1 : Blk (((w11.alloc (Obj.cells #[.int .i64 K, .int .i64 N, .string S, .slice u1 x2 u3, .slice u4 u5 u6] 30)).alloc (Obj.cells #[.int .i64 1, .int .i64 1, .string ⟨#[]⟩, .slice none 0 0, .slice none 0 0] 30)).alloc (Obj.cells #[.int .i64 (q : Int), .slice (some ⟨w11.heap.size + 1, 0, none⟩) 1 1] 58)) (w11.heap.size + 1) #[.int .i64 1, .int .i64 1, .string ⟨#[]⟩, .slice none 0 0, .slice none 0 0] 30 := b3b w11 #[.int .i64 K, .int .i64 N, .string S, .slice u1 x2 u3, .slice u4 u5 u6] #[.int .i64 1, .int .i64 1, .string ⟨#[]⟩, .slice none 0 0, .slice none 0 0] #[.int .i64 (q : Int), .slice (some ⟨w11.heap.size + 1, 0, none⟩) 1 1] 30 30 58
        have BZ2 : Blk (((w11.alloc (Obj.cells #[.int .i64 K, .int .i64 N, .string S, .slice u1 x2 u3, .slice u4 u5 u6] 30)).alloc (Obj.cells #[.int .i64 1, .int .i64 1, .string ⟨#[]⟩, .slice none 0 0, .slice none 0 0] 30)).alloc (Obj.cells #[.int .i64 (q : Int), .slice (some ⟨w11.heap.size + 1, 0, none⟩) 1 1] 58)) (w11.heap.size + 1 + 1) #[.int .i64 (q : Int), .slice (some ⟨w11.heap.size + 1, 0, none⟩) 1 1] 58 := b3c w11 #[.int .i64 K, .int .i64 N, .string S, .slice u1 x2 u3, .slice u4 u5 u6] #[.int .i64 1, .int .i64 1, .string ⟨#[]⟩, .slice none 0 0, .slice none 0 0] #[.int .i64 (q : Int), .slice (some ⟨w11.heap.size + 1, 0, none⟩) 1 1] 30 30 58
        have hap14 : Apt Bu (((w11.alloc (Obj.cells #[.int .i64 K, .int .i64 N, .string S, .slice u1 x2 u3, .slice u4 u5 u6] 30)).alloc (Obj.cells #[.int .i64 1, .int .i64 1, .string ⟨#[]⟩, .slice none 0 0, .slice none 0 0] 30)).alloc (Obj.cells #[.int .i64 (q : Int), .slice (some ⟨w11.heap.size + 1, 0, none⟩) 1 1] 58)) ([w11.heap.size] ++ (bsu ++ [w11.heap.size + 1])) := by
          refine ⟨?_, fun y hy => ?_⟩
          · simp only [List.cons_append, List.nil_append, List.nodup_cons, List.mem_append, List.mem_singleton, not_or]
            refine ⟨⟨fun h => by have := (hAu.2 _ h).2; omega, by omega⟩, List.nodup_append.2 ⟨hAu.1, by simp, fun a ha b hb e => ?_⟩⟩
            simp at hb
            have := (hAu.2 a ha).2
            omega
          · rw [sz14]
            simp only [List.cons_append, List.nil_append, List.mem_cons, List.mem_append, List.not_mem_nil, or_false] at hy
            rcases hy with rfl | hy | rfl
            · omega
            · have := hAu.2 y hy; omega
            · omega
        obtain ⟨v', W15, r1, ⟨na, nc, hv'⟩, ⟨bs', hO', hA'⟩, KP⟩ := more_entry (hOu.sm (Sm.below al14 fun y hy => (hAu.2 y hy).2)) hap14 (q := (q : Int)) ⟨by omega, by omega⟩ HFIT.out.1.form (by have := HFIT.out.1.len40; exact this) BZ1 BZ2
        rw [HX2.out] at hv'
        subst hv'
        have HRUN : Hid ((Builtin.append_ #[27, 27] 27 #[.slice u1 x2 u3, .slice (some ⟨w11.heap.size + 1 + 1, 0, none⟩) 1 1]).run Tryz.prog (((w11.alloc (Obj.cells #[.int .i64 K, .int .i64 N, .string S, .slice u1 x2 u3, .slice u4 u5 u6] 30)).alloc (Obj.cells #[.int .i64 1, .int .i64 1, .string ⟨#[]⟩, .slice none 0 0, .slice none 0 0] 30)).alloc (Obj.cells #[.int .i64 (q : Int), .slice (some ⟨w11.heap.size + 1, 0, none⟩) 1 1] 58)) = .ok (.slice na (x2 + 1) nc) W15) := r1
        have BU15 : Blk W15 w11.heap.size #[.int .i64 K, .int .i64 N, .string S, .slice u1 x2 u3, .slice u4 u5 u6] 30 := BU14.kp KP (fun h => by have := (hAu.2 _ h).2; omega)
        have KS16 : Kp (fun y => y = w11.heap.size) W15 (W15.setCell ⟨w11.heap.size, 3, none⟩ (.slice na (x2 + 1) nc)) := by
          refine Kp.setCell ?_ (fun _ => by simp) _
          exact Kp.refl _ _
        have BU16 : Blk (W15.setCell ⟨w11.heap.size, 3, none⟩ (.slice na (x2 + 1) nc)) w11.heap.size #[.int .i64 K, .int .i64 N, .string S, (.slice na (x2 + 1) nc), .slice u4 u5 u6] 30 := BU15.set 3 _ rfl
        have hO16 : TrO 6 Bu (W15.setCell ⟨w11.heap.size, 3, none⟩ (.slice na (x2 + 1) nc)) [.int .i64 t.kind, .int .i64 t.n, .string t.s, (.slice na (x2 + 1) nc), .slice u4 u5 u6] (moreE t (q : Int)) bs' := hO'.sm (KS16.sm fun y hy => ⟨(hA'.2 y (List.mem_append.2 (.inr hy))).2, fun e => by subst e; exact hA'.apart _ (by simp) hy⟩)
        have hA16 : Apt Bu (W15.setCell ⟨w11.heap.size, 3, none⟩ (.slice na (x2 + 1) nc)) bs' := (hA'.right).mono KS16.size
        have hb16 : Below (w9.alloc (Obj.cells #[.string y1, .int .i64 y2, .int .i64 y3, .int .i64 y4, .string y5] 54)).heap.size (w9.alloc (Obj.cells #[.string y1, .int .i64 y2, .int .i64 y3, .int .i64 y4, .string y5] 54)) (W15.setCell ⟨w11.heap.size, 3, none⟩ (.slice na (x2 + 1) nc)) := by
          have h1 := hb11.trans (al14.mono hb11.size)
          have h2 := h1.trans (KP.toBelow h1.size (fun y hy => by have := (hAu.2 y hy).1; rw [hBu]; exact this))
          exact h2.trans (KS16.toBelow h2.size (fun y hy => by rw [hBu]; omega))
        have HU16 : Hid (TrO 6 Bu (W15.setCell ⟨w11.heap.size, 3, none⟩ (.slice na (x2 + 1) nc)) [.int .i64 t.kind, .int .i64 t.n, .string t.s, (.slice na (x2 + 1) nc), .slice u4 u5 u6] (moreE t (q : Int)) bs' ∧ Apt Bu (W15.setCell ⟨w11.heap.size, 3, none⟩ (.slice na (x2 + 1) nc)) bs' ∧ Blk (W15.setCell ⟨w11.heap.size, 3, none⟩ (.slice na (x2 + 1) nc)) w11.heap.size #[.int .i64 K, .int .i64 N, .string S, (.slice na (x2 + 1) nc), .slice u4 u5 u6] 30) := ⟨hO16, hA16, BU16⟩
        have hb716 : Below W7.heap.size W7 (W15.setCell ⟨w11.heap.size, 3, none⟩ (.slice na (x2 + 1) nc)) := HB10.out.trans (hb16.mono HB10.out.size)
        have HB16 : Hid (Below W7.heap.size W7 (W15.setCell ⟨w11.heap.size, 3, none⟩ (.slice na (x2 + 1) nc))) := hb716
        have BT16 := BT7.below hb716
        have p3 := (BU15.cell 3).trans rfl
        have p4 := BU15.froz 3
        have p5 := BU15.lt
        have j0 := (BT16.cell 0).trans rfl
        have j1 := (BT16.cell 1).trans rfl
        have j2 := (BT16.cell 2).trans rfl
        have j3 := (BT16.cell 3).trans rfl
        have j4 := (BT16.cell 4).trans rfl
        have HBT16 : Hid (Blk (W15.setCell ⟨w11.heap.size, 3, none⟩ (.slice na (x2 + 1) nc)) bt #[.int .i64 K, .int .i64 N, .string S, .slice (some ⟨ge, oe, none⟩) x2 x3, .slice x4 x5 x6] 30) := BT16
        clear hOu hAu hb11 al14 sz14 BU14 BZ1 BZ2 hap14 r1 hO' hA' KP BU15 KS16 BU16 hO16 hA16 hb16 hb716 BT16 hBu hle11 HB10
        go_wp2_with (first | (at_builtin; refine wpList_ran rfl (append_run rfl rfl rfl HRUN.out) ?_) | fail)
        clear HRUN
        go_wp2_with fail
        generalize (W15.setCell ⟨w11.heap.size, 3, none⟩ (.slice na (x2 + 1) nc)) = W16 at *
        obtain ⟨bu, hbu⟩ : ∃ z, w11.heap.size = z := ⟨_, rfl⟩
        rw [hbu] at HU16
        try simp only [hbu]
        clear hbu p3 p4 p5 j0 j1 j2 j3 j4
        refine Calls.mono (HCT.out _ HB16.out) ?_
        rintro e w17 ⟨vb, bsv, rfl, ⟨rv, rfl, hOv, hAv⟩, hb17⟩
        obtain ⟨v1, v2, v3, v4, v5, v6, hrv⟩ := TrO.open hOv
        subst hrv
        rw [HKN.out.1, HKN.out.2.1, HKN.out.2.2]
        have al19 : Below w17.heap.size w17 ((w17.alloc (Obj.cells #[.int .i64 K, .int .i64 N, .string S, .slice v1 v2 v3, .slice v4 v5 v6] 30)).alloc (Obj.cells #[.int .i64 (q : Int), .int .i64 0, .int .i64 1, .string ⟨#[]⟩] 60)) := (((Below.refl _ _).alloc (Nat.le_refl _) _).alloc (by simp) _)
        have BV19 : Blk ((w17.alloc (Obj.cells #[.int .i64 K, .int .i64 N, .string S, .slice v1 v2 v3, .slice v4 v5 v6] 30)).alloc (Obj.cells #[.int .i64 (q : Int), .int .i64 0, .int .i64 1, .string ⟨#[]⟩] 60)) w17.heap.size #[.int .i64 K, .int .i64 N, .string S, .slice v1 v2 v3, .slice v4 v5 v6] 30 := (Blk.new w17 _ _).below ((Below.refl _ _).alloc (Nat.le_refl _) _)
        have al20 : Below w17.heap.size w17 ((w17.alloc (Obj.cells #[.int .i64 K, .int .i64 N, .string S, .slice v1 v2 v3, (.slice (some ⟨w17.heap.size + 1, 0, none⟩) 1 1)] 30)).alloc (Obj.cells #[.int .i64 (q : Int), .int .i64 0, .int .i64 1, .string ⟨#[]⟩] 60)) := (((Below.refl _ _).alloc (Nat.le_refl _) _).alloc (by simp) _)
        have BZ3 : Blk ((w17.alloc (Obj.cells #[.int .i64 K, .int .i64 N, .string S, .slice v1 v2 v3, (.slice (some ⟨w17.heap.size + 1, 0, none⟩) 1 1)] 30)).alloc (Obj.cells #[.int .i64 (q : Int), .int .i64 0, .int .i64 1, .string ⟨#[]⟩] 60)) (w17.heap.size + 1) #[.int .i64 (q : Int), .int .i64 0, .int .i64 1, .string ⟨#[]⟩] 60 := by
          have := Blk.new (w17.alloc (Obj.cells #[.int .i64 K, .int .i64 N, .string S, .slice v1 v2 v3, (.slice (some ⟨w17.heap.size + 1, 0, none⟩) 1 1)] 30)) #[.int .i64 (q : Int), .int .i64 0, .int .i64 1, .string ⟨#[]⟩] 60
          rwa [show (w17.alloc (Obj.cells #[.int .i64 K, .int .i64 N, .string S, .slice v1 v2 v3, (.slice (some ⟨w17.heap.size + 1, 0, none⟩) 1 1)] 30)).heap.size = w17.heap.size + 1 from by simp] at this
        have hb1620 : Below W16.heap.size W16 ((w17.alloc (Obj.cells #[.int .i64 K, .int .i64 N, .string S, .slice v1 v2 v3, (.slice (some ⟨w17.heap.size + 1, 0, none⟩) 1 1)] 30)).alloc (Obj.cells #[.int .i64 (q : Int), .int .i64 0, .int .i64 1, .string ⟨#[]⟩] 60)) := hb17.trans (al20.mono hb17.size)
        have HVW : Hid (TrW 6 ((w17.alloc (Obj.cells #[.int .i64 K, .int .i64 N, .string S, .slice v1 v2 v3, (.slice (some ⟨w17.heap.size + 1, 0, none⟩) 1 1)] 30)).alloc (Obj.cells #[.int .i64 (q : Int), .int .i64 0, .int .i64 1, .string ⟨#[]⟩] 60)) (.agg #[.int .i64 K, .int .i64 N, .string S, .slice v1 v2 v3, (.slice (some ⟨w17.heap.size + 1, 0, none⟩) 1 1)]) (moreR t (q : Int))) := by
          have h1 := hOv.sm (Sm.below al20 fun y hy => (hAv.2 y hy).2)
          have h3 := more_rest h1 (q := (q : Int)) ⟨by omega, by omega⟩ HFIT.out.1.form BZ3
          rw [HKN.out.1, HKN.out.2.1, HKN.out.2.2] at h3
          exact h3
        have HUW : Hid (TrW 6 ((w17.alloc (Obj.cells #[.int .i64 K, .int .i64 N, .string S, .slice v1 v2 v3, (.slice (some ⟨w17.heap.size + 1, 0, none⟩) 1 1)] 30)).alloc (Obj.cells #[.int .i64 (q : Int), .int .i64 0, .int .i64 1, .string ⟨#[]⟩] 60)) (.agg #[.int .i64 K, .int .i64 N, .string S, (.slice na (x2 + 1) nc), .slice u4 u5 u6]) (moreE t (q : Int))) := by
          have h1 := HU16.out.1.sm (Sm.below hb1620 fun y hy => (HU16.out.2.1.2 y hy).2)
          rw [HKN.out.1, HKN.out.2.1, HKN.out.2.2] at h1
          exact ⟨_, rfl, h1.trR⟩
        have hb720 : Below W7.heap.size W7 ((w17.alloc (Obj.cells #[.int .i64 K, .int .i64 N, .string S, .slice v1 v2 v3, (.slice (some ⟨w17.heap.size + 1, 0, none⟩) 1 1)] 30)).alloc (Obj.cells #[.int .i64 (q : Int), .int .i64 0, .int .i64 1, .string ⟨#[]⟩] 60)) := HB16.out.trans (hb1620.mono HB16.out.size)
        have hbw20 : Below w.heap.size w ((w17.alloc (Obj.cells #[.int .i64 K, .int .i64 N, .string S, .slice v1 v2 v3, (.slice (some ⟨w17.heap.size + 1, 0, none⟩) 1 1)] 30)).alloc (Obj.cells #[.int .i64 (q : Int), .int .i64 0, .int .i64 1, .string ⟨#[]⟩] 60)) := hbw7.trans (hb720.mono hbw7.size)
        have BS20 := BS7.below hb720
        have B20 := B7.below hb720
        have BU20 := HU16.out.2.2.below hb1620
        have BV20 : Blk ((w17.alloc (Obj.cells #[.int .i64 K, .int .i64 N, .string S, .slice v1 v2 v3, (.slice (some ⟨w17.heap.size + 1, 0, none⟩) 1 1)] 30)).alloc (Obj.cells #[.int .i64 (q : Int), .int .i64 0, .int .i64 1, .string ⟨#[]⟩] 60)) w17.heap.size #[.int .i64 K, .int .i64 N, .string S, .slice v1 v2 v3, (.slice (some ⟨w17.heap.size + 1, 0, none⟩) 1 1)] 30 := (Blk.new w17 _ _).below ((Below.refl _ _).alloc (Nat.le_refl _) _)
        have HBX : Hid (Blk ((w17.alloc (Obj.cells #[.int .i64 K, .int .i64 N, .string S, .slice v1 v2 v3, (.slice (some ⟨w17.heap.size + 1, 0, none⟩) 1 1)] 30)).alloc (Obj.cells #[.int .i64 (q : Int), .int .i64 0, .int .i64 1, .string ⟨#[]⟩] 60)) b0 #[.string sn, .slice (some ⟨g, off, none⟩) mn mc, .slice ea en ec, .slice ta tn tc] 26 ∧ Blk ((w17.alloc (Obj.cells #[.int .i64 K, .int .i64 N, .string S, .slice v1 v2 v3, (.slice (some ⟨w17.heap.size + 1, 0, none⟩) 1 1)] 30)).alloc (Obj.cells #[.int .i64 (q : Int), .int .i64 0, .int .i64 1, .string ⟨#[]⟩] 60)) b4 #[.string mnm, .slice fa fl fc, .slice ra rl rc] 50 ∧ Blk ((w17.alloc (Obj.cells #[.int .i64 K, .int .i64 N, .string S, .slice v1 v2 v3, (.slice (some ⟨w17.heap.size + 1, 0, none⟩) 1 1)] 30)).alloc (Obj.cells #[.int .i64 (q : Int), .int .i64 0, .int .i64 1, .string ⟨#[]⟩] 60)) w17.heap.size #[.int .i64 K, .int .i64 N, .string S, .slice v1 v2 v3, (.slice (some ⟨w17.heap.size + 1, 0, none⟩) 1 1)] 30) := ⟨BS20, B20, BV20⟩
        have p3 := (BV19.cell 4).trans rfl
        have p4 := BV19.froz 4
        have p5 := BV19.lt
        have s0 := (BS20.cell 0).trans rfl
        have s1 := (BS20.cell 1).trans rfl
        have s2 := (BS20.cell 2).trans rfl
        have s3 := (BS20.cell 3).trans rfl
        have m0 := (B20.cell 0).trans rfl
        have j0 := (BU20.cell 0).trans rfl
        have j1 := (BU20.cell 1).trans rfl
        have j2 := (BU20.cell 2).trans rfl
        have j3 := (BU20.cell 3).trans rfl
        have j4 := (BU20.cell 4).trans rfl
        have HVU : Hid (Calls Tryz.prog 12 #[.agg #[.string sn, .slice (some ⟨g, off, none⟩) mn mc, .slice ea en ec, .slice ta tn tc], .string mnm, .agg #[.int .i64 K, .int .i64 N, .string S, (.slice na (x2 + 1) nc), .slice u4 u5 u6]] ((w17.alloc (Obj.cells #[.int .i64 K, .int .i64 N, .string S, .slice v1 v2 v3, (.slice (some ⟨w17.heap.size + 1, 0, none⟩) 1 1)] 30)).alloc (Obj.cells #[.int .i64 (q : Int), .int .i64 0, .int .i64 1, .string ⟨#[]⟩] 60)) fun e w' => e = .returned (.int .i64 7) ∧ Below ((w17.alloc (Obj.cells #[.int .i64 K, .int .i64 N, .string S, .slice v1 v2 v3, (.slice (some ⟨w17.heap.size + 1, 0, none⟩) 1 1)] 30)).alloc (Obj.cells #[.int .i64 (q : Int), .int .i64 0, .int .i64 1, .string ⟨#[]⟩] 60)).heap.size ((w17.alloc (Obj.cells #[.int .i64 K, .int .i64 N, .string S, .slice v1 v2 v3, (.slice (some ⟨w17.heap.size + 1, 0, none⟩) 1 1)] 30)).alloc (Obj.cells #[.int .i64 (q : Int), .int .i64 0, .int .i64 1, .string ⟨#[]⟩] 60)) w') := HVL.out _ _ _ (moreE t (q : Int)) 7 (HSC.out.below hbw20) HUW.out (by have h1 : cntN 6 (moreE t (q : Int)) ≤ cntN 6 t + 1 := moreE_cnt (n := 4); have h2 := HFIT.out.2; omega) (moreE_sm HFIT.out.1.sm (by have h1 := fit_len HFIT.out.1 (by rw [HFL2.out.1]; exact HFL2.out.2.2); omega)) (HFIT.out.1.moreE_valid (by decide) HA.out HFL2.out.2.1 (by omega) (by omega) HFN.out HLE.out)
        clear hOv hAv hb17 al19 al20 BV19 BZ3 hb1620 hb720 BS20 B20 BU20 BV20
        go_wp2_with fail
        refine HVU.out.mono ?_
        clear p3 p4 p5 s0 s1 s2 s3 m0 j0 j1 j2 j3 j4
        generalize ((w17.alloc (Obj.cells #[.int .i64 K, .int .i64 N, .string S, .slice v1 v2 v3, (.slice (some ⟨w17.heap.size + 1, 0, none⟩) 1 1)] 30)).alloc (Obj.cells #[.int .i64 (q : Int), .int .i64 0, .int .i64 1, .string ⟨#[]⟩] 60)) = W20 at *
        rintro e w21 ⟨rfl, hb21⟩
        have hbw21 : Below w.heap.size w w21 := hbw20.trans (hb21.mono hbw20.size)
        have BS21 := HBX.out.1.below hb21
        have B21 := HBX.out.2.1.below hb21
        have BV21 := HBX.out.2.2.below hb21
        have s0 := (BS21.cell 0).trans rfl
        have s1 := (BS21.cell 1).trans rfl
        have s2 := (BS21.cell 2).trans rfl
        have s3 := (BS21.cell 3).trans rfl
        have m0 := (B21.cell 0).trans rfl
        have j0 := (BV21.cell 0).trans rfl
        have j1 := (BV21.cell 1).trans rfl
        have j2 := (BV21.cell 2).trans rfl
        have j3 := (BV21.cell 3).trans rfl
        have j4 := (BV21.cell 4).trans rfl
        have HVV : Hid (Calls Tryz.prog 12 #[.agg #[.string sn, .slice (some ⟨g, off, none⟩) mn mc, .slice ea en ec, .slice ta tn tc], .string mnm, .agg #[.int .i64 K, .int .i64 N, .string S, .slice v1 v2 v3, (.slice (some ⟨w17.heap.size + 1, 0, none⟩) 1 1)]] w21 fun e w' => e = .returned (.int .i64 0) ∧ Below w21.heap.size w21 w') := HVL.out _ _ _ (moreR t (q : Int)) 0 (HSC.out.below hbw21) (HVW.out.cel (Cel.ofBelow hb21)) (by have h1 : cntN 6 (moreR t (q : Int)) = cntN 6 t := rfl; have h2 := HFIT.out.2; omega) (moreR_sm HFIT.out.1.sm) (HFIT.out.1.moreR_valid (by decide) HA.out HFL2.out.2.1 (by omega) (by omega) HFN.out HLE.out)
        clear BS21 B21 BV21 HVU hb21
        go_wp2_with fail
        refine HVV.out.mono ?_
        rintro e w22 ⟨rfl, hb22⟩
        have hbw22 : Below w.heap.size w w22 := hbw21.trans (hb22.mono hbw21.size)
        clear s0 s1 s2 s3 m0 j0 j1 j2 j3 j4 HVV hb22
        go_wp2_with fail
        refine (awake_any _).mono ?_
        rintro e wz ⟨rfl, hbz⟩
        have hbwz : Below w.heap.size w wz := hbw22.trans (hbz.mono hbw22.size)
        clear hbz
        go_wp2_with fail
        go_ret
        exact ⟨rfl, hbwz⟩
end Go.Proofs.YtiiegphbhfiffaaGreat
