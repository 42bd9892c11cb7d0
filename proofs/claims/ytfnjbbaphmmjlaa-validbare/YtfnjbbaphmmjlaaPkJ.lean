/- What Valid answers. -/
import Derived.Test.YtfnjbbaphmmjlaaPkF
import Derived.Test.YtfnjbbaphmmjlaaPkH
import Derived.Test.YtfnjbbaphmmjlaaPkI
import Derived.Test.YtfnjbbaphmmjlaaPkA
import Derived.Test.YtfnjbbaphmmjlaaPkC
namespace Go.Proofs.Ytfnjbbaphmmjlaa
open Go.ChangeShapes Go.WideShapes Go.ChangeAt Go.RowKit
set_option linter.unusedVariables false
set_option linter.unusedSimpArgs false
set_option maxRecDepth 20000

theorem TrW.v2 {n : Nat} {w : World} {v : Value} {t : Tr} (h : TrW n w v t) : TrV2 n w v t := by
  obtain ⟨r, h1, h2⟩ := h
  exact ⟨r, h1, h2.trQ⟩
set_option maxHeartbeats 4000000 in
theorem fits_any {s : ScS} {vs v : Value} {n : Nat} {t : Tr} {nm : ByteArray} {w : World} (hs : ScIn w vs s) (hw : ScW s) (hf : FewL s) (ht : TrW n w v t) (hn : n ≤ 60) (hc : cntN n t ≤ 1000) (hsm : SmN n t) :
    Calls Try.prog 11 #[vs, .string nm, v] w fun e w' => e = .returned (.int .i64 (validA n s nm t)) ∧ Below w.heap.size w w' := by
  have hmm := @run_makeMap Try.prog
  obtain ⟨X, hX⟩ : ∃ X, validA n s nm t = X := ⟨_, rfl⟩
  have HV : Hid (validA n s nm t = X) := hX
  rw [hX]
  obtain ⟨m, a1, c1, a2, c2, -, rfl, -⟩ := ht.open
  have hs' := hs
  obtain ⟨vm, ve, vt, rfl, hms, hen, hmt⟩ := hs
  obtain ⟨ma, mc, rfl, -⟩ := hms.open
  obtain ⟨ea, ec, rfl, -⟩ := hen.open
  obtain ⟨ta, tn, tc, rfl⟩ := row_slice hmt
  have HFL : Hid (∀ m ∈ s.msgs, m.fields.length ≤ 20 ∧ m.reserved.length ≤ 40) := hf.flds
  generalize s.msgs.length = mn at *
  generalize s.enums.length = en at *
  generalize t.es.length = n1 at *
  generalize t.rest.length = n2 at *
  obtain ⟨K, hK⟩ : ∃ z, t.kind = z := ⟨_, rfl⟩
  obtain ⟨N, hN⟩ : ∃ z, t.n = z := ⟨_, rfl⟩
  obtain ⟨S, hS⟩ : ∃ z, t.s = z := ⟨_, rfl⟩
  obtain ⟨sn, hsn⟩ : ∃ z, s.name = z := ⟨_, rfl⟩
  have HT3 : Hid (t.kind = K) := hK
  rw [hK, hN, hS] at ht ⊢
  rw [hsn] at hs' ⊢
  have HCK : Hid (∀ W, Below w.heap.size w W → Calls Try.prog 20 #[.agg #[.string sn, .slice ma mn mc, .slice ea en ec, .slice ta tn tc]] W fun e w' => e = .returned (.int .i64 (checkA s)) ∧ Below W.heap.size W w') := fun W hW => check_any (hs'.below hW) hw hf
  have HMG : Hid (∀ W, Below w.heap.size w W → Calls Try.prog 21 #[.agg #[.string sn, .slice ma mn mc, .slice ea en ec, .slice ta tn tc], .string nm] W fun e w' => ∃ vf vr, e = .returned (.tuple #[.agg #[.string ((msgOf s nm).getD zMs).name, vf, vr], .bool (msgOf s nm).isSome]) ∧ (∃ a n c, vf = .slice a n c) ∧ (∃ a n c, vr = .slice a n c) ∧ Below W.heap.size W w') := fun W hW => by
    refine (cmessage_any (hms.below hW) HFL.out).mono ?_
    rintro e w' ⟨vf, vr, rfl, h1, h2, h3⟩
    obtain ⟨a, c, rfl⟩ := own_form h1
    obtain ⟨a', c', rfl⟩ := own_form h2
    exact ⟨_, _, rfl, ⟨_, _, _, rfl⟩, ⟨_, _, _, rfl⟩, h3⟩
  have HVC : Hid (∀ W, Below w.heap.size w W → Calls Try.prog 22 #[.agg #[.int .i64 K, .int .i64 N, .string S, .slice a1 n1 c1, .slice a2 n2 c2]] W fun e w' => e = .returned (.bool (chkN n t)) ∧ Below W.heap.size W w') := fun W hW => vcheck_any n t _ W ((ht.cel (Cel.ofBelow hW)).v2) hn hc hsm
  have HME : Hid (∀ W b, Below w.heap.size w W → KnS s W b → Calls Try.prog 23 #[.agg #[.string sn, .slice ma mn mc, .slice ea en ec, .slice ta tn tc, .map (some b)], .string nm, .agg #[.int .i64 K, .int .i64 N, .string S, .slice a1 n1 c1, .slice a2 n2 c2]] W (MesP s (msgV n s nm t) b W)) := fun W b hW hk => message_any s sn ma ea ta mn mc en ec tn tc b HFL.out n t nm _ W (ht.cel (Cel.ofBelow hW)) hk (hs'.below hW)
  have BS : Blk ((w.alloc (Obj.cells #[.string sn, .slice ma mn mc, .slice ea en ec, .slice ta tn tc] 26)).alloc (Obj.cells #[.int .i64 K, .int .i64 N, .string S, .slice a1 n1 c1, .slice a2 n2 c2] 30)) w.heap.size #[.string sn, .slice ma mn mc, .slice ea en ec, .slice ta tn tc] 26 := (Blk.new w _ _).below ((Below.refl _ _).alloc (Nat.le_refl _) _)
  have BT : Blk ((w.alloc (Obj.cells #[.string sn, .slice ma mn mc, .slice ea en ec, .slice ta tn tc] 26)).alloc (Obj.cells #[.int .i64 K, .int .i64 N, .string S, .slice a1 n1 c1, .slice a2 n2 c2] 30)) (w.heap.size + 1) #[.int .i64 K, .int .i64 N, .string S, .slice a1 n1 c1, .slice a2 n2 c2] 30 := by
    have := Blk.new (w.alloc (Obj.cells #[.string sn, .slice ma mn mc, .slice ea en ec, .slice ta tn tc] 26)) #[.int .i64 K, .int .i64 N, .string S, .slice a1 n1 c1, .slice a2 n2 c2] 30
    rwa [show (w.alloc (Obj.cells #[.string sn, .slice ma mn mc, .slice ea en ec, .slice ta tn tc] 26)).heap.size = w.heap.size + 1 from by simp] at this
  have hbw : Below w.heap.size w ((w.alloc (Obj.cells #[.string sn, .slice ma mn mc, .slice ea en ec, .slice ta tn tc] 26)).alloc (Obj.cells #[.int .i64 K, .int .i64 N, .string S, .slice a1 n1 c1, .slice a2 n2 c2] 30)) := ((Below.refl _ _).alloc (Nat.le_refl _) _).alloc (by simp) _
  clear hX hK hN hS hsn hs' hms hen hmt ht hw hf hn hc hsm
  go_enter Try.func11, Try.ntmps11
  go_wp2_with fail
  refine (HCK.out _ hbw).mono ?_
  rintro ee w1 ⟨rfl, hb1⟩
  have hbw1 : Below w.heap.size w w1 := hbw.trans (hb1.mono hbw.size)
  have BS1 := BS.below hb1
  have BT1 := BT.below hb1
  clear hb1 hbw BS BT HCK
  obtain ⟨A, hA⟩ : ∃ z, checkA s = z := ⟨_, rfl⟩
  have HA : Hid (checkA s = A) := hA
  rw [hA]
  clear hA
  by_cases hA0 : A = 0
  rotate_left
  · have d : (A != 0) = true := by simpa using hA0
    have HX1 : Hid (1 = X) := (by rw [← HV.out, validA, HA.out, if_pos hA0] : 1 = X)
    clear hA0
    go_wp2_with fail
    go_ret
    exact ⟨congrArg (fun z => Ending.returned (Value.int .i64 z)) HX1.out, hbw1⟩
  · subst hA0
    have f0 := (BS1.cell 0).trans rfl
    have f1 := (BS1.cell 1).trans rfl
    have f2 := (BS1.cell 2).trans rfl
    have f3 := (BS1.cell 3).trans rfl
    go_wp2_with fail
    refine (HMG.out _ hbw1).mono ?_
    rintro ee w2 ⟨vf, vr, rfl, ⟨fa, fl, fc, rfl⟩, ⟨ra, rl, rc, rfl⟩, hb2⟩
    obtain ⟨mnm, hmnm⟩ : ∃ z, ((msgOf s nm).getD zMs).name = z := ⟨_, rfl⟩
    obtain ⟨ok, hok⟩ : ∃ z, (msgOf s nm).isSome = z := ⟨_, rfl⟩
    have HOK : Hid ((msgOf s nm).isSome = ok) := hok
    rw [hmnm, hok]
    have al3 : Below w2.heap.size w2 (w2.alloc (Obj.cells #[.string mnm, .slice fa fl fc, .slice ra rl rc] 47)) := (Below.refl _ _).alloc (Nat.le_refl _) _
    have hbw2 : Below w.heap.size w w2 := hbw1.trans (hb2.mono hbw1.size)
    have hbw3 : Below w.heap.size w (w2.alloc (Obj.cells #[.string mnm, .slice fa fl fc, .slice ra rl rc] 47)) := hbw2.trans (al3.mono hbw2.size)
    have BS3 := (BS1.below hb2).below al3
    have BT3 := (BT1.below hb2).below al3
    have HVC3 : Hid (Calls Try.prog 22 #[.agg #[.int .i64 K, .int .i64 N, .string S, .slice a1 n1 c1, .slice a2 n2 c2]] (w2.alloc (Obj.cells #[.string mnm, .slice fa fl fc, .slice ra rl rc] 47)) fun e w' => e = .returned (.bool (chkN n t)) ∧ Below (w2.alloc (Obj.cells #[.string mnm, .slice fa fl fc, .slice ra rl rc] 47)).heap.size (w2.alloc (Obj.cells #[.string mnm, .slice fa fl fc, .slice ra rl rc] 47)) w') := HVC.out _ hbw3
    clear f0 f1 f2 f3 hmnm hok hb2 hbw1 hbw2 al3 BS1 BT1
    cases ok with
    | false =>
      have HX1 : Hid (14 = X) := (by rw [← HV.out, validA, HA.out, if_neg (by simp), if_pos HOK.out] : 14 = X)
      go_wp2_with fail
      go_ret
      exact ⟨congrArg (fun z => Ending.returned (Value.int .i64 z)) HX1.out, hbw3⟩
    | true =>
      have t0 := (BT3.cell 0).trans rfl
      have t1 := (BT3.cell 1).trans rfl
      have t2 := (BT3.cell 2).trans rfl
      have t3 := (BT3.cell 3).trans rfl
      have t4 := (BT3.cell 4).trans rfl
      go_wp2_with fail
      refine HVC3.out.mono ?_
      rintro ee w4 ⟨rfl, hb4⟩
      have hbw4 : Below w.heap.size w w4 := hbw3.trans (hb4.mono hbw3.size)
      have BS4 := BS3.below hb4
      have BT4 := BT3.below hb4
      clear t0 t1 t2 t3 t4 hb4 hbw3 BS3 BT3 HVC3
      have t0 := (BT4.cell 0).trans rfl
      obtain ⟨C, hC⟩ : ∃ z, chkN n t = z := ⟨_, rfl⟩
      have HC : Hid (chkN n t = C) := hC
      rw [hC]
      clear hC
      cases C with
      | false =>
        have HX1 : Hid (1 = X) := (by rw [← HV.out, validA, HA.out, if_neg (by simp), if_neg (by rw [HOK.out]; simp), if_pos (.inl HC.out)] : 1 = X)
        go_wp2_with fail
        go_ret
        exact ⟨congrArg (fun z => Ending.returned (Value.int .i64 z)) HX1.out, hbw4⟩
      | true =>
        by_cases hK3 : K = 3
        rotate_left
        · have d : (K != 3) = true := by simpa using hK3
          have HX1 : Hid (1 = X) := (by rw [← HV.out, validA, HA.out, if_neg (by simp), if_neg (by rw [HOK.out]; simp), if_pos (.inr (by rw [HT3.out]; exact hK3))] : 1 = X)
          clear hK3
          go_wp2_with fail
          go_ret
          exact ⟨congrArg (fun z => Ending.returned (Value.int .i64 z)) HX1.out, hbw4⟩
        · have d : (K != 3) = false := by simpa using hK3
          have HX1 : Hid (msgV n s nm t = X) := (by rw [← HV.out, validA, HA.out, if_neg (by simp), if_neg (by rw [HOK.out]; simp), if_neg (by rw [HC.out, HT3.out]; simp [hK3])] : msgV n s nm t = X)
          have alm : Below w4.heap.size w4 (w4.alloc (.map #[] 0)) := (Below.refl _ _).alloc (Nat.le_refl _) _
          have hbw5 : Below w.heap.size w (w4.alloc (.map #[] 0)) := hbw4.trans (alm.mono hbw4.size)
          have HM5 : Hid (Calls Try.prog 23 #[.agg #[.string sn, .slice ma mn mc, .slice ea en ec, .slice ta tn tc, .map (some w4.heap.size)], .string nm, .agg #[.int .i64 K, .int .i64 N, .string S, .slice a1 n1 c1, .slice a2 n2 c2]] (w4.alloc (.map #[] 0)) (MesP s X w4.heap.size (w4.alloc (.map #[] 0)))) := (by
            have h1 := HME.out (w4.alloc (.map #[] 0)) w4.heap.size hbw5 (KnS.made s w4)
            rw [HX1.out] at h1
            exact h1 : Calls Try.prog _ _ _ _)
          have BT5 := BT4.below alm
          have f0 := (BS4.cell 0).trans rfl
          have f1 := (BS4.cell 1).trans rfl
          have f2 := (BS4.cell 2).trans rfl
          have f3 := (BS4.cell 3).trans rfl
          have u0 := (BT5.cell 0).trans rfl
          have u1 := (BT5.cell 1).trans rfl
          have u2 := (BT5.cell 2).trans rfl
          have u3 := (BT5.cell 3).trans rfl
          have u4 := (BT5.cell 4).trans rfl
          have HLE : Hid (w.heap.size ≤ w4.heap.size) := hbw4.size
          clear hK3 HX1 HME HMG HVC BS4 BT4 BT5 alm hbw4
          go_wp2_with fail
          refine Calls.mono HM5.out ?_
          rintro ee w6 ⟨rfl, hk6, -⟩
          have hbe : Below w.heap.size w w6 := hbw5.trans (hk6.toBelow hbw5.size (fun q e => by rw [e]; exact HLE.out))
          clear hk6 hbw5 f0 f1 f2 f3 u0 u1 u2 u3 u4 HM5
          go_wp2_with fail
          go_ret
          exact ⟨rfl, hbe⟩
end Go.Proofs.Ytfnjbbaphmmjlaa

/- A block of cells is a row. -/
namespace Go.Proofs.Ytfnjbbaphmmjlaa
open Go.ChangeShapes Go.WideShapes Go.ChangeAt Go.RowKit
set_option linter.unusedVariables false
set_option linter.unusedSimpArgs false
set_option maxRecDepth 20000

/-- A block of cells is a row. -/
theorem RowG.blk {w : World} {b : Nat} {cs : Array Value} {t : TypeId} {size n : Nat} {rs : List (List Value)} (h : Blk w b cs t) (hc : cs.toList = rs.flatten) (hl : ∀ r ∈ rs, r.length = size) (hn : rs.length = n) (hm : n ≤ 1000000) : RowG w (.slice (some ⟨b, 0, none⟩) n n) size rs := by
  subst hn
  refine ⟨some ⟨b, 0, none⟩, rs.length, rfl, Nat.le_refl _, by unfold maxLen; omega, (fun e => by cases e), fun _ => ⟨b, 0, rfl, fun i c u j hi hj => ?_⟩⟩
  rw [h.cell, ← Array.getElem?_toList, hc, Nat.zero_add]
  exact flat_get rs hl i c hi j u hj
theorem Blk.newAt {w : World} {b : Nat} {cs : Array Value} {t : TypeId} (h : w.heap.size = b) : Blk (w.alloc (.cells cs t)) b cs t := by subst h; exact Blk.new w cs t
theorem Blk.up {w : World} {b : Nat} {cs : Array Value} {t : TypeId} (h : Blk w b cs t) (o : Obj) : Blk (w.alloc o) b cs t := h.below ((Below.refl _ _).alloc (Nat.le_refl _) _)
end Go.Proofs.Ytfnjbbaphmmjlaa

/- What fieldOf, withoutEntry and Get answer. -/
namespace Go.Proofs.Ytfnjbbaphmmjlaa
open Go.ChangeShapes Go.WideShapes Go.ChangeAt Go.RowKit
set_option linter.unusedVariables false
set_option linter.unusedSimpArgs false
set_option maxRecDepth 20000

def fieldA (s : ScS) (nm : ByteArray) (tag : Int) : Option FlS := (msgOf s nm).bind fun m => fldOf m.fields tag
theorem fieldA_none {s : ScS} {nm : ByteArray} {tag : Int} (h : (msgOf s nm).isSome = false) : fieldA s nm tag = none := by
  cases hq : msgOf s nm with
  | none => rw [fieldA, hq]; rfl
  | some m => rw [hq] at h; cases h
theorem fieldA_some {s : ScS} {nm : ByteArray} {tag : Int} (h : (msgOf s nm).isSome = true) : fieldA s nm tag = fldOf ((msgOf s nm).getD zMs).fields tag := by
  cases hq : msgOf s nm with
  | none => rw [hq] at h; cases h
  | some m => rw [fieldA, hq]; rfl
set_option maxHeartbeats 4000000 in
theorem fieldOf_any {s : ScS} {vs : Value} {nm : ByteArray} {tag : Int} {w : World} (hs : ScIn w vs s) (hl : ∀ m ∈ s.msgs, m.fields.length ≤ 20 ∧ m.reserved.length ≤ 40) :
    Calls Try.prog 25 #[vs, .string nm, .int .i64 tag] w fun e w' => e = .returned (.tuple #[flV ((fieldA s nm tag).getD zeroF), .bool (fieldA s nm tag).isSome]) ∧ Below w.heap.size w w' := by
  obtain ⟨vm, ve, vt, rfl, hms, hen, hmt⟩ := hs
  obtain ⟨ma, mc, rfl, -⟩ := hms.open
  obtain ⟨ea, ec, rfl, -⟩ := hen.open
  obtain ⟨ta, tn, tc, rfl⟩ := row_slice hmt
  generalize s.msgs.length = mn at *
  generalize s.enums.length = en at *
  obtain ⟨sn, hsn⟩ : ∃ z, s.name = z := ⟨_, rfl⟩
  rw [hsn]
  have BR : Blk ((w.alloc (Obj.cells #[.string sn, .slice ma mn mc, .slice ea en ec, .slice ta tn tc] 26)).alloc (Obj.cells #[.string ⟨#[]⟩, .int .i64 0, .int .i64 0, .int .i64 0, .string ⟨#[]⟩] 49)) (w.heap.size + 1) #[.string ⟨#[]⟩, .int .i64 0, .int .i64 0, .int .i64 0, .string ⟨#[]⟩] 49 := by
    have := Blk.new (w.alloc (Obj.cells #[.string sn, .slice ma mn mc, .slice ea en ec, .slice ta tn tc] 26)) #[.string ⟨#[]⟩, .int .i64 0, .int .i64 0, .int .i64 0, .string ⟨#[]⟩] 49
    rwa [show (w.alloc (Obj.cells #[.string sn, .slice ma mn mc, .slice ea en ec, .slice ta tn tc] 26)).heap.size = w.heap.size + 1 from by simp] at this
  have hbw : Below w.heap.size w ((w.alloc (Obj.cells #[.string sn, .slice ma mn mc, .slice ea en ec, .slice ta tn tc] 26)).alloc (Obj.cells #[.string ⟨#[]⟩, .int .i64 0, .int .i64 0, .int .i64 0, .string ⟨#[]⟩] 49)) := ((Below.refl _ _).alloc (Nat.le_refl _) _).alloc (by simp) _
  have HMG : Hid (Calls Try.prog 21 #[.agg #[.string sn, .slice ma mn mc, .slice ea en ec, .slice ta tn tc], .string nm] ((w.alloc (Obj.cells #[.string sn, .slice ma mn mc, .slice ea en ec, .slice ta tn tc] 26)).alloc (Obj.cells #[.string ⟨#[]⟩, .int .i64 0, .int .i64 0, .int .i64 0, .string ⟨#[]⟩] 49)) fun e w' => ∃ vf vr, e = .returned (.tuple #[.agg #[.string ((msgOf s nm).getD zMs).name, vf, vr], .bool (msgOf s nm).isSome]) ∧ w'.ownsRow ((w.alloc (Obj.cells #[.string sn, .slice ma mn mc, .slice ea en ec, .slice ta tn tc] 26)).alloc (Obj.cells #[.string ⟨#[]⟩, .int .i64 0, .int .i64 0, .int .i64 0, .string ⟨#[]⟩] 49)).heap.size 49 5 vf ((msgOf s nm).getD zMs).fields.length (flRows ((msgOf s nm).getD zMs).fields).flatten ∧ w'.ownsRow ((w.alloc (Obj.cells #[.string sn, .slice ma mn mc, .slice ea en ec, .slice ta tn tc] 26)).alloc (Obj.cells #[.string ⟨#[]⟩, .int .i64 0, .int .i64 0, .int .i64 0, .string ⟨#[]⟩] 49)).heap.size 3 1 vr ((msgOf s nm).getD zMs).reserved.length (inRows ((msgOf s nm).getD zMs).reserved).flatten ∧ Below ((w.alloc (Obj.cells #[.string sn, .slice ma mn mc, .slice ea en ec, .slice ta tn tc] 26)).alloc (Obj.cells #[.string ⟨#[]⟩, .int .i64 0, .int .i64 0, .int .i64 0, .string ⟨#[]⟩] 49)).heap.size ((w.alloc (Obj.cells #[.string sn, .slice ma mn mc, .slice ea en ec, .slice ta tn tc] 26)).alloc (Obj.cells #[.string ⟨#[]⟩, .int .i64 0, .int .i64 0, .int .i64 0, .string ⟨#[]⟩] 49)) w') := cmessage_any (hms.below hbw) hl
  clear hms hen hmt hsn
  obtain ⟨ok, hok⟩ : ∃ z, (msgOf s nm).isSome = z := ⟨_, rfl⟩
  have HOK : Hid ((msgOf s nm).isSome = ok) := hok
  obtain ⟨fs, hfs⟩ : ∃ z, ((msgOf s nm).getD zMs).fields = z := ⟨_, rfl⟩
  have HFS : Hid (((msgOf s nm).getD zMs).fields = fs) := hfs
  obtain ⟨mnm, hmnm⟩ : ∃ z, ((msgOf s nm).getD zMs).name = z := ⟨_, rfl⟩
  rw [hok, hfs, hmnm] at HMG
  obtain ⟨F, hF⟩ : ∃ z, fieldA s nm tag = z := ⟨_, rfl⟩
  have HF : Hid (fieldA s nm tag = F) := hF
  rw [hF]
  clear hok hfs hmnm hF
  cases ok with
  | false =>
    obtain rfl : F = none := by rw [← HF.out, fieldA_none HOK.out]
    simp only [flV, zeroF, Option.getD_none, Option.isSome_none]
    go_enter Try.func25, Try.ntmps25
    go_wp2_with fail
    refine HMG.out.mono ?_
    rintro ee w2 ⟨vf, vr, rfl, hof, hor, hb2⟩
    obtain ⟨fa, fc, hvf⟩ := own_form hof
    obtain ⟨ra, rc, hvr⟩ := own_form hor
    subst hvf hvr
    generalize ((msgOf s nm).getD zMs).reserved.length = rl at *
    generalize fs.length = fl at *
    have al3 : Below w2.heap.size w2 (w2.alloc (Obj.cells #[.string mnm, .slice fa fl fc, .slice ra rl rc] 47)) := (Below.refl _ _).alloc (Nat.le_refl _) _
    have hbw2 : Below w.heap.size w w2 := hbw.trans (hb2.mono hbw.size)
    have hbw3 : Below w.heap.size w (w2.alloc (Obj.cells #[.string mnm, .slice fa fl fc, .slice ra rl rc] 47)) := hbw2.trans (al3.mono hbw2.size)
    have BR3 := (BR.below hb2).below al3
    have r0 := (BR3.cell 0).trans rfl
    have z0 := BR3.froz 0
    have r1 := (BR3.cell 1).trans rfl
    have z1 := BR3.froz 1
    have r2 := (BR3.cell 2).trans rfl
    have z2 := BR3.froz 2
    have r3 := (BR3.cell 3).trans rfl
    have z3 := BR3.froz 3
    have r4 := (BR3.cell 4).trans rfl
    have z4 := BR3.froz 4
    clear hof hor hb2 hbw hbw2 al3 BR BR3 HMG
    go_wp2_with fail
    refine bodyPost_ret (results_two rfl _ _ _ ⟨w.heap.size + 1, 0, none⟩ (.agg #[.string ⟨#[]⟩, .int .i64 0, .int .i64 0, .int .i64 0, .string ⟨#[]⟩]) (by go_simp) (by go_simp)) rfl ⟨rfl, ?_⟩
    repeat' first | exact hbw3 | refine Below.setCell ?_ (by simp) _
  | true =>
    go_enter Try.func25, Try.ntmps25
    go_wp2_with fail
    refine HMG.out.mono ?_
    rintro ee w2 ⟨vf, vr, rfl, hof, hor, hb2⟩
    have hrf : RowG w2 vf 5 (flRows fs) := (RowG.own (flr_len5 fs) (by decide) hof).1
    obtain ⟨fa, fc, hvf⟩ := own_form hof
    obtain ⟨ra, rc, hvr⟩ := own_form hor
    subst hvf hvr
    obtain ⟨rl, hrl⟩ : ∃ z, ((msgOf s nm).getD zMs).reserved.length = z := ⟨_, rfl⟩
    rw [hrl]
    have al3 : Below w2.heap.size w2 (w2.alloc (Obj.cells #[.string mnm, .slice fa fs.length fc, .slice ra rl rc] 47)) := (Below.refl _ _).alloc (Nat.le_refl _) _
    have hbw2 : Below w.heap.size w w2 := hbw.trans (hb2.mono hbw.size)
    have hbw3 : Below w.heap.size w (w2.alloc (Obj.cells #[.string mnm, .slice fa fs.length fc, .slice ra rl rc] 47)) := hbw2.trans (al3.mono hbw2.size)
    have BR3 := (BR.below hb2).below al3
    have HFC : Hid (Calls Try.prog 47 #[.agg #[.string mnm, .slice fa fs.length fc, .slice ra rl rc], .int .i64 tag] (w2.alloc (Obj.cells #[.string mnm, .slice fa fs.length fc, .slice ra rl rc] 47)) fun e' w' => e' = .returned (.tuple #[flV (F.getD zeroF), .bool F.isSome]) ∧ Below (w2.alloc (Obj.cells #[.string mnm, .slice fa fs.length fc, .slice ra rl rc] 47)).heap.size (w2.alloc (Obj.cells #[.string mnm, .slice fa fs.length fc, .slice ra rl rc] 47)) w') := (by
      have h1 := cfield_any (snm := mnm) (nm := tag) (am := ra) (M := rl) (cm := rc) (hrf.below al3)
      have h2 : (fs.find? fun m => decide (m.tag = tag)) = F := by rw [← HF.out, fieldA_some HOK.out, HFS.out]; rfl
      rw [h2] at h1
      exact h1 : Calls Try.prog _ _ _ _)
    clear hof hor hb2 hbw hbw2 al3 BR HMG hrf hrl
    generalize fs.length = fl at *
    go_wp2_with fail
    refine HFC.out.mono ?_
    rintro ee w4 ⟨rfl, hb4⟩
    have hbw4 : Below w.heap.size w w4 := hbw3.trans (hb4.mono hbw3.size)
    have BR4 := BR3.below hb4
    have r0 := (BR4.cell 0).trans rfl
    have z0 := BR4.froz 0
    have r1 := (BR4.cell 1).trans rfl
    have z1 := BR4.froz 1
    have r2 := (BR4.cell 2).trans rfl
    have z2 := BR4.froz 2
    have r3 := (BR4.cell 3).trans rfl
    have z3 := BR4.froz 3
    have r4 := (BR4.cell 4).trans rfl
    have z4 := BR4.froz 4
    clear hb4 hbw3 BR3 BR4 HFC
    obtain ⟨Y, hY⟩ : ∃ z, F.getD zeroF = z := ⟨_, rfl⟩
    have HY : Hid (F.getD zeroF = Y) := hY
    rw [hY]
    clear hY
    obtain ⟨y1, y2, y3, y4, y5⟩ := Y
    simp only [flV]
    go_wp2_with fail
    refine bodyPost_ret (results_two rfl _ _ _ ⟨w.heap.size + 1, 0, none⟩ (.agg #[.string y1, .int .i64 y2, .int .i64 y3, .int .i64 y4, .string y5]) (by go_simp) (by go_simp)) rfl ⟨ret_two (by rw [HY.out]; rfl) rfl, ?_⟩
    repeat' first | exact hbw4 | refine Below.setCell ?_ (by simp) _
/-- What a message has of a field of which it has no entry. -/
def zeroL (f : FlS) : List Tr := if f.label = 1 ∧ kindT f.kind ≠ 0 then [⟨kindT f.kind, 0, ⟨#[]⟩, [], []⟩] else []
theorem kindT_64 (k : Int) : Is64 (kindT k) := by
  unfold kindT
  split
  · exact ⟨by decide, by decide⟩
  · split
    · exact ⟨by decide, by decide⟩
    · split
      · exact ⟨by decide, by decide⟩
      · exact ⟨by decide, by decide⟩
set_option maxHeartbeats 2000000 in
theorem without_any (f : FlS) (n : Nat) (w : World) : Calls Try.prog 27 #[flV f] w fun e w' => ∃ r, e = .returned r ∧ TrsR (n + 1) w' r (zeroL f) ∧ Below w.heap.size w w' := by
  obtain ⟨y1, y2, y3, y4, y5⟩ := f
  obtain ⟨kt, hkt⟩ : ∃ z, kindT y4 = z := ⟨_, rfl⟩
  have HKT : Hid (kindT y4 = kt) := hkt
  have al : Below w.heap.size w (w.alloc (Obj.cells #[.string y1, .int .i64 y2, .int .i64 y3, .int .i64 y4, .string y5] 49)) := (Below.refl _ _).alloc (Nat.le_refl _) _
  have BL : Blk (w.alloc (Obj.cells #[.string y1, .int .i64 y2, .int .i64 y3, .int .i64 y4, .string y5] 49)) w.heap.size #[.string y1, .int .i64 y2, .int .i64 y3, .int .i64 y4, .string y5] 49 := Blk.new w _ _
  have HK : Hid (Calls Try.prog 48 #[.agg #[.int .i64 y4, .string y5]] (w.alloc (Obj.cells #[.string y1, .int .i64 y2, .int .i64 y3, .int .i64 y4, .string y5] 49)) fun e w' => e = .returned (.int .i64 kt) ∧ Below (w.alloc (Obj.cells #[.string y1, .int .i64 y2, .int .i64 y3, .int .i64 y4, .string y5] 49)).heap.size (w.alloc (Obj.cells #[.string y1, .int .i64 y2, .int .i64 y3, .int .i64 y4, .string y5] 49)) w') := (by have h1 := kindOf_any y4 y5 (w.alloc (Obj.cells #[.string y1, .int .i64 y2, .int .i64 y3, .int .i64 y4, .string y5] 49)); rw [hkt] at h1; exact h1 : Calls Try.prog _ _ _ _)
  simp only [flV]
  clear hkt
  go_enter Try.func27, Try.ntmps27
  go_wp2_with fail
  refine HK.out.mono ?_
  rintro ee w1 ⟨rfl, hb1⟩
  have hbw : Below w.heap.size w w1 := al.trans (hb1.mono al.size)
  have BL1 := BL.below hb1
  have l2 := (BL1.cell 2).trans rfl
  clear hb1 al BL BL1 HK
  have ZN : Hid (¬ (y3 = 1 ∧ kt ≠ 0) → zeroL ⟨y1, y2, y3, y4, y5⟩ = []) := fun h => by rw [zeroL, if_neg]; rw [HKT.out]; exact h
  by_cases h1 : y3 = 1
  · have d1 : (y3 == 1) = true := by simpa using h1
    by_cases h2 : kt = 0
    · have d2 : (kt != 0) = false := by simpa using h2
      have HZ : Hid (zeroL ⟨y1, y2, y3, y4, y5⟩ = []) := ZN.out (by simp [h2])
      clear h1 h2 ZN
      go_wp2_with fail
      go_ret
      exact ⟨_, rfl, by rw [HZ.out]; exact RowP.nil _ _ _, hbw⟩
    · have d2 : (kt != 0) = true := by simpa using h2
      have HZ : Hid (zeroL ⟨y1, y2, y3, y4, y5⟩ = [⟨kt, 0, ⟨#[]⟩, [], []⟩]) := (by rw [zeroL, if_pos (by simp only; rw [HKT.out]; exact ⟨h1, h2⟩)]; simp only; rw [HKT.out] : zeroL ⟨y1, y2, y3, y4, y5⟩ = [⟨kt, 0, ⟨#[]⟩, [], []⟩])
      have BZ : Blk (w1.alloc (Obj.cells #[.int .i64 kt, .int .i64 0, .string ⟨#[]⟩, .slice none 0 0, .slice none 0 0] 30)) w1.heap.size #[.int .i64 kt, .int .i64 0, .string ⟨#[]⟩, .slice none 0 0, .slice none 0 0] 30 := Blk.new w1 _ _
      have HRW : Hid (TrsR (n + 1) (w1.alloc (Obj.cells #[.int .i64 kt, .int .i64 0, .string ⟨#[]⟩, .slice none 0 0, .slice none 0 0] 30)) (.slice (some ⟨w1.heap.size, 0, none⟩) 1 1) [⟨kt, 0, ⟨#[]⟩, [], []⟩]) := (by
        refine ⟨[[.int .i64 kt, .int .i64 0, .string ⟨#[]⟩, .slice none 0 0, .slice none 0 0]], RowG.blk BZ rfl (fun r hr => by simp at hr; subst hr; rfl) rfl (by decide), rfl, fun i x hx => ?_⟩
        match i, hx with
        | 0, hx =>
          simp at hx
          subst hx
          exact ⟨_, rfl, .slice none 0 0, .slice none 0 0, rfl, by have := kindT_64 y4; rw [HKT.out] at this; exact this, ⟨by show (-9223372036854775808 : Int) ≤ 0; decide, by show (0 : Int) ≤ 9223372036854775807; decide⟩, Nat.zero_le _, (fun f hf => by simp at hf), RowG.nil _ _, RowP.nil _ _ _, (fun g off n cap e => by cases e), fun g off n cap e => by cases e⟩
        | i + 1, hx => simp at hx : TrsR (n + 1) _ _ _)
      have hbe : Below w.heap.size w (w1.alloc (Obj.cells #[.int .i64 kt, .int .i64 0, .string ⟨#[]⟩, .slice none 0 0, .slice none 0 0] 30)) := hbw.alloc hbw.size _
      clear h1 h2 ZN BZ
      go_wp2_with fail
      go_ret
      exact ⟨_, rfl, by rw [HZ.out]; exact HRW.out, hbe⟩
  · have d1 : (y3 == 1) = false := by simpa using h1
    have HZ : Hid (zeroL ⟨y1, y2, y3, y4, y5⟩ = []) := ZN.out (by simp [h1])
    clear h1 ZN
    go_wp2_with fail
    go_ret
    exact ⟨_, rfl, by rw [HZ.out]; exact RowP.nil _ _ _, hbw⟩
/-- What stands under a tag, by Get. -/
def undL (es : List (Int × List Tr)) (tag : Int) : Option (List Tr) := (es.find? fun e => e.1 == tag).map (·.2)
def getA (s : ScS) (nm : ByteArray) (t : Tr) (tag : Int) : Option (List Tr) :=
  match fieldA s nm tag with
  | none => none
  | some f => if t.kind ≠ 3 then none else some ((undL t.es tag).getD (zeroL f))
theorem undL_step {es : List (Int × List Tr)} {i : Nat} {x : Int × List Tr} {tag : Int} (h : es[i]? = some x) (hn : ∀ e ∈ es.take i, e.1 ≠ tag) (hx : x.1 = tag) : undL es tag = some x.2 := by
  obtain ⟨hl, rfl⟩ := List.getElem?_eq_some_iff.1 h
  have h1 : es = es.take i ++ (es[i] :: es.drop (i + 1)) := by rw [← List.drop_eq_getElem_cons hl, List.take_append_drop]
  have h2 : (es.take i).find? (fun e => e.1 == tag) = none := by
    rw [List.find?_eq_none]
    intro e he
    simpa using hn e he
  have h3 : es.find? (fun e => e.1 == tag) = some es[i] := by
    conv => lhs; rw [h1]
    rw [List.find?_append, h2, Option.none_or, List.find?_cons_of_pos (by simpa using hx)]
  rw [undL, h3]
  rfl
theorem undL_no {es : List (Int × List Tr)} {tag : Int} (hn : ∀ e ∈ es, e.1 ≠ tag) : undL es tag = none := by
  have h2 : es.find? (fun e => e.1 == tag) = none := by
    rw [List.find?_eq_none]
    intro e he
    simpa using hn e he
  rw [undL, h2]
  rfl
/-- What Get answers. -/
def GetP (n : Nat) (s : ScS) (nm : ByteArray) (t : Tr) (tag : Int) (w : World) (e : Ending) (w' : World) : Prop := ∃ r, e = .returned (.tuple #[r, .bool (getA s nm t tag).isSome]) ∧ TrsR (n + 1) w' r ((getA s nm t tag).getD []) ∧ Below w.heap.size w w'
set_option maxHeartbeats 4000000 in
theorem get_step (n : Nat) {s : ScS} {vs v : Value} {t : Tr} {nm : ByteArray} {tag : Int} {w : World} (hs : ScIn w vs s) (hl : ∀ m ∈ s.msgs, m.fields.length ≤ 20 ∧ m.reserved.length ≤ 40) (ht : TrW (n + 2) w v t)
    (HC : ∀ (e : Int × List Tr) (u : Value) (W : World), e ∈ t.es → e.1 = tag → TrsR (n + 1) W u e.2 → Calls Try.prog 26 #[u] W fun e' w' => ∃ r, e' = .returned r ∧ TrsR (n + 1) w' r e.2 ∧ Below W.heap.size W w') :
    Calls Try.prog 16 #[vs, .string nm, v, .int .i64 tag] w (GetP n s nm t tag w) := by
  obtain ⟨m, a1, c1, a2, c2, hmn, rfl, -, -, -, u1, u2, -, -, -, -, -, he, -⟩ := ht.open
  obtain rfl : m = n + 1 := by omega
  have hs' := hs
  obtain ⟨vm, ve, vt, rfl, hms, hen, hmt⟩ := hs
  obtain ⟨ma, mc, rfl, -⟩ := hms.open
  obtain ⟨ea, ec, rfl, -⟩ := hen.open
  obtain ⟨ta, tn, tc, rfl⟩ := row_slice hmt
  generalize s.msgs.length = mn at *
  generalize s.enums.length = en at *
  obtain ⟨n1, hn1⟩ : ∃ z, t.es.length = z := ⟨_, rfl⟩
  rw [hn1] at u1 he ⊢
  have HN1 : Hid (t.es.length = n1) := hn1
  generalize t.rest.length = n2 at *
  obtain ⟨K, hK⟩ : ∃ z, t.kind = z := ⟨_, rfl⟩
  have HK : Hid (t.kind = K) := hK
  generalize t.n = N at *
  generalize t.s = S at *
  obtain ⟨sn, hsn⟩ : ∃ z, s.name = z := ⟨_, rfl⟩
  rw [hK]
  rw [hsn] at hs' ⊢
  unfold maxLen at u2
  have BS : Blk ((w.alloc (Obj.cells #[.string sn, .slice ma mn mc, .slice ea en ec, .slice ta tn tc] 26)).alloc (Obj.cells #[.int .i64 K, .int .i64 N, .string S, .slice a1 n1 c1, .slice a2 n2 c2] 30)) w.heap.size #[.string sn, .slice ma mn mc, .slice ea en ec, .slice ta tn tc] 26 := (Blk.new w _ _).below ((Below.refl _ _).alloc (Nat.le_refl _) _)
  have BT : Blk ((w.alloc (Obj.cells #[.string sn, .slice ma mn mc, .slice ea en ec, .slice ta tn tc] 26)).alloc (Obj.cells #[.int .i64 K, .int .i64 N, .string S, .slice a1 n1 c1, .slice a2 n2 c2] 30)) (w.heap.size + 1) #[.int .i64 K, .int .i64 N, .string S, .slice a1 n1 c1, .slice a2 n2 c2] 30 := by
    have := Blk.new (w.alloc (Obj.cells #[.string sn, .slice ma mn mc, .slice ea en ec, .slice ta tn tc] 26)) #[.int .i64 K, .int .i64 N, .string S, .slice a1 n1 c1, .slice a2 n2 c2] 30
    rwa [show (w.alloc (Obj.cells #[.string sn, .slice ma mn mc, .slice ea en ec, .slice ta tn tc] 26)).heap.size = w.heap.size + 1 from by simp] at this
  have hbw : Below w.heap.size w ((w.alloc (Obj.cells #[.string sn, .slice ma mn mc, .slice ea en ec, .slice ta tn tc] 26)).alloc (Obj.cells #[.int .i64 K, .int .i64 N, .string S, .slice a1 n1 c1, .slice a2 n2 c2] 30)) := ((Below.refl _ _).alloc (Nat.le_refl _) _).alloc (by simp) _
  have HFO : Hid (Calls Try.prog 25 #[.agg #[.string sn, .slice ma mn mc, .slice ea en ec, .slice ta tn tc], .string nm, .int .i64 tag] ((w.alloc (Obj.cells #[.string sn, .slice ma mn mc, .slice ea en ec, .slice ta tn tc] 26)).alloc (Obj.cells #[.int .i64 K, .int .i64 N, .string S, .slice a1 n1 c1, .slice a2 n2 c2] 30)) fun e w' => e = .returned (.tuple #[flV ((fieldA s nm tag).getD zeroF), .bool (fieldA s nm tag).isSome]) ∧ Below ((w.alloc (Obj.cells #[.string sn, .slice ma mn mc, .slice ea en ec, .slice ta tn tc] 26)).alloc (Obj.cells #[.int .i64 K, .int .i64 N, .string S, .slice a1 n1 c1, .slice a2 n2 c2] 30)).heap.size ((w.alloc (Obj.cells #[.string sn, .slice ma mn mc, .slice ea en ec, .slice ta tn tc] 26)).alloc (Obj.cells #[.int .i64 K, .int .i64 N, .string S, .slice a1 n1 c1, .slice a2 n2 c2] 30)) w') := fieldOf_any (hs'.below hbw) hl
  have HE : Hid (EnsR (n + 1) w (.slice a1 n1 c1) t.es) := he
  have HCO : Hid (∀ (e : Int × List Tr) (u : Value) (W : World), e ∈ t.es → e.1 = tag → TrsR (n + 1) W u e.2 → Calls Try.prog 26 #[u] W fun e' w' => ∃ r, e' = .returned r ∧ TrsR (n + 1) w' r e.2 ∧ Below W.heap.size W w') := HC
  obtain ⟨F, hF⟩ : ∃ z, fieldA s nm tag = z := ⟨_, rfl⟩
  have HF : Hid (fieldA s nm tag = F) := hF
  rw [hF] at HFO
  obtain ⟨Y, hY⟩ : ∃ z, F.getD zeroF = z := ⟨_, rfl⟩
  have HY : Hid (F.getD zeroF = Y) := hY
  rw [hY] at HFO
  obtain ⟨y1, y2, y3, y4, y5⟩ := Y
  simp only [flV] at HFO
  clear hF hY hK hsn hs' hms hen hmt ht he hn1 HC hmn
  go_enter Try.func16, Try.ntmps16
  go_wp2_with fail
  refine HFO.out.mono ?_
  rintro ee w1 ⟨rfl, hb1⟩
  have hbw1 : Below w.heap.size w w1 := hbw.trans (hb1.mono hbw.size)
  have al2 : Below w1.heap.size w1 (w1.alloc (Obj.cells #[.string y1, .int .i64 y2, .int .i64 y3, .int .i64 y4, .string y5] 49)) := (Below.refl _ _).alloc (Nat.le_refl _) _
  have hbw2 : Below w.heap.size w (w1.alloc (Obj.cells #[.string y1, .int .i64 y2, .int .i64 y3, .int .i64 y4, .string y5] 49)) := hbw1.trans (al2.mono hbw1.size)
  have BT2 := (BT.below hb1).below al2
  have BL2 : Blk (w1.alloc (Obj.cells #[.string y1, .int .i64 y2, .int .i64 y3, .int .i64 y4, .string y5] 49)) w1.heap.size #[.string y1, .int .i64 y2, .int .i64 y3, .int .i64 y4, .string y5] 49 := Blk.new w1 _ _
  have HE2 : Hid (EnsR (n + 1) (w1.alloc (Obj.cells #[.string y1, .int .i64 y2, .int .i64 y3, .int .i64 y4, .string y5] 49)) (.slice a1 n1 c1) t.es) := HE.out.celE (Cel.ofBelow hbw2)
  have t0 := (BT2.cell 0).trans rfl
  have t3 := (BT2.cell 3).trans rfl
  clear hb1 hbw hbw1 al2 BS BT HFO HE
  cases F with
  | none =>
    have HG : Hid (getA s nm t tag = none) := (by rw [getA, HF.out] : getA s nm t tag = none)
    simp only [Option.isSome_none]
    go_wp2_with fail
    go_ret2
    exact ⟨_, by rw [HG.out]; rfl, by rw [HG.out]; exact RowP.nil _ _ _, hbw2⟩
  | some f =>
    obtain rfl : f = ⟨y1, y2, y3, y4, y5⟩ := by have := HY.out; simpa using this
    simp only [Option.isSome_some]
    by_cases hK3 : K = 3
    rotate_left
    · have d : (K != 3) = true := by simpa using hK3
      have HG : Hid (getA s nm t tag = none) := (by rw [getA, HF.out]; simp only; rw [if_pos (by rw [HK.out]; exact hK3)] : getA s nm t tag = none)
      clear hK3
      go_wp2_with fail
      go_ret2
      exact ⟨_, by rw [HG.out]; rfl, by rw [HG.out]; exact RowP.nil _ _ _, hbw2⟩
    · have d : (K != 3) = false := by simpa using hK3
      have HG : Hid (getA s nm t tag = some ((undL t.es tag).getD (zeroL ⟨y1, y2, y3, y4, y5⟩))) := (by rw [getA, HF.out]; simp only; rw [if_neg (by rw [HK.out]; simpa using hK3)] : getA s nm t tag = some _)
      clear hK3
      go_wp2_with fail
      clear t0 t3 d
      generalize (w1.alloc (Obj.cells #[.string y1, .int .i64 y2, .int .i64 y3, .int .i64 y4, .string y5] 49)) = W2 at *
      obtain ⟨bL, hbL⟩ : ∃ z, w1.heap.size = z := ⟨_, rfl⟩
      rw [hbL] at BL2
      simp only [hbL]
      clear hbL BT2
      go_loopw [31] (fun iv wr => ∃ i : Nat, iv = .int .i64 (i : Int) ∧ i ≤ n1 ∧ Hid (∀ e ∈ t.es.take i, e.1 ≠ tag) ∧ Below W2.heap.size W2 wr) (fun iv _ => n1 - (intOf iv).toNat)
      case atStart => exact ⟨0, rfl, by omega, (by simp : ∀ e ∈ t.es.take 0, e.1 ≠ tag), Below.refl _ _⟩
      case round =>
        obtain ⟨i, rfl, hi, HI, hbel⟩ := hrel
        by_cases hlt : i < n1
        · obtain ⟨x, hx⟩ : ∃ r, t.es[i]? = some r := ⟨_, List.getElem?_eq_getElem (by rw [HN1.out]; exact hlt)⟩
          obtain ⟨gx, ox, xa, xc, rfl, y0, y1', -, hxt, hxc, hxm⟩ := ensR_get (HE2.out.celE (Cel.ofBelow hbel)) hx
          have al : Below wr.heap.size wr (wr.alloc (Obj.cells #[.int .i64 x.1, .slice xa x.2.length xc] 61)) := (Below.refl _ _).alloc (Nat.le_refl _) _
          have hb5 : Below W2.heap.size W2 (wr.alloc (Obj.cells #[.int .i64 x.1, .slice xa x.2.length xc] 61)) := hbel.trans (al.mono hbel.size)
          by_cases hxt' : x.1 = tag
          · have HCC : Hid (Calls Try.prog 26 #[.slice xa x.2.length xc] (wr.alloc (Obj.cells #[.int .i64 x.1, .slice xa x.2.length xc] 61)) fun e' w' => ∃ r, e' = .returned r ∧ TrsR (n + 1) w' r x.2 ∧ Below (wr.alloc (Obj.cells #[.int .i64 x.1, .slice xa x.2.length xc] 61)).heap.size (wr.alloc (Obj.cells #[.int .i64 x.1, .slice xa x.2.length xc] 61)) w') := HCO.out x _ _ (List.mem_of_getElem? hx) hxt' (hxt.celT (Cel.ofBelow al))
            have HG2 : Hid (getA s nm t tag = some x.2) := (by rw [HG.out, undL_step hx HI.out hxt']; rfl : getA s nm t tag = some x.2)
            have hq : (x.1 == tag) = true := by simpa using hxt'
            obtain ⟨Xl, hXl⟩ : ∃ z, x.2.length = z := ⟨_, rfl⟩
            obtain ⟨xt, hxt1⟩ : ∃ z, x.1 = z := ⟨_, rfl⟩
            rw [hXl, hxt1] at HCC al hb5
            rw [hxt1] at y0 hq
            rw [hXl] at y1'
            clear hx hxt hxt' HI HG hXl hxt1 hxc hxm
            go_wp2_with fail
            refine HCC.out.mono ?_
            rintro ee w6 ⟨r, rfl, hr6, hb6⟩
            have HR6 : Hid (TrsR (n + 1) w6 r x.2) := hr6
            have hbe : Below w.heap.size w w6 := hbw2.trans ((hb5.trans (hb6.mono hb5.size)).mono hbw2.size)
            obtain ⟨qa, qc, hqr, -⟩ := RowP.open hr6
            subst hqr
            clear hr6 hb6 hb5 HCC y0 y1' al hbel hq
            generalize x.2.length = Ql at *
            go_wp2_with fail
            go_ret2
            exact ⟨_, by rw [HG2.out]; rfl, by rw [HG2.out]; exact HR6.out, hbe⟩
          · have hq : (x.1 == tag) = false := by simpa using hxt'
            have HI2 : Hid (∀ e ∈ t.es.take (i + 1), e.1 ≠ tag) := (by
              obtain ⟨hl', e'⟩ := List.getElem?_eq_some_iff.1 hx
              rw [List.take_succ_eq_append_getElem hl', e']
              intro e he
              rcases List.mem_append.1 he with he | he
              · exact HI.out e he
              · obtain rfl : e = x := by simpa using he
                exact hxt' : ∀ e ∈ t.es.take (i + 1), e.1 ≠ tag)
            generalize x.2.length = Xl at *
            generalize x.1 = xt at *
            clear hx hxt hxt' HI
            go_wp2_with fail
            clear y0 y1' al hbel hq
            go_roundw
            case rel => exact ⟨i + 1, by go_num, by omega, HI2, hb5⟩
            case measure => simp [intOf]; omega
        · have HG2 : Hid (getA s nm t tag = some (zeroL ⟨y1, y2, y3, y4, y5⟩)) := (by
            have h1 := HI.out
            rw [List.take_of_length_le (by rw [HN1.out]; omega)] at h1
            rw [HG.out, undL_no h1]; rfl : getA s nm t tag = some _)
          have BLr := BL2.below hbel
          have l0 := (BLr.cell 0).trans rfl
          have l1 := (BLr.cell 1).trans rfl
          have l2 := (BLr.cell 2).trans rfl
          have l3 := (BLr.cell 3).trans rfl
          have l4 := (BLr.cell 4).trans rfl
          have HWE : Hid (Calls Try.prog 27 #[.agg #[.string y1, .int .i64 y2, .int .i64 y3, .int .i64 y4, .string y5]] wr fun e w' => ∃ r, e = .returned r ∧ TrsR (n + 1) w' r (zeroL ⟨y1, y2, y3, y4, y5⟩) ∧ Below wr.heap.size wr w') := without_any ⟨y1, y2, y3, y4, y5⟩ n wr
          clear HI HG BLr
          go_wp2_with fail
          refine HWE.out.mono ?_
          rintro ee w6 ⟨r, rfl, hr6, hb6⟩
          have HR6 : Hid (TrsR (n + 1) w6 r (zeroL ⟨y1, y2, y3, y4, y5⟩)) := hr6
          have hbe : Below w.heap.size w w6 := hbw2.trans ((hbel.trans (hb6.mono hbel.size)).mono hbw2.size)
          obtain ⟨qa, qc, hqr, -⟩ := RowP.open hr6
          subst hqr
          clear hr6 hb6 HWE hbel l0 l1 l2 l3 l4
          generalize (zeroL ⟨y1, y2, y3, y4, y5⟩).length = Ql at *
          go_wp2_with fail
          go_ret2
          exact ⟨_, by rw [HG2.out]; rfl, by rw [HG2.out]; exact HR6.out, hbe⟩
end Go.Proofs.Ytfnjbbaphmmjlaa

/- Two small schemas. -/
namespace Go.Proofs.Ytfnjbbaphmmjlaa
open Go.ChangeShapes Go.WideShapes Go.ChangeAt Go.RowKit
set_option linter.unusedVariables false
set_option linter.unusedSimpArgs false
set_option maxRecDepth 20000

def awA : ScS := ⟨⟨#[97]⟩, [⟨⟨#[109]⟩, [⟨⟨#[120]⟩, 1, 1, 1, ⟨#[]⟩⟩], []⟩], [], []⟩
def awB : ScS := ⟨⟨#[97]⟩, [⟨⟨#[109]⟩, [⟨⟨#[120]⟩, 1, 1, 1, ⟨#[]⟩⟩, ⟨⟨#[121]⟩, 1, 1, 1, ⟨#[]⟩⟩], []⟩], [], []⟩
theorem awA_ok : checkA awA = 0 := by decide +kernel
theorem awB_ok : checkA awB = 7 := by decide +kernel
theorem flW_aw (n : ByteArray) (h : n.size ≤ 140737488351232) : FlW ⟨n, 1, 1, 1, ⟨#[]⟩⟩ := by
  have h1 : I64 1 := ⟨by decide, by decide⟩
  exact ⟨h, Nat.zero_le _, h1, h1, h1⟩
theorem awA_w : ScW awA := ⟨by decide, fun m hm => by simp [awA] at hm; subst hm; exact ⟨by decide, fun f hf => by simp at hf; subst hf; exact flW_aw _ (by decide), fun n hn => by simp at hn⟩, fun m hm => by simp [awA] at hm, fun m hm => by simp [awA] at hm⟩
theorem awB_w : ScW awB := ⟨by decide, fun m hm => by simp [awB] at hm; subst hm; exact ⟨by decide, fun f hf => by simp at hf; rcases hf with rfl | rfl <;> exact flW_aw _ (by decide), fun n hn => by simp at hn⟩, fun m hm => by simp [awB] at hm, fun m hm => by simp [awB] at hm⟩
theorem awA_f : FewL awA := ⟨by decide, by decide, by decide, fun m hm => by simp [awA] at hm; subst hm; exact ⟨by decide, by decide⟩, fun m hm => by simp [awA] at hm⟩
theorem awB_f : FewL awB := ⟨by decide, by decide, by decide, fun m hm => by simp [awB] at hm; subst hm; exact ⟨by decide, by decide⟩, fun m hm => by simp [awB] at hm⟩
end Go.Proofs.Ytfnjbbaphmmjlaa

/- Split from VlAwake. -/
namespace Go.Proofs.Ytfnjbbaphmmjlaa
open Go.ChangeShapes Go.WideShapes Go.ChangeAt Go.RowKit
set_option linter.unusedVariables false
set_option linter.unusedSimpArgs false
set_option maxRecDepth 20000

theorem trR_leaf (n : Nat) (w : World) (k : Int) (hk : Is64 k) : TrR (n + 1) w [.int .i64 k, .int .i64 0, .string ⟨#[]⟩, .slice none 0 0, .slice none 0 0] ⟨k, 0, ⟨#[]⟩, [], []⟩ :=
  ⟨.slice none 0 0, .slice none 0 0, rfl, hk, ⟨by show (-9223372036854775808 : Int) ≤ 0; decide, by show (0 : Int) ≤ 9223372036854775807; decide⟩, Nat.zero_le _, (fun f hf => by simp at hf), RowG.nil _ _, RowP.nil _ _ _, (fun g off n cap e => by cases e), fun g off n cap e => by cases e⟩
theorem Blk.pln {w : World} {b n c : Nat} {cs : Array Value} {t : TypeId} (h : Blk w b cs t) : PlnV w (.slice (some ⟨b, 0, none⟩) n c) := fun g off m cap e _ => by
  simp at e
  obtain ⟨⟨rfl, -⟩, -⟩ := e
  exact ⟨_, _, h⟩
theorem one64 : Is64 1 := ⟨by decide, by decide⟩
theorem three64 : Is64 3 := ⟨by decide, by decide⟩
end Go.Proofs.Ytfnjbbaphmmjlaa

/- The statements' own awake answers true. -/
namespace Go.Proofs.Ytfnjbbaphmmjlaa
open Go.ChangeShapes Go.WideShapes Go.ChangeAt Go.RowKit
set_option linter.unusedVariables false
set_option linter.unusedSimpArgs false
set_option maxRecDepth 20000

def awZ : Tr := ⟨3, 0, ⟨#[]⟩, [(1, [⟨1, 0, ⟨#[]⟩, [], []⟩])], []⟩
def awM : Tr := ⟨3, 0, ⟨#[]⟩, [], []⟩
theorem awZ_v : validA 2 awA ⟨#[109]⟩ awZ = 12 := by decide +kernel
theorem awM_v : validA 2 awA ⟨#[109]⟩ awM = 0 := by decide +kernel
theorem awM_g : getA awA ⟨#[109]⟩ awM 1 = some [⟨1, 0, ⟨#[]⟩, [], []⟩] := by simp [getA, fieldA, msgOf, fldOf, awA, awM, undL, zeroL, kindT]
theorem awZ_s : SmN 2 awZ := by
  refine ⟨by decide, by decide, by decide, by simp [awZ], fun e he => ?_⟩
  simp [awZ] at he
  subst he
  exact ⟨by decide, fun x hx => by simp at hx; subst hx; exact ⟨by decide, by decide, by decide, by simp, by simp⟩⟩
theorem awM_s : SmN 2 awM := ⟨by decide, by decide, by decide, by simp [awM], by simp [awM]⟩
set_option maxHeartbeats 4000000 in
theorem awake_any (w : World) : Calls Try.prog 7 #[] w fun e w' => e = .returned (.bool true) ∧ Below w.heap.size w w' := by
  go_enter Try.func7, Try.ntmps7
  go_wp2_with fail
  have B0 : Blk ((((((w.alloc (Obj.cells #[.string ⟨#[120]⟩, .int .i64 1, .int .i64 1, .int .i64 1, .string ⟨#[]⟩] 49)).alloc (Obj.cells #[.string ⟨#[109]⟩, .slice (some ⟨w.heap.size, 0, none⟩) 1 1, .slice none 0 0] 47)).alloc (Obj.cells #[.string ⟨#[97]⟩, .slice (some ⟨w.heap.size + 1, 0, none⟩) 1 1, .slice none 0 0, .slice none 0 0] 26)).alloc (Obj.cells #[.int .i64 1, .int .i64 0, .string ⟨#[]⟩, .slice none 0 0, .slice none 0 0] 30)).alloc (Obj.cells #[.int .i64 1, .slice (some ⟨w.heap.size + 1 + 1 + 1, 0, none⟩) 1 1] 61)).alloc (Obj.cells #[.int .i64 3, .int .i64 0, .string ⟨#[]⟩, .slice (some ⟨w.heap.size + 1 + 1 + 1 + 1, 0, none⟩) 1 1, .slice none 0 0] 30)) (w.heap.size) #[.string ⟨#[120]⟩, .int .i64 1, .int .i64 1, .int .i64 1, .string ⟨#[]⟩] 49 := ((((((Blk.newAt (by simp)).up _).up _).up _).up _).up _)
  have B1 : Blk ((((((w.alloc (Obj.cells #[.string ⟨#[120]⟩, .int .i64 1, .int .i64 1, .int .i64 1, .string ⟨#[]⟩] 49)).alloc (Obj.cells #[.string ⟨#[109]⟩, .slice (some ⟨w.heap.size, 0, none⟩) 1 1, .slice none 0 0] 47)).alloc (Obj.cells #[.string ⟨#[97]⟩, .slice (some ⟨w.heap.size + 1, 0, none⟩) 1 1, .slice none 0 0, .slice none 0 0] 26)).alloc (Obj.cells #[.int .i64 1, .int .i64 0, .string ⟨#[]⟩, .slice none 0 0, .slice none 0 0] 30)).alloc (Obj.cells #[.int .i64 1, .slice (some ⟨w.heap.size + 1 + 1 + 1, 0, none⟩) 1 1] 61)).alloc (Obj.cells #[.int .i64 3, .int .i64 0, .string ⟨#[]⟩, .slice (some ⟨w.heap.size + 1 + 1 + 1 + 1, 0, none⟩) 1 1, .slice none 0 0] 30)) (w.heap.size + 1) #[.string ⟨#[109]⟩, .slice (some ⟨w.heap.size, 0, none⟩) 1 1, .slice none 0 0] 47 := (((((Blk.newAt (by simp)).up _).up _).up _).up _)
  have B2 : Blk ((((((w.alloc (Obj.cells #[.string ⟨#[120]⟩, .int .i64 1, .int .i64 1, .int .i64 1, .string ⟨#[]⟩] 49)).alloc (Obj.cells #[.string ⟨#[109]⟩, .slice (some ⟨w.heap.size, 0, none⟩) 1 1, .slice none 0 0] 47)).alloc (Obj.cells #[.string ⟨#[97]⟩, .slice (some ⟨w.heap.size + 1, 0, none⟩) 1 1, .slice none 0 0, .slice none 0 0] 26)).alloc (Obj.cells #[.int .i64 1, .int .i64 0, .string ⟨#[]⟩, .slice none 0 0, .slice none 0 0] 30)).alloc (Obj.cells #[.int .i64 1, .slice (some ⟨w.heap.size + 1 + 1 + 1, 0, none⟩) 1 1] 61)).alloc (Obj.cells #[.int .i64 3, .int .i64 0, .string ⟨#[]⟩, .slice (some ⟨w.heap.size + 1 + 1 + 1 + 1, 0, none⟩) 1 1, .slice none 0 0] 30)) (w.heap.size + 1 + 1) #[.string ⟨#[97]⟩, .slice (some ⟨w.heap.size + 1, 0, none⟩) 1 1, .slice none 0 0, .slice none 0 0] 26 := ((((Blk.newAt (by simp)).up _).up _).up _)
  have B3 : Blk ((((((w.alloc (Obj.cells #[.string ⟨#[120]⟩, .int .i64 1, .int .i64 1, .int .i64 1, .string ⟨#[]⟩] 49)).alloc (Obj.cells #[.string ⟨#[109]⟩, .slice (some ⟨w.heap.size, 0, none⟩) 1 1, .slice none 0 0] 47)).alloc (Obj.cells #[.string ⟨#[97]⟩, .slice (some ⟨w.heap.size + 1, 0, none⟩) 1 1, .slice none 0 0, .slice none 0 0] 26)).alloc (Obj.cells #[.int .i64 1, .int .i64 0, .string ⟨#[]⟩, .slice none 0 0, .slice none 0 0] 30)).alloc (Obj.cells #[.int .i64 1, .slice (some ⟨w.heap.size + 1 + 1 + 1, 0, none⟩) 1 1] 61)).alloc (Obj.cells #[.int .i64 3, .int .i64 0, .string ⟨#[]⟩, .slice (some ⟨w.heap.size + 1 + 1 + 1 + 1, 0, none⟩) 1 1, .slice none 0 0] 30)) (w.heap.size + 1 + 1 + 1) #[.int .i64 1, .int .i64 0, .string ⟨#[]⟩, .slice none 0 0, .slice none 0 0] 30 := (((Blk.newAt (by simp)).up _).up _)
  have B4 : Blk ((((((w.alloc (Obj.cells #[.string ⟨#[120]⟩, .int .i64 1, .int .i64 1, .int .i64 1, .string ⟨#[]⟩] 49)).alloc (Obj.cells #[.string ⟨#[109]⟩, .slice (some ⟨w.heap.size, 0, none⟩) 1 1, .slice none 0 0] 47)).alloc (Obj.cells #[.string ⟨#[97]⟩, .slice (some ⟨w.heap.size + 1, 0, none⟩) 1 1, .slice none 0 0, .slice none 0 0] 26)).alloc (Obj.cells #[.int .i64 1, .int .i64 0, .string ⟨#[]⟩, .slice none 0 0, .slice none 0 0] 30)).alloc (Obj.cells #[.int .i64 1, .slice (some ⟨w.heap.size + 1 + 1 + 1, 0, none⟩) 1 1] 61)).alloc (Obj.cells #[.int .i64 3, .int .i64 0, .string ⟨#[]⟩, .slice (some ⟨w.heap.size + 1 + 1 + 1 + 1, 0, none⟩) 1 1, .slice none 0 0] 30)) (w.heap.size + 1 + 1 + 1 + 1) #[.int .i64 1, .slice (some ⟨w.heap.size + 1 + 1 + 1, 0, none⟩) 1 1] 61 := ((Blk.newAt (by simp)).up _)
  have B5 : Blk ((((((w.alloc (Obj.cells #[.string ⟨#[120]⟩, .int .i64 1, .int .i64 1, .int .i64 1, .string ⟨#[]⟩] 49)).alloc (Obj.cells #[.string ⟨#[109]⟩, .slice (some ⟨w.heap.size, 0, none⟩) 1 1, .slice none 0 0] 47)).alloc (Obj.cells #[.string ⟨#[97]⟩, .slice (some ⟨w.heap.size + 1, 0, none⟩) 1 1, .slice none 0 0, .slice none 0 0] 26)).alloc (Obj.cells #[.int .i64 1, .int .i64 0, .string ⟨#[]⟩, .slice none 0 0, .slice none 0 0] 30)).alloc (Obj.cells #[.int .i64 1, .slice (some ⟨w.heap.size + 1 + 1 + 1, 0, none⟩) 1 1] 61)).alloc (Obj.cells #[.int .i64 3, .int .i64 0, .string ⟨#[]⟩, .slice (some ⟨w.heap.size + 1 + 1 + 1 + 1, 0, none⟩) 1 1, .slice none 0 0] 30)) (w.heap.size + 1 + 1 + 1 + 1 + 1) #[.int .i64 3, .int .i64 0, .string ⟨#[]⟩, .slice (some ⟨w.heap.size + 1 + 1 + 1 + 1, 0, none⟩) 1 1, .slice none 0 0] 30 := (Blk.newAt (by simp))
  have hb0 : Below w.heap.size w ((((((w.alloc (Obj.cells #[.string ⟨#[120]⟩, .int .i64 1, .int .i64 1, .int .i64 1, .string ⟨#[]⟩] 49)).alloc (Obj.cells #[.string ⟨#[109]⟩, .slice (some ⟨w.heap.size, 0, none⟩) 1 1, .slice none 0 0] 47)).alloc (Obj.cells #[.string ⟨#[97]⟩, .slice (some ⟨w.heap.size + 1, 0, none⟩) 1 1, .slice none 0 0, .slice none 0 0] 26)).alloc (Obj.cells #[.int .i64 1, .int .i64 0, .string ⟨#[]⟩, .slice none 0 0, .slice none 0 0] 30)).alloc (Obj.cells #[.int .i64 1, .slice (some ⟨w.heap.size + 1 + 1 + 1, 0, none⟩) 1 1] 61)).alloc (Obj.cells #[.int .i64 3, .int .i64 0, .string ⟨#[]⟩, .slice (some ⟨w.heap.size + 1 + 1 + 1 + 1, 0, none⟩) 1 1, .slice none 0 0] 30)) := by
    repeat' first | exact Below.refl _ _ | refine Below.alloc ?_ (by simp <;> omega) _
  generalize ((((((w.alloc (Obj.cells #[.string ⟨#[120]⟩, .int .i64 1, .int .i64 1, .int .i64 1, .string ⟨#[]⟩] 49)).alloc (Obj.cells #[.string ⟨#[109]⟩, .slice (some ⟨w.heap.size, 0, none⟩) 1 1, .slice none 0 0] 47)).alloc (Obj.cells #[.string ⟨#[97]⟩, .slice (some ⟨w.heap.size + 1, 0, none⟩) 1 1, .slice none 0 0, .slice none 0 0] 26)).alloc (Obj.cells #[.int .i64 1, .int .i64 0, .string ⟨#[]⟩, .slice none 0 0, .slice none 0 0] 30)).alloc (Obj.cells #[.int .i64 1, .slice (some ⟨w.heap.size + 1 + 1 + 1, 0, none⟩) 1 1] 61)).alloc (Obj.cells #[.int .i64 3, .int .i64 0, .string ⟨#[]⟩, .slice (some ⟨w.heap.size + 1 + 1 + 1 + 1, 0, none⟩) 1 1, .slice none 0 0] 30)) = W at *
  have FA : RowG W (.slice (some ⟨w.heap.size, 0, none⟩) 1 1) 5 (flRows [⟨⟨#[120]⟩, 1, 1, 1, ⟨#[]⟩⟩]) := RowG.blk B0 rfl (flr_len5 _) rfl (by decide)
  have SA : ScIn W (.agg #[.string ⟨#[97]⟩, .slice (some ⟨w.heap.size + 1, 0, none⟩) 1 1, .slice none 0 0, .slice none 0 0]) awA :=
    ⟨_, _, _, rfl, ⟨[[.string ⟨#[109]⟩, .slice (some ⟨w.heap.size, 0, none⟩) 1 1, .slice none 0 0]], RowG.blk B1 rfl (fun r hr => by simp at hr; subst hr; rfl) rfl (by decide), rfl, fun i m hm => by
      match i, hm with
      | 0, hm => simp [awA] at hm; subst hm; exact ⟨_, _, rfl, FA, RowG.nil _ _⟩
      | i + 1, hm => simp [awA] at hm⟩, ⟨[], RowG.nil _ _, rfl, fun i m hm => by simp [awA] at hm⟩, RowG.nil _ _⟩
  have TM : TrW 2 W (.agg #[.int .i64 3, .int .i64 0, .string ⟨#[]⟩, .slice none 0 0, .slice none 0 0]) awM := ⟨_, rfl, trR_leaf 1 W 3 three64⟩
  have TI : TrsR 1 W (.slice (some ⟨w.heap.size + 1 + 1 + 1, 0, none⟩) 1 1) [⟨1, 0, ⟨#[]⟩, [], []⟩] := ⟨[[.int .i64 1, .int .i64 0, .string ⟨#[]⟩, .slice none 0 0, .slice none 0 0]], RowG.blk B3 rfl (fun r hr => by simp at hr; subst hr; rfl) rfl (by decide), rfl, fun i x hx => by
      match i, hx with
      | 0, hx => simp at hx; subst hx; exact ⟨_, rfl, trR_leaf 0 W 1 one64⟩
      | i + 1, hx => simp at hx⟩
  have TE : EnsR 1 W (.slice (some ⟨w.heap.size + 1 + 1 + 1 + 1, 0, none⟩) 1 1) [(1, [⟨1, 0, ⟨#[]⟩, [], []⟩])] := ⟨[[.int .i64 1, .slice (some ⟨w.heap.size + 1 + 1 + 1, 0, none⟩) 1 1]], RowG.blk B4 rfl (fun r hr => by simp at hr; subst hr; rfl) rfl (by decide), rfl, fun i x hx => by
      match i, hx with
      | 0, hx => simp at hx; subst hx; exact ⟨_, rfl, _, rfl, one64, TI⟩
      | i + 1, hx => simp at hx⟩
  have TZ : TrW 2 W (.agg #[.int .i64 3, .int .i64 0, .string ⟨#[]⟩, .slice (some ⟨w.heap.size + 1 + 1 + 1 + 1, 0, none⟩) 1 1, .slice none 0 0]) awZ := ⟨_, rfl, _, _, rfl, three64, ⟨by decide, by decide⟩, by decide, (fun f hf => by simp [awZ] at hf), RowG.nil _ _, TE, B4.pln, fun g off n cap e => by cases e⟩
  have HGE : Hid (Calls Try.prog 16 #[.agg #[.string ⟨#[97]⟩, .slice (some ⟨w.heap.size + 1, 0, none⟩) 1 1, .slice none 0 0, .slice none 0 0], .string ⟨#[109]⟩, .agg #[.int .i64 3, .int .i64 0, .string ⟨#[]⟩, .slice none 0 0, .slice none 0 0], .int .i64 1] W (GetP 0 awA ⟨#[109]⟩ awM 1 W)) := get_step 0 SA awA_f.flds TM (fun e u W he => by simp [awM] at he)
  have HV1 : Hid (∀ W1, Below W.heap.size W W1 → Calls Try.prog 11 #[.agg #[.string ⟨#[97]⟩, .slice (some ⟨w.heap.size + 1, 0, none⟩) 1 1, .slice none 0 0, .slice none 0 0], .string ⟨#[109]⟩, .agg #[.int .i64 3, .int .i64 0, .string ⟨#[]⟩, .slice (some ⟨w.heap.size + 1 + 1 + 1 + 1, 0, none⟩) 1 1, .slice none 0 0]] W1 fun e w' => e = .returned (.int .i64 12) ∧ Below W1.heap.size W1 w') := fun W1 h => by
    have h1 := fits_any (nm := ⟨#[109]⟩) (SA.below h) awA_w awA_f (TZ.cel (Cel.ofBelow h)) (by decide) (by decide) awZ_s
    rw [awZ_v] at h1
    exact h1
  have HV2 : Hid (∀ W1, Below W.heap.size W W1 → Calls Try.prog 11 #[.agg #[.string ⟨#[97]⟩, .slice (some ⟨w.heap.size + 1, 0, none⟩) 1 1, .slice none 0 0, .slice none 0 0], .string ⟨#[109]⟩, .agg #[.int .i64 3, .int .i64 0, .string ⟨#[]⟩, .slice none 0 0, .slice none 0 0]] W1 fun e w' => e = .returned (.int .i64 0) ∧ Below W1.heap.size W1 w') := fun W1 h => by
    have h1 := fits_any (nm := ⟨#[109]⟩) (SA.below h) awA_w awA_f (TM.cel (Cel.ofBelow h)) (by decide) (by decide) awM_s
    rw [awM_v] at h1
    exact h1
  have HB2 : Hid (Blk W (w.heap.size + 1 + 1) #[.string ⟨#[97]⟩, .slice (some ⟨w.heap.size + 1, 0, none⟩) 1 1, .slice none 0 0, .slice none 0 0] 26) := B2
  have HB5 : Hid (Blk W (w.heap.size + 1 + 1 + 1 + 1 + 1) #[.int .i64 3, .int .i64 0, .string ⟨#[]⟩, .slice (some ⟨w.heap.size + 1 + 1 + 1 + 1, 0, none⟩) 1 1, .slice none 0 0] 30) := B5
  clear B0 B1 B2 B3 B4 B5 FA SA TM TI TE TZ
  refine Calls.mono HGE.out ?_
  rintro e w1 ⟨r, rfl, hr, hb1⟩
  rw [awM_g] at hr ⊢
  simp only [Option.isSome_some, Option.getD_some] at hr ⊢
  obtain ⟨ra, rc, hre, hrc1, hrc2, -⟩ := RowP.open hr
  subst hre
  obtain ⟨g, off, x1, x2, x3, x4, x5, x6, rfl, k0, -⟩ := trsR_get hr (i := 0) rfl
  simp only [Nat.zero_mul, Nat.add_zero, List.length_cons, List.length_nil, Nat.zero_add] at k0 hrc1 ⊢
  unfold maxLen at hrc2
  clear hr HGE
  have B2 := HB2.out.below hb1
  have B5 := HB5.out.below hb1
  have s0 := (B2.cell 0).trans rfl
  have s1 := (B2.cell 1).trans rfl
  have s2 := (B2.cell 2).trans rfl
  have s3 := (B2.cell 3).trans rfl
  have z0 := (B5.cell 0).trans rfl
  have z1 := (B5.cell 1).trans rfl
  have z2 := (B5.cell 2).trans rfl
  have z3 := (B5.cell 3).trans rfl
  have z4 := (B5.cell 4).trans rfl
  clear B2 B5
  go_wp2_with fail
  refine (HV1.out w1 hb1).mono ?_
  rintro e w2 ⟨rfl, hb2⟩
  have hb12 : Below W.heap.size W w2 := hb1.trans (hb2.mono hb1.size)
  have B2 := HB2.out.below hb12
  have k0 := (hb2.cell (World.block_lt_of_cell? _ _ k0)).trans k0
  clear s0 s1 s2 s3 z0 z1 z2 z3 z4 hb1 hb2
  have s0 := (B2.cell 0).trans rfl
  have s1 := (B2.cell 1).trans rfl
  have s2 := (B2.cell 2).trans rfl
  have s3 := (B2.cell 3).trans rfl
  clear B2
  go_wp2_with fail
  refine (HV2.out w2 hb12).mono ?_
  rintro e w3 ⟨rfl, hb3⟩
  have hb13 : Below W.heap.size W w3 := hb12.trans (hb3.mono hb12.size)
  have k0 := (hb3.cell (World.block_lt_of_cell? _ _ k0)).trans k0
  clear s0 s1 s2 s3 hb12 hb3
  go_wp2_with fail
  go_ret
  exact ⟨rfl, hb0.trans (hb13.mono hb0.size)⟩
end Go.Proofs.Ytfnjbbaphmmjlaa

/- A map with values, its keys told apart. -/
namespace Go.Proofs.Ytfnjbbaphmmjlaa
open Go.ChangeShapes Go.WideShapes Go.ChangeAt Go.RowKit
set_option linter.unusedVariables false
set_option linter.unusedSimpArgs false
set_option maxRecDepth 20000

/-- Block b is a map of just these keys and values. -/
def PlMap (w : World) (b : Nat) (L : List (Value × Value)) : Prop := ∃ es clock, w.heap[b]? = some (.map es clock) ∧ es.toList.map (fun e => (e.key, e.val)) = L
theorem PlMap.lt {w : World} {b : Nat} {L : List (Value × Value)} (h : PlMap w b L) : b < w.heap.size := by
  obtain ⟨es, c, h, _⟩ := h
  exact (Array.getElem?_eq_some_iff.1 h).1
theorem PlMap.kp {S : Nat → Prop} {w w1 : World} {b : Nat} {L : List (Value × Value)} (h : PlMap w b L) (hk : Kp S w w1) (hs : ¬ S b) : PlMap w1 b L := by
  have hl := h.lt
  obtain ⟨es, c, h1, h2⟩ := h
  exact ⟨es, c, (hk.block b hl hs).trans h1, h2⟩
theorem PlMap.below {w w1 : World} {b : Nat} {L : List (Value × Value)} (h : PlMap w b L) (hk : Below w.heap.size w w1) : PlMap w1 b L := h.kp (S := fun _ => False) (Kp.ofBelow hk) (fun e => e)
theorem PlMap.made (w : World) : PlMap (w.alloc (.map #[] 0)) w.heap.size [] := ⟨#[], 0, heap_alloc_new w _, rfl⟩
theorem PlMap.neB {w : World} {b : Nat} {L : List (Value × Value)} (h : PlMap w b L) {g : Nat} {cs : Array Value} {t : TypeId} {fz : Nat × Nat} (hc : w.heap[g]? = some (.cells cs t fz)) : g ≠ b := by
  rintro rfl
  obtain ⟨es, c, hb, _⟩ := h
  rw [hb] at hc; cases hc
section
variable {T MT : TypeId} {w : World} {k : Value}
theorem find_askM : ∀ (l : List MapEntry) (i : Nat), Told T w k (l.map MapEntry.key) →
    (∃ j e, (Instr.findAsking T k l i).run Try.prog w = .ok (some (i + j, e.val)) w ∧ l[j]? = some e ∧ e.key = k) ∨ ((Instr.findAsking T k l i).run Try.prog w = .ok none w ∧ k ∉ l.map MapEntry.key)
  | [], i, _ => .inr (by simp [Instr.findAsking])
  | e :: l, i, ht => by
    obtain ⟨h1, h2⟩ := ht e.key (List.mem_cons_self ..)
    by_cases hke : k = e.key
    · refine .inl ⟨0, e, ?_, rfl, hke.symm⟩
      unfold Instr.findAsking
      rw [Sem.run_bind, h1 hke]
      simp [Result.andThen]
    · have hrun : (Instr.findAsking T k (e :: l) i).run Try.prog w = (Instr.findAsking T k l (i + 1)).run Try.prog w := by
        conv => lhs; unfold Instr.findAsking
        rw [Sem.run_bind, h2 hke]
        simp [Result.andThen]
      rcases find_askM l (i + 1) (fun q hq => ht q (List.mem_cons_of_mem _ hq)) with ⟨j, e', g1, g2, g3⟩ | ⟨g1, g2⟩
      · exact .inl ⟨j + 1, e', by rw [hrun, g1]; congr 3; omega, by simpa using g2, g3⟩
      · refine .inr ⟨hrun.trans g1, fun h => ?_⟩
        rcases List.mem_cons.1 h with h | h
        · exact hke h
        · exact g2 h
theorem find_keyM {fs : TypeDesc} (hu : Try.prog.underlying T = some fs) (hf : ∀ k q, Instr.sameNow fs (.agg k) q = none) {ks : Array Value} (hk : k = .agg ks) (l : List MapEntry) (ht : Told T w k (l.map MapEntry.key)) :
    (∃ j e, (Instr.findKey T k l).run Try.prog w = .ok (some (j, e.val)) w ∧ l[j]? = some e ∧ e.key = k) ∨ ((Instr.findKey T k l).run Try.prog w = .ok none w ∧ k ∉ l.map MapEntry.key) := by
  cases l with
  | nil => exact .inr (by simp [Instr.findKey, run_underlying hu, Instr.findNow])
  | cons e l =>
    have h1 : Instr.findNow fs k (e :: l) 0 = none := by rw [hk]; simp [Instr.findNow, hf]
    have h2 : (Instr.findKey T k (e :: l)).run Try.prog w = (Instr.findAsking T k (e :: l) 0).run Try.prog w := by
      simp [Instr.findKey, run_underlying hu, h1]
    rw [h2]
    have := find_askM (e :: l) 0 ht
    simpa using this
variable {E : TypeId} {L : List (Value × Value)} {b : Nat}
theorem keys_of {es : Array MapEntry} : (es.toList.map (fun e => (e.key, e.val))).map Prod.fst = es.toList.map MapEntry.key := by simp [Function.comp_def]
/-- A look: what stands there, or the zero value. -/
theorem look_map (hm : Try.prog.underlying MT = some (.map T E)) {z : Value} (hz : ∀ w, (zeroValue E).run Try.prog w = .ok z w) {fs : TypeDesc} (hu : Try.prog.underlying T = some fs) (hf : ∀ k q, Instr.sameNow fs (.agg k) q = none) {ks : Array Value} (hk : k = .agg ks)
    (hc : ∀ e, (Instr.checkKey e 10000 T k).run Try.prog w = .ok () w) (hs : PlMap w b L) (ht : Told T w k (L.map Prod.fst)) :
    (∃ v, (k, v) ∈ L ∧ (Instr.lookup MT (.map (some b)) k true).run Try.prog w = .ok (.tuple #[v, .bool true]) w) ∨ (k ∉ L.map Prod.fst ∧ (Instr.lookup MT (.map (some b)) k true).run Try.prog w = .ok (.tuple #[z, .bool false]) w) := by
  obtain ⟨es, c, h1, rfl⟩ := hs
  rw [keys_of] at ht ⊢
  have hgo : (getObj b).run Try.prog w = .ok (.map es c) w := by simp [getObj, Sem.run, h1]
  rcases find_keyM hu hf hk es.toList ht with ⟨j, e, hj, g2, g3⟩ | ⟨hj, g2⟩
  · refine .inl ⟨e.val, List.mem_map.2 ⟨e, List.mem_of_getElem? g2, by rw [g3]⟩, ?_⟩
    simp [Instr.lookup, run_underlying hm, hgo, hc, hj]
  · refine .inr ⟨g2, ?_⟩
    simp [Instr.lookup, run_underlying hm, hgo, hc, hj, hz]
/-- A key's value is put. -/
theorem update_map (hm : Try.prog.underlying MT = some (.map T E)) {fs : TypeDesc} (hu : Try.prog.underlying T = some fs) (hf : ∀ k q, Instr.sameNow fs (.agg k) q = none) {ks : Array Value} (hk : k = .agg ks) (hsb : Instr.sameBits 10000 k k = true)
    (hc : ∀ e, (Instr.checkKey e 10000 T k).run Try.prog w = .ok () w) (hs : PlMap w b L) (ht : Told T w k (L.map Prod.fst)) (v : Value) :
    ∃ w' L', (Instr.mapUpdate MT (.map (some b)) k v).run Try.prog w = .ok () w' ∧ PlMap w' b L' ∧ (∀ p ∈ L', p ∈ L ∨ p = (k, v)) ∧ (k, v) ∈ L' ∧ (∀ p ∈ L, p.1 ≠ k → p ∈ L') ∧ Kp (fun q => q = b) w w' ∧ w'.heap.size = w.heap.size := by
  obtain ⟨es, c, h1, rfl⟩ := hs
  rw [keys_of] at ht
  have hgo : (getObj b).run Try.prog w = .ok (.map es c) w := by simp [getObj, Sem.run, h1]
  have hse : ∀ o, (setObj b o).run Try.prog w = .ok () { w with heap := w.heap.setIfInBounds b o } := fun o => by simp [setObj, Sem.run, h1]
  have hlt := (Array.getElem?_eq_some_iff.1 h1).1
  have hkp : ∀ o, Kp (fun q => q = b) w { w with heap := w.heap.setIfInBounds b o } := fun o => ⟨rfl, rfl, rfl, by simp, fun q hq hs => by
    simp only
    rw [Array.getElem?_setIfInBounds_ne (Ne.symm hs)]⟩
  rcases find_keyM hu hf hk es.toList ht with ⟨j, e, hj, g2, g3⟩ | ⟨hj, g2⟩
  · have hej : es[j]? = some e := by simpa using g2
    have hkt : (Instr.keyThatStays (((es[j]?).map (·.key)).getD k) k).run Try.prog w = .ok k w := by
      rw [hej]
      simp [Instr.keyThatStays, g3, hsb]
    have hmem : ∀ x, x ∈ (es.modify j fun e => { e with key := k, val := v }).toList ↔ ∃ i y, es[i]? = some y ∧ x = if j = i then { y with key := k, val := v } else y := fun x => by
      rw [Array.mem_toList_iff, Array.mem_iff_getElem?]
      constructor
      · rintro ⟨i, hi⟩
        rw [Array.getElem?_modify] at hi
        split at hi
        · rename_i hij
          subst hij
          rw [hej] at hi
          simp at hi
          exact ⟨j, e, hej, by rw [if_pos rfl]; exact hi.symm⟩
        · rename_i hij
          exact ⟨i, x, hi, by rw [if_neg hij]⟩
      · rintro ⟨i, y, hi, rfl⟩
        refine ⟨i, ?_⟩
        rw [Array.getElem?_modify]
        split
        · rename_i hij
          rw [hi]; rfl
        · exact hi
    refine ⟨{ w with heap := w.heap.setIfInBounds b (.map (es.modify j fun e => { e with key := k, val := v }) c) }, _, ?_, ⟨es.modify j fun e => { e with key := k, val := v }, c, ?_, rfl⟩, ?_, ?_, ?_, hkp _, by simp⟩
    · simp [Instr.mapUpdate, run_underlying hm, hgo, hc, hj, hkt, hse]
    · simp [hlt]
    · intro p hp
      obtain ⟨x, hx, rfl⟩ := List.mem_map.1 hp
      obtain ⟨i, y, hi, rfl⟩ := (hmem x).1 hx
      split
      · exact .inr rfl
      · exact .inl (List.mem_map.2 ⟨y, by rw [Array.mem_toList_iff]; exact Array.mem_of_getElem? hi, rfl⟩)
    · exact List.mem_map.2 ⟨{ e with key := k, val := v }, (hmem _).2 ⟨j, e, hej, by rw [if_pos rfl]⟩, rfl⟩
    · intro p hp hne
      obtain ⟨x, hx, rfl⟩ := List.mem_map.1 hp
      rw [Array.mem_toList_iff, Array.mem_iff_getElem?] at hx
      obtain ⟨i, hi⟩ := hx
      refine List.mem_map.2 ⟨x, (hmem _).2 ⟨i, x, hi, ?_⟩, rfl⟩
      rw [if_neg]
      intro hij
      subst hij
      rw [hej] at hi
      obtain rfl : e = x := by simpa using hi
      exact hne g3
  · refine ⟨{ w with heap := w.heap.setIfInBounds b (.map (es.push { key := k, val := v, born := c }) (c + 1)) }, _, ?_, ⟨es.push { key := k, val := v, born := c }, c + 1, ?_, rfl⟩, ?_, ?_, ?_, hkp _, by simp⟩
    · simp [Instr.mapUpdate, run_underlying hm, hgo, hc, hj, hse]
    · simp [hlt]
    · intro p hp
      simp only [Array.toList_push, List.map_append, List.map_cons, List.map_nil, List.mem_append, List.mem_singleton] at hp
      exact hp
    · simp
    · intro p hp _
      simp only [Array.toList_push, List.map_append, List.mem_append]
      exact .inl hp
end
end Go.Proofs.Ytfnjbbaphmmjlaa

/- Trees made anew: with or without what is not known of them. -/
namespace Go.Proofs.Ytfnjbbaphmmjlaa
set_option linter.unusedVariables false
set_option linter.unusedSimpArgs false

/-- A tree without its rest, or as it is. -/
def topT (b : Bool) (t : Tr) : Tr := if b then ⟨t.kind, t.n, t.s, t.es, []⟩ else t
/-- In all of the depth (down to n). -/
def cutT (b : Bool) : Nat → Tr → Tr
  | 0, t => t
  | n + 1, t => ⟨t.kind, t.n, t.s, t.es.map fun e => (e.1, e.2.map (cutT b n)), if b then [] else t.rest⟩
theorem topT_kind (b : Bool) (t : Tr) : (topT b t).kind = t.kind := by cases b <;> rfl
theorem topT_n (b : Bool) (t : Tr) : (topT b t).n = t.n := by cases b <;> rfl
theorem topT_s (b : Bool) (t : Tr) : (topT b t).s = t.s := by cases b <;> rfl
theorem topT_es (b : Bool) (t : Tr) : (topT b t).es = t.es := by cases b <;> rfl
theorem topT_rest (b : Bool) (t : Tr) : (topT b t).rest = if b then [] else t.rest := by cases b <;> rfl
theorem topT_dp {b : Bool} {n : Nat} {t : Tr} (h : DpN n t) : DpN n (topT b t) := by
  cases n with
  | zero => exact h
  | succ n =>
    intro e he x hx
    rw [topT_es] at he
    exact h e he x hx
theorem topT_cnt (b : Bool) (n : Nat) (t : Tr) : cntN n (topT b t) = cntN n t := by
  cases n with
  | zero => rfl
  | succ n => simp only [cntN, topT_es]
theorem topT_sm {b : Bool} {n : Nat} {t : Tr} (h : SmN n t) : SmN n (topT b t) := by
  cases n with
  | zero => exact h
  | succ n =>
    cases b with
    | false => exact h
    | true => exact ⟨h.1, by simp [topT], h.2.2.1, (fun f hf => by simp [topT] at hf), h.2.2.2.2⟩
theorem cutT_top (b : Bool) (n : Nat) (t : Tr) (h : DpN n t) : cutT b n (topT b t) = cutT b n t := by
  cases n with
  | zero => exact h.elim
  | succ n => cases b <;> simp [cutT, topT]
theorem cutT_false : ∀ (n : Nat) (t : Tr), cutT false n t = t
  | 0, t => rfl
  | n + 1, t => by
    have h : (t.es.map fun e => (e.1, e.2.map (cutT false n))) = t.es := by
      conv => rhs; rw [← List.map_id t.es]
      refine List.map_congr_left fun e _ => ?_
      have : e.2.map (cutT false n) = e.2 := by
        conv => rhs; rw [← List.map_id e.2]
        exact List.map_congr_left fun x _ => cutT_false n x
      rw [this]; rfl
    rw [cutT, h]
    clear h
    cases t
    rfl
theorem cutT_more : ∀ (b : Bool) (n m : Nat) (t : Tr), DpN n t → DpN m t → cutT b n t = cutT b m t
  | _, 0, _, _, h, _ => h.elim
  | _, _ + 1, 0, _, _, h => h.elim
  | b, n + 1, m + 1, t, h, k => by
    have : (t.es.map fun e => (e.1, e.2.map (cutT b n))) = (t.es.map fun e => (e.1, e.2.map (cutT b m))) := by
      refine List.map_congr_left fun e he => ?_
      have : e.2.map (cutT b n) = e.2.map (cutT b m) := List.map_congr_left fun x hx => cutT_more b n m x (h e he x hx) (k e he x hx)
      rw [this]
    simp only [cutT, this]
theorem cutT_dp : ∀ {b : Bool} {n : Nat} {t : Tr}, DpN n t → DpN n (cutT b n t)
  | _, 0, _, h => h
  | b, n + 1, t, h => by
    intro e he x hx
    obtain ⟨e0, he0, rfl⟩ := List.mem_map.1 he
    obtain ⟨x0, hx0, rfl⟩ := List.mem_map.1 hx
    exact cutT_dp (h e0 he0 x0 hx0)
theorem cutT_sm : ∀ {b : Bool} {n : Nat} {t : Tr}, SmN n t → SmN n (cutT b n t)
  | _, 0, _, h => h
  | b, n + 1, t, h => by
    obtain ⟨h1, h2, h3, h4, h5⟩ := h
    refine ⟨h1, ?_, by simpa [cutT] using h3, fun f hf => ?_, fun e he => ?_⟩
    · cases b
      · exact h2
      · simp [cutT]
    · cases b
      · exact h4 f hf
      · simp [cutT] at hf
    · obtain ⟨e0, he0, rfl⟩ := List.mem_map.1 he
      refine ⟨by simpa using (h5 e0 he0).1, fun x hx => ?_⟩
      obtain ⟨x0, hx0, rfl⟩ := List.mem_map.1 hx
      exact cutT_sm ((h5 e0 he0).2 x0 hx0)
theorem subs_map (es : List (Int × List Tr)) (f : Tr → Tr) : subs (es.map fun e => (e.1, e.2.map f)) = (subs es).map f := by
  induction es with
  | nil => rfl
  | cons e l ih =>
    simp only [List.map_cons, subs, List.flatMap_cons, List.map_append] at ih ⊢
    rw [ih]
theorem cutT_cnt : ∀ (b : Bool) (n : Nat) (t : Tr), cntN n (cutT b n t) = cntN n t
  | _, 0, _ => rfl
  | b, n + 1, t => by
    simp only [cntN, cutT, subs_map, List.map_map]
    rw [List.map_congr_left (g := cntN n)]
    intro x _
    exact cutT_cnt b n x
theorem cutT_kind (b : Bool) (n : Nat) (t : Tr) : (cutT b n t).kind = t.kind := by cases n <;> rfl
end Go.Proofs.Ytfnjbbaphmmjlaa
