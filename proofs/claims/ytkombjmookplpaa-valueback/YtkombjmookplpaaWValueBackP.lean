/- ValueBack answers true at every tree. -/
import Derived.Test.YtkombjmookplpaaVoOf
import Derived.Test.YtkombjmookplpaaTvOpen
import Derived.Test.YtkombjmookplpaaTvRSame
import Derived.Test.YtkombjmookplpaaVaKind
import Derived.Test.YtkombjmookplpaaVbPack
import Derived.Test.YtkombjmookplpaaVrPack
namespace Go.Proofs.Ytkombjmookplpaa
open Go.ChangeShapes Go.WideShapes Go.ChangeAt Go.RowKit
set_option linter.unusedVariables false
set_option linter.unusedSimpArgs false
set_option maxRecDepth 20000

theorem VaC.kindOf {n : Nat} {w : World} {x : Value} {t : Tr} (h : VaC n w [x] t) (W : World) : Calls Try.prog 19 #[.agg #[x]] W fun e w' => e = .returned (.int .i64 t.kind) ∧ Below W.heap.size W w' := by
  cases n with
  | zero => exact h.elim
  | succ n =>
    rcases h with ⟨h1, h2, h3⟩ | ⟨h1, h2, h3⟩ | ⟨g, vn, vr, h1, h2, -⟩
    · obtain rfl := (List.cons.inj h1).1
      rw [h2]
      exact kind1_any _ W
    · obtain rfl := (List.cons.inj h1).1
      rw [h2]
      exact kind2_any _ W
    · obtain rfl := (List.cons.inj h1).1
      rw [h2]
      exact kind3_any _ W
theorem treeNil (w : World) : Calls Try.prog 20 #[.agg #[.nilIface]] w fun e w' => e = .returned (.agg #[.int .i64 0, .int .i64 0, .string ⟨#[]⟩, .slice none 0 0, .slice none 0 0]) ∧ Below w.heap.size w w' := by
  have hq : ∀ W, (binOp .eql 32 .nilIface .nilIface).run Try.prog W = .ok (.bool true) W := fun W => by kernel_rfl
  go_enter Try.func20, Try.ntmps20
  go_wp2
  refine bodyPost_ret (v := .agg #[.int .i64 0, .int .i64 0, .string ⟨#[]⟩, .slice none 0 0, .slice none 0 0]) (by simp [results, Try.results20, go_sem]) rfl ⟨rfl, ?_⟩
  exact ((Below.refl _ _).alloc (Nat.le_refl _) _).alloc (by simp) _
theorem in_zero (w : World) : TrIn 1 w (.agg #[.int .i64 0, .int .i64 0, .string ⟨#[]⟩, .slice none 0 0, .slice none 0 0]) tr0 := ⟨[.int .i64 0, .int .i64 0, .string ⟨#[]⟩, .slice none 0 0, .slice none 0 0], rfl, _, _, rfl, ⟨by decide, by decide⟩, ⟨by decide, by decide⟩, by decide, by simp [tr0], RowG.nil _ _, RowP.nil _ _ _⟩
theorem TrV.v2b {n B : Nat} {w : World} {v : Value} {t : Tr} {bs : List Nat} (h : TrV n B w v t bs) : TrV2 n w v t := by
  obtain ⟨r, h1, h2, _⟩ := h
  exact ⟨r, h1, h2.trQ⟩
set_option maxHeartbeats 4000000 in
theorem valueBack_walk (v : Value) (n : Nat) (t : Tr) (w : World) (h : TrIn n w v t) :
    Calls Try.prog 4 #[v] w fun e w' => e = .returned (.bool true) ∧ Below w.heap.size w w' := by
  have HS : Hid (∀ W, Below w.heap.size w W → Calls Try.prog 9 #[v] W fun e w' => SmallP t v W e ∧ Below W.heap.size W w') := fun W hW => small_any n t v W (h.below hW)
  obtain ⟨m, ve, vr, -, rfl, -, -, -, -, ra, ea⟩ := h.open
  obtain ⟨pe, ce, rfl, -⟩ := ea.open
  obtain ⟨pr, cr, rfl, -⟩ := rest_holds ra
  clear ea ra h
  generalize t.es.length = Ke at *
  generalize t.rest.length = Kr at *
  have al : Below w.heap.size w (w.alloc (Obj.cells #[.int .i64 t.kind, .int .i64 t.n, .string t.s, .slice pe Ke ce, .slice pr Kr cr] 25)) := (Below.refl _ _).alloc (Nat.le_refl _) _
  have HB : Hid (Blk (w.alloc (Obj.cells #[.int .i64 t.kind, .int .i64 t.n, .string t.s, .slice pe Ke ce, .slice pr Kr cr] 25)) w.heap.size #[.int .i64 t.kind, .int .i64 t.n, .string t.s, .slice pe Ke ce, .slice pr Kr cr] 25) := Blk.new w _ _
  have HCY : Hid (∀ W, Below w.heap.size w W → TrIn 14 W (.agg #[.int .i64 t.kind, .int .i64 t.n, .string t.s, .slice pe Ke ce, .slice pr Kr cr]) t → SmN 14 t → Calls Try.prog 11 #[.agg #[.int .i64 t.kind, .int .i64 t.n, .string t.s, .slice pe Ke ce, .slice pr Kr cr]] W (CopyP 14 t W)) := fun W hW h1 h2 => copy_any 14 t _ W h1 h2
  have HKN : Hid ((t.kind = 1 → t.kind = 1) ∧ True) := ⟨fun h => h, trivial⟩
  obtain ⟨K, hK⟩ : ∃ z, t.kind = z := ⟨_, rfl⟩
  obtain ⟨N, hN⟩ : ∃ z, t.n = z := ⟨_, rfl⟩
  obtain ⟨S, hS⟩ : ∃ z, t.s = z := ⟨_, rfl⟩
  have HK : Hid (t.kind = K ∧ t.n = N ∧ t.s = S) := ⟨hK, hN, hS⟩
  rw [hK, hN, hS] at HS HB al HCY ⊢
  clear hK hN hS HKN
  go_enter Try.func4, Try.ntmps4
  go_wp2_with fail
  refine (HS.out _ al).mono ?_
  rintro e w1 ⟨⟨R, rfl, hR⟩, hb1⟩
  have hbw1 : Below w.heap.size w w1 := al.trans (hb1.mono al.size)
  have HB1 : Hid (Blk w1 w.heap.size #[.int .i64 K, .int .i64 N, .string S, .slice pe Ke ce, .slice pr Kr cr] 25) := HB.out.below hb1
  have HRR : Hid (R = true → SmN 14 t ∧ cntN 14 t ≤ 200 ∧ TrIn 14 w1 (.agg #[.int .i64 K, .int .i64 N, .string S, .slice pe Ke ce, .slice pr Kr cr]) t) := fun hr => ⟨(hR hr).1, (hR hr).2.1, (hR hr).2.2.below hb1⟩
  clear hR hb1 al HB HS
  cases R with
  | false =>
    go_wp2_with fail
    refine (awake_any _).mono ?_
    rintro e w2 ⟨rfl, hb2⟩
    have hbw2 : Below w.heap.size w w2 := hbw1.trans (hb2.mono hbw1.size)
    go_wp2_with fail
    go_ret
    exact ⟨rfl, hbw2⟩
  | true =>
    obtain ⟨s1, s2, s3⟩ := HRR.out rfl
    have HT1 : Hid (TrIn 14 w1 (.agg #[.int .i64 K, .int .i64 N, .string S, .slice pe Ke ce, .slice pr Kr cr]) t) := s3
    have HS1 : Hid (SmN 14 t ∧ cntN 14 t ≤ 200) := ⟨s1, s2⟩
    have HC : Hid (Calls Try.prog 11 #[.agg #[.int .i64 K, .int .i64 N, .string S, .slice pe Ke ce, .slice pr Kr cr]] w1 (CopyP 14 t w1)) := HCY.out w1 hbw1 s3 s1
    have q0 := (HB1.out.cell 0).trans rfl
    have q1 := (HB1.out.cell 1).trans rfl
    have q2 := (HB1.out.cell 2).trans rfl
    have q3 := (HB1.out.cell 3).trans rfl
    have q4 := (HB1.out.cell 4).trans rfl
    clear s1 s2 s3 HRR HCY
    go_wp2_with fail
    refine HC.out.mono ?_
    rintro e w2 ⟨xv, bs, rfl, hX, hb2⟩
    have hbw2 : Below w.heap.size w w2 := hbw1.trans (hb2.mono hbw1.size)
    have HT2 : Hid (TrIn 14 w2 (.agg #[.int .i64 K, .int .i64 N, .string S, .slice pe Ke ce, .slice pr Kr cr]) t) := HT1.out.below hb2
    have HB2 : Hid (Blk w2 w.heap.size #[.int .i64 K, .int .i64 N, .string S, .slice pe Ke ce, .slice pr Kr cr] 25) := HB1.out.below hb2
    have HO : Hid (Calls Try.prog 18 #[xv] w2 (OfP 14 t w2)) := of_any 14 t xv w2 hX.v2b (by omega) (by have := HS1.out.2; omega) HS1.out.1
    clear hX hb2 HC hbw1 HB1 q0 q1 q2 q3 q4
    go_wp2_with fail
    refine HO.out.mono ?_
    rintro e w3 ⟨hOf, hb3⟩
    have HT3 : Hid (TrIn 14 w3 (.agg #[.int .i64 K, .int .i64 N, .string S, .slice pe Ke ce, .slice pr Kr cr]) t) := HT2.out.below hb3
    have hbw3 : Below w.heap.size w w3 := hbw2.trans (hb3.mono hbw2.size)
    have HB3 : Hid (Blk w3 w.heap.size #[.int .i64 K, .int .i64 N, .string S, .slice pe Ke ce, .slice pr Kr cr] 25) := HB2.out.below hb3
    clear hb3 hbw2 HB2 HO
    rcases hOf with ⟨hck, rfl⟩ | ⟨hck, x, bs, rfl, hV, hA⟩
    · have al4 : Below w3.heap.size w3 (w3.alloc (Obj.cells #[.nilIface] 34)) := (Below.refl _ _).alloc (Nat.le_refl _) _
      have hbw4 : Below w.heap.size w (w3.alloc (Obj.cells #[.nilIface] 34)) := hbw3.trans (al4.mono hbw3.size)
      have HX4 : Hid (Blk (w3.alloc (Obj.cells #[.nilIface] 34)) w3.heap.size #[.nilIface] 34) := Blk.new w3 _ _
      have B4 := HB3.out.below al4
      have HRC : Hid (Calls Try.prog 13 #[(.agg #[.int .i64 K, .int .i64 N, .string S, .slice pe Ke ce, .slice pr Kr cr])] (w3.alloc (Obj.cells #[.nilIface] 34)) fun e w' => e = .returned (.bool false) ∧ Below (w3.alloc (Obj.cells #[.nilIface] 34)).heap.size (w3.alloc (Obj.cells #[.nilIface] 34)) w') := by
        have h1 := rCheck_any 14 t _ _ (HT3.out.below al4) (by omega)
        rw [hck] at h1
        exact h1
      have q0 := (B4.cell 0).trans rfl
      have q1 := (B4.cell 1).trans rfl
      have q2 := (B4.cell 2).trans rfl
      have q3 := (B4.cell 3).trans rfl
      have q4 := (B4.cell 4).trans rfl
      clear B4 al4 hbw3 HB3 HT3 hck
      go_wp2_with fail
      refine HRC.out.mono ?_
      rintro e w5 ⟨rfl, hb5⟩
      have hbw5 : Below w.heap.size w w5 := hbw4.trans (hb5.mono hbw4.size)
      have HX5 : Hid (Blk w5 w3.heap.size #[.nilIface] 34) := HX4.out.below hb5
      clear q0 q1 q2 q3 q4 hb5 hbw4 HX4 HRC
      have c0 := (HX5.out.cell 0).trans rfl
      go_wp2_with fail
      refine (kind0_any _).mono ?_
      rintro e w6 ⟨rfl, hb6⟩
      have hbw6 : Below w.heap.size w w6 := hbw5.trans (hb6.mono hbw5.size)
      have HX6 : Hid (Blk w6 w3.heap.size #[.nilIface] 34) := HX5.out.below hb6
      clear c0 hb6 hbw5 HX5
      have c0 := (HX6.out.cell 0).trans rfl
      go_wp2_with fail
      refine (treeNil _).mono ?_
      rintro e w7 ⟨rfl, hb7⟩
      have hbw7 : Below w.heap.size w w7 := hbw6.trans (hb7.mono hbw6.size)
      clear c0 hb7 hbw6 HX6
      have HSM : Hid (Calls Try.prog 17 #[.agg #[.int .i64 0, .int .i64 0, .string ⟨#[]⟩, .slice none 0 0, .slice none 0 0], .agg #[.int .i64 0, .int .i64 0, .string ⟨#[]⟩, .slice none 0 0, .slice none 0 0]] w7 fun e w' => e = .returned (.bool true) ∧ Below w7.heap.size w7 w') := by
        refine Calls.mono (rsame_any 1 1 tr0 tr0 _ _ w7 (in_zero w7) (in_zero w7)) ?_
        rintro e W' ⟨⟨R, rfl, hR⟩, hb⟩
        rw [hR.2 rfl]
        exact ⟨rfl, hb⟩
      go_wp2_with fail
      refine HSM.out.mono ?_
      rintro e w8 ⟨rfl, hb8⟩
      have hbw8 : Below w.heap.size w w8 := hbw7.trans (hb8.mono hbw7.size)
      clear hb8 hbw7 HSM
      go_wp2_with fail
      refine (awake_any _).mono ?_
      rintro e w9 ⟨rfl, hb9⟩
      have hbw9 : Below w.heap.size w w9 := hbw8.trans (hb9.mono hbw8.size)
      clear hb9 hbw8
      go_wp2_with fail
      go_ret
      exact ⟨rfl, hbw9⟩
    · have hVC : VaC 14 w3 [x] t := hV.vaC
      obtain ⟨Ti, u, hxe⟩ := hVC.one
      obtain rfl : x = .iface Ti u := by simpa using hxe
      have al4 : Below w3.heap.size w3 (w3.alloc (Obj.cells #[.iface Ti u] 34)) := (Below.refl _ _).alloc (Nat.le_refl _) _
      have hbw4 : Below w.heap.size w (w3.alloc (Obj.cells #[.iface Ti u] 34)) := hbw3.trans (al4.mono hbw3.size)
      have HX4 : Hid (Blk (w3.alloc (Obj.cells #[.iface Ti u] 34)) w3.heap.size #[.iface Ti u] 34) := Blk.new w3 _ _
      have HB4 : Hid (Blk (w3.alloc (Obj.cells #[.iface Ti u] 34)) w.heap.size #[.int .i64 K, .int .i64 N, .string S, .slice pe Ke ce, .slice pr Kr cr] 25) := HB3.out.below al4
      have HV4 : Hid (VaC 14 (w3.alloc (Obj.cells #[.iface Ti u] 34)) [.iface Ti u] t) := hVC.below al4
      have HT4 : Hid (TrIn 14 (w3.alloc (Obj.cells #[.iface Ti u] 34)) (.agg #[.int .i64 K, .int .i64 N, .string S, .slice pe Ke ce, .slice pr Kr cr]) t) := HT3.out.below al4
      have HRC : Hid (Calls Try.prog 13 #[(.agg #[.int .i64 K, .int .i64 N, .string S, .slice pe Ke ce, .slice pr Kr cr])] (w3.alloc (Obj.cells #[.iface Ti u] 34)) fun e w' => e = .returned (.bool true) ∧ Below (w3.alloc (Obj.cells #[.iface Ti u] 34)).heap.size (w3.alloc (Obj.cells #[.iface Ti u] 34)) w') := by
        have h1 := rCheck_any 14 t _ _ HT4.out (by omega)
        rw [hck] at h1
        exact h1
      have q0 := (HB4.out.cell 0).trans rfl
      have q1 := (HB4.out.cell 1).trans rfl
      have q2 := (HB4.out.cell 2).trans rfl
      have q3 := (HB4.out.cell 3).trans rfl
      have q4 := (HB4.out.cell 4).trans rfl
      clear al4 hbw3 HB3 HT3 hck hV hA hVC hxe
      go_wp2_with fail
      refine HRC.out.mono ?_
      rintro e w5 ⟨rfl, hb5⟩
      have hbw5 : Below w.heap.size w w5 := hbw4.trans (hb5.mono hbw4.size)
      have HX5 : Hid (Blk w5 w3.heap.size #[.iface Ti u] 34) := HX4.out.below hb5
      have HB5 : Hid (Blk w5 w.heap.size #[.int .i64 K, .int .i64 N, .string S, .slice pe Ke ce, .slice pr Kr cr] 25) := HB4.out.below hb5
      have HV5 : Hid (VaC 14 w5 [.iface Ti u] t) := HV4.out.below hb5
      have HT5 : Hid (TrIn 14 w5 (.agg #[.int .i64 K, .int .i64 N, .string S, .slice pe Ke ce, .slice pr Kr cr]) t) := HT4.out.below hb5
      clear q0 q1 q2 q3 q4 hb5 hbw4 HX4 HB4 HV4 HT4 HRC
      go_wp2_with fail
      obtain ⟨b1, hb1'⟩ : ∃ b, w.heap.size = b := ⟨_, rfl⟩
      obtain ⟨bx, hbx'⟩ : ∃ b, w3.heap.size = b := ⟨_, rfl⟩
      rw [hb1'] at HB5
      rw [hbx'] at HX5
      simp only [hb1', hbx']
      refine M_region (T := fun W => W.cell? ⟨bx, 0, none⟩ = some (.iface Ti u) ∧ W.cell? ⟨b1, 0, none⟩ = some (.int .i64 K) ∧ W.cell? ⟨b1, 1, none⟩ = some (.int .i64 N) ∧ W.cell? ⟨b1, 2, none⟩ = some (.string S) ∧ W.cell? ⟨b1, 3, none⟩ = some (.slice pe Ke ce) ∧ W.cell? ⟨b1, 4, none⟩ = some (.slice pr Kr cr)) (m := 14) (by kernel_rfl) ?_
      have hTb : ∀ W, Below w5.heap.size w5 W → W.cell? ⟨bx, 0, none⟩ = some (.iface Ti u) ∧ W.cell? ⟨b1, 0, none⟩ = some (.int .i64 K) ∧ W.cell? ⟨b1, 1, none⟩ = some (.int .i64 N) ∧ W.cell? ⟨b1, 2, none⟩ = some (.string S) ∧ W.cell? ⟨b1, 3, none⟩ = some (.slice pe Ke ce) ∧ W.cell? ⟨b1, 4, none⟩ = some (.slice pr Kr cr) := fun W hW => ⟨(HX5.out.below hW).cell 0, (HB5.out.below hW).cell 0, (HB5.out.below hW).cell 1, (HB5.out.below hW).cell 2, (HB5.out.below hW).cell 3, (HB5.out.below hW).cell 4⟩
      have HTb : Hid (∀ W, Below w5.heap.size w5 W → W.cell? ⟨bx, 0, none⟩ = some (.iface Ti u) ∧ W.cell? ⟨b1, 0, none⟩ = some (.int .i64 K) ∧ W.cell? ⟨b1, 1, none⟩ = some (.int .i64 N) ∧ W.cell? ⟨b1, 2, none⟩ = some (.string S) ∧ W.cell? ⟨b1, 3, none⟩ = some (.slice pe Ke ce) ∧ W.cell? ⟨b1, 4, none⟩ = some (.slice pr Kr cr)) := hTb
      have hdW0 : Below w5.heap.size w5 w5.drew := (Below.refl _ _).drew
      have hT := hTb _ hdW0
      have HKD : Hid (∀ W, Calls Try.prog 19 #[.agg #[.iface Ti u]] W fun e w' => e = .returned (.int .i64 K) ∧ Below W.heap.size W w') := fun W => by
        have h1 := HV5.out.kindOf W
        rw [HK.out.1] at h1
        exact h1
      have HVT : Hid (∀ W, Below w5.heap.size w5 W → Calls Try.prog 20 #[.agg #[.iface Ti u]] W (CopyP 14 t W)) := fun W hW => vtree_any 14 t _ W (HV5.out.below hW) HS1.out.1
      have HSA : Hid (∀ W va, Below w5.heap.size w5 W → TrIn 14 W va t → Calls Try.prog 17 #[va, (.agg #[.int .i64 K, .int .i64 N, .string S, .slice pe Ke ce, .slice pr Kr cr])] W fun e w' => e = .returned (.bool true) ∧ Below W.heap.size W w') := fun W va hW hva => by
        refine Calls.mono (rsame_any 14 14 t t _ _ W hva (HT5.out.below hW)) ?_
        rintro e W' ⟨⟨R, rfl, hR⟩, hb⟩
        rw [hR.2 rfl]
        exact ⟨rfl, hb⟩
      clear hTb HX5 HB5 HV5 HT5
      generalize w5.drew = W0 at *
      refine M_take 0 33 (.agg #[.iface Ti u]) _ rfl rfl (by kernel_rfl) (by kernel_rfl) (by kernel_rfl) (by kernel_rfl) (by kernel_rfl) (fun _ _ _ h => h) (by rfl) (fun w' hw' => ?_) hT (listed' := #[true, false, false, false, false, false, false, false, false, false, false, false, false, false, false]) (by kernel_rfl) rfl ?_
      · obtain ⟨f0, f1, f2, f3, f4, f5⟩ := hw'; go_simp
      simp only [List.setIfInBounds_toArray, List.set_cons_zero, List.set_cons_succ]
      refine M_take 2 35 (.pointer (some ⟨b1, 0, none⟩)) _ rfl rfl (by kernel_rfl) (by kernel_rfl) (by kernel_rfl) (by kernel_rfl) (by kernel_rfl) (fun _ _ _ h => h) (by rfl) (fun w' hw' => ?_) hT (listed' := #[true, false, true, false, false, false, false, false, false, false, false, false, false, false, false]) (by kernel_rfl) rfl ?_
      · obtain ⟨f0, f1, f2, f3, f4, f5⟩ := hw'; go_simp
      simp only [List.setIfInBounds_toArray, List.set_cons_zero, List.set_cons_succ]
      refine M_take 3 36 (.int .i64 K) _ rfl rfl (by kernel_rfl) (by kernel_rfl) (by kernel_rfl) (by kernel_rfl) (by kernel_rfl) (fun _ _ _ h => h) (by rfl) (fun w' hw' => ?_) hT (listed' := #[true, false, true, true, false, false, false, false, false, false, false, false, false, false, false]) (by kernel_rfl) rfl ?_
      · obtain ⟨f0, f1, f2, f3, f4, f5⟩ := hw'; go_simp
      simp only [List.setIfInBounds_toArray, List.set_cons_zero, List.set_cons_succ]
      refine M_call 1 34 19 #[.agg #[.iface Ti u]] rfl rfl (by kernel_rfl) (by rfl) (listed' := #[true, true, true, true, false, false, false, false, false, false, false, false, false, false, false]) (by kernel_rfl) (fun W => by go_simp) ?_
      refine Calls.mono (HKD.out _) ?_
      rintro e W1 ⟨rfl, hbW1⟩
      have hdW1 : Below w5.heap.size w5 W1 := hdW0.trans (hbW1.mono hdW0.size)
      have hT := HTb.out _ hdW1
      refine ⟨_, rfl, hT, ?_⟩
      simp only [List.setIfInBounds_toArray, List.set_cons_zero, List.set_cons_succ]
      refine M_take 4 37 (.bool true) _ rfl rfl (by kernel_rfl) (by kernel_rfl) (by kernel_rfl) (by kernel_rfl) (by kernel_rfl) (fun _ _ _ h => h) (by rfl) (fun w' hw' => ?_) hT (listed' := #[true, true, true, true, true, false, false, false, false, false, false, false, false, false, false]) (by kernel_rfl) rfl ?_
      · obtain ⟨f0, f1, f2, f3, f4, f5⟩ := hw'; go_simp
      simp only [List.setIfInBounds_toArray, List.set_cons_zero, List.set_cons_succ]
      refine M_take 5 38 (.bool true) _ rfl rfl (by kernel_rfl) (by kernel_rfl) (by kernel_rfl) (by kernel_rfl) (by kernel_rfl) (fun _ _ _ h => h) (by rfl) (fun w' hw' => ?_) hT (listed' := #[true, true, true, true, true, true, false, false, false, false, false, false, false, false, false]) (by kernel_rfl) rfl ?_
      · obtain ⟨f0, f1, f2, f3, f4, f5⟩ := hw'; go_simp
      simp only [List.setIfInBounds_toArray, List.set_cons_zero, List.set_cons_succ]
      refine M_take 6 39 (.agg #[.iface Ti u]) _ rfl rfl (by kernel_rfl) (by kernel_rfl) (by kernel_rfl) (by kernel_rfl) (by kernel_rfl) (fun _ _ _ h => h) (by rfl) (fun w' hw' => ?_) hT (listed' := #[true, true, true, true, true, true, true, false, false, false, false, false, false, false, false]) (by kernel_rfl) rfl ?_
      · obtain ⟨f0, f1, f2, f3, f4, f5⟩ := hw'; go_simp
      simp only [List.setIfInBounds_toArray, List.set_cons_zero, List.set_cons_succ]
      refine M_take 8 41 ((.agg #[.int .i64 K, .int .i64 N, .string S, .slice pe Ke ce, .slice pr Kr cr])) _ rfl rfl (by kernel_rfl) (by kernel_rfl) (by kernel_rfl) (by kernel_rfl) (by kernel_rfl) (fun _ _ _ h => h) (by rfl) (fun w' hw' => ?_) hT (listed' := #[true, true, true, true, true, true, true, false, true, false, false, false, false, false, false]) (by kernel_rfl) rfl ?_
      · obtain ⟨f0, f1, f2, f3, f4, f5⟩ := hw'; go_simp
      simp only [List.setIfInBounds_toArray, List.set_cons_zero, List.set_cons_succ]
      refine M_call 7 40 20 #[.agg #[.iface Ti u]] rfl rfl (by kernel_rfl) (by rfl) (listed' := #[true, true, true, true, true, true, true, true, true, false, false, false, false, false, false]) (by kernel_rfl) (fun W => by go_simp) ?_
      refine Calls.mono (HVT.out _ hdW1) ?_
      rintro e W2 ⟨va, bs2, rfl, hva, hbW2⟩
      obtain ⟨n2, ve2, vr2, -, rfl, -⟩ := hva.tr.open
      have HVA : Hid (TrIn 14 W2 (.agg #[.int .i64 t.kind, .int .i64 t.n, .string t.s, ve2, vr2]) t) := hva.tr
      clear hva
      have hdW2 : Below w5.heap.size w5 W2 := hdW1.trans (hbW2.mono hdW1.size)
      have hT := HTb.out _ hdW2
      refine ⟨_, rfl, hT, ?_⟩
      simp only [List.setIfInBounds_toArray, List.set_cons_zero, List.set_cons_succ]
      refine M_call 9 42 17 #[.agg #[.int .i64 t.kind, .int .i64 t.n, .string t.s, ve2, vr2], (.agg #[.int .i64 K, .int .i64 N, .string S, .slice pe Ke ce, .slice pr Kr cr])] rfl rfl (by kernel_rfl) (by rfl) (listed' := #[true, true, true, true, true, true, true, true, true, true, false, false, false, false, false]) (by kernel_rfl) (fun W => by go_simp) ?_
      refine Calls.mono (HSA.out _ _ hdW2 HVA.out) ?_
      rintro e W3 ⟨rfl, hbW3⟩
      have hdW3 : Below w5.heap.size w5 W3 := hdW2.trans (hbW3.mono hdW2.size)
      have hT := HTb.out _ hdW3
      refine ⟨_, rfl, hT, ?_⟩
      simp only [List.setIfInBounds_toArray, List.set_cons_zero, List.set_cons_succ]
      refine M_take 10 43 (.bool true) _ rfl rfl (by kernel_rfl) (by kernel_rfl) (by kernel_rfl) (by kernel_rfl) (by kernel_rfl) (fun _ _ _ h => h) (by rfl) (fun w' hw' => ?_) hT (listed' := #[true, true, true, true, true, true, true, true, true, true, true, false, false, false, false]) (by kernel_rfl) rfl ?_
      · obtain ⟨f0, f1, f2, f3, f4, f5⟩ := hw'; go_simp
      simp only [List.setIfInBounds_toArray, List.set_cons_zero, List.set_cons_succ]
      refine M_take 11 44 (.bool true) _ rfl rfl (by kernel_rfl) (by kernel_rfl) (by kernel_rfl) (by kernel_rfl) (by kernel_rfl) (fun _ _ _ h => h) (by rfl) (fun w' hw' => ?_) hT (listed' := #[true, true, true, true, true, true, true, true, true, true, true, true, false, false, false]) (by kernel_rfl) rfl ?_
      · obtain ⟨f0, f1, f2, f3, f4, f5⟩ := hw'; go_simp
      simp only [List.setIfInBounds_toArray, List.set_cons_zero, List.set_cons_succ]
      refine M_call 12 45 10 #[] rfl rfl (by kernel_rfl) (by rfl) (listed' := #[true, true, true, true, true, true, true, true, true, true, true, true, true, false, false]) (by kernel_rfl) (fun W => by go_simp) ?_
      refine Calls.mono (awake_any _) ?_
      rintro e W4 ⟨rfl, hbW4⟩
      have hdW4 : Below w5.heap.size w5 W4 := hdW3.trans (hbW4.mono hdW3.size)
      have hT := HTb.out _ hdW4
      refine ⟨_, rfl, hT, ?_⟩
      simp only [List.setIfInBounds_toArray, List.set_cons_zero, List.set_cons_succ]
      refine M_take 13 46 (.bool true) _ rfl rfl (by kernel_rfl) (by kernel_rfl) (by kernel_rfl) (by kernel_rfl) (by kernel_rfl) (fun _ _ _ h => h) (by rfl) (fun w' hw' => ?_) hT (listed' := #[true, true, true, true, true, true, true, true, true, true, true, true, true, true, false]) (by kernel_rfl) rfl ?_
      · obtain ⟨f0, f1, f2, f3, f4, f5⟩ := hw'; go_simp
      simp only [List.setIfInBounds_toArray, List.set_cons_zero, List.set_cons_succ]
      refine M_run 14 2 (.bool true) (W4) rfl rfl (by kernel_rfl) (by rfl) (listed' := #[true, true, true, true, true, true, true, true, true, true, true, true, true, true, true]) (by kernel_rfl) (by go_simp) hT ?_
      simp only [List.setIfInBounds_toArray, List.set_cons_zero, List.set_cons_succ]
      refine M_done (by kernel_rfl) ?_ _
      have hbw6 : Below w.heap.size w W4 := hbw5.trans (hdW4.mono hbw5.size)
      clear hT hdW0 hdW1 hdW2 hdW3 hdW4 hbW1 hbW2 hbW3 hbW4 hbw5 HTb HKD HVT HSA HVA
      go_wp2_with fail
      go_ret
      exact ⟨rfl, hbw6⟩
end Go.Proofs.Ytkombjmookplpaa
