/- ValueAsserts answers true at every tree. -/
import Derived.Test.YtkombjmookplpaaVoOf
import Derived.Test.YtkombjmookplpaaTvOpen
import Derived.Test.YtkombjmookplpaaTvCopy
import Derived.Test.YtkombjmookplpaaVaTree
namespace Go.Proofs.Ytkombjmookplpaa
open Go.ChangeShapes Go.WideShapes Go.ChangeAt Go.RowKit
set_option linter.unusedVariables false
set_option linter.unusedSimpArgs false
set_option maxRecDepth 20000

theorem TrV.v2 {n B : Nat} {w : World} {v : Value} {t : Tr} {bs : List Nat} (h : TrV n B w v t bs) : TrV2 n w v t := by
  obtain ⟨r, h1, h2, _⟩ := h
  exact ⟨r, h1, h2.trQ⟩
set_option maxHeartbeats 4000000 in
theorem valueAsserts_walk (v : Value) (n : Nat) (t : Tr) (w : World) (h : TrIn n w v t) :
    Calls Try.prog 6 #[v] w fun e w' => e = .returned (.bool true) ∧ Below w.heap.size w w' := by
  have HS : Hid (∀ W, Below w.heap.size w W → Calls Try.prog 9 #[v] W fun e w' => SmallP t v W e ∧ Below W.heap.size W w') := fun W hW => small_any n t v W (h.below hW)
  obtain ⟨m, ve, vr, -, rfl, -, -, -, -, ra, ea⟩ := h.open
  obtain ⟨pe, ce, rfl, -⟩ := ea.open
  obtain ⟨pr, cr, rfl, -⟩ := rest_holds ra
  clear ea ra h
  generalize t.es.length = Ke at *
  generalize t.rest.length = Kr at *
  have al : Below w.heap.size w (w.alloc (Obj.cells #[.int .i64 t.kind, .int .i64 t.n, .string t.s, .slice pe Ke ce, .slice pr Kr cr] 25)) := (Below.refl _ _).alloc (Nat.le_refl _) _
  have HB : Hid (Blk (w.alloc (Obj.cells #[.int .i64 t.kind, .int .i64 t.n, .string t.s, .slice pe Ke ce, .slice pr Kr cr] 25)) w.heap.size #[.int .i64 t.kind, .int .i64 t.n, .string t.s, .slice pe Ke ce, .slice pr Kr cr] 25) := Blk.new w _ _
  have HCY : Hid (∀ W, Below w.heap.size w W → TrIn 14 W (.agg #[.int .i64 t.kind, .int .i64 t.n, .string t.s, .slice pe Ke ce, .slice pr Kr cr]) t → SmN 14 t → Calls Try.prog 11 #[.agg #[.int .i64 t.kind, .int .i64 t.n, .string t.s, .slice pe Ke ce, .slice pr Kr cr]] W (CopyP 14 t W)) := fun W hW h1 h2 => copy_any 14 t _ W h1 h2
  have HKN : Hid ((t.kind = 1 → t.kind = 1) ∧ True) := ⟨fun h => h, trivial⟩
  obtain ⟨K, hK⟩ : ∃ z, t.kind = z := ⟨_, rfl⟩
  obtain ⟨N, hN⟩ : ∃ z, t.n = z := ⟨_, rfl⟩
  obtain ⟨S, hS⟩ : ∃ z, t.s = z := ⟨_, rfl⟩
  have HK : Hid (t.kind = K ∧ t.n = N ∧ t.s = S) := ⟨hK, hN, hS⟩
  rw [hK, hN, hS] at HS HB al HCY ⊢
  clear hK hN hS HKN
  go_enter Try.func6, Try.ntmps6
  go_wp2_with fail
  refine (HS.out _ al).mono ?_
  rintro e w1 ⟨⟨R, rfl, hR⟩, hb1⟩
  have hbw1 : Below w.heap.size w w1 := al.trans (hb1.mono al.size)
  have HB1 : Hid (Blk w1 w.heap.size #[.int .i64 K, .int .i64 N, .string S, .slice pe Ke ce, .slice pr Kr cr] 25) := HB.out.below hb1
  have HRR : Hid (R = true → SmN 14 t ∧ cntN 14 t ≤ 200 ∧ TrIn 14 w1 (.agg #[.int .i64 K, .int .i64 N, .string S, .slice pe Ke ce, .slice pr Kr cr]) t) := fun hr => ⟨(hR hr).1, (hR hr).2.1, (hR hr).2.2.below hb1⟩
  clear hR hb1 al HB HS
  cases R with
  | false =>
    go_wp2_with fail
    refine (awake_any _).mono ?_
    rintro e w2 ⟨rfl, hb2⟩
    have hbw2 : Below w.heap.size w w2 := hbw1.trans (hb2.mono hbw1.size)
    go_wp2_with fail
    go_ret
    exact ⟨rfl, hbw2⟩
  | true =>
    obtain ⟨s1, s2, s3⟩ := HRR.out rfl
    have HS1 : Hid (SmN 14 t ∧ cntN 14 t ≤ 200) := ⟨s1, s2⟩
    have HC : Hid (Calls Try.prog 11 #[.agg #[.int .i64 K, .int .i64 N, .string S, .slice pe Ke ce, .slice pr Kr cr]] w1 (CopyP 14 t w1)) := HCY.out w1 hbw1 s3 s1
    have q0 := (HB1.out.cell 0).trans rfl
    have q1 := (HB1.out.cell 1).trans rfl
    have q2 := (HB1.out.cell 2).trans rfl
    have q3 := (HB1.out.cell 3).trans rfl
    have q4 := (HB1.out.cell 4).trans rfl
    clear s1 s2 s3 HRR HCY
    go_wp2_with fail
    refine HC.out.mono ?_
    rintro e w2 ⟨xv, bs, rfl, hX, hb2⟩
    have hbw2 : Below w.heap.size w w2 := hbw1.trans (hb2.mono hbw1.size)
    have HB2 : Hid (Blk w2 w.heap.size #[.int .i64 K, .int .i64 N, .string S, .slice pe Ke ce, .slice pr Kr cr] 25) := HB1.out.below hb2
    have HO : Hid (Calls Try.prog 18 #[xv] w2 (OfP 14 t w2)) := of_any 14 t xv w2 hX.v2 (by omega) (by have := HS1.out.2; omega) HS1.out.1
    clear hX hb2 HC hbw1 HB1 q0 q1 q2 q3 q4
    go_wp2_with fail
    refine HO.out.mono ?_
    rintro e w3 ⟨hOf, hb3⟩
    have hbw3 : Below w.heap.size w w3 := hbw2.trans (hb3.mono hbw2.size)
    have HB3 : Hid (Blk w3 w.heap.size #[.int .i64 K, .int .i64 N, .string S, .slice pe Ke ce, .slice pr Kr cr] 25) := HB2.out.below hb3
    clear hb3 hbw2 HB2 HO
    rcases hOf with ⟨hck, rfl⟩ | ⟨hck, x, bs, rfl, hV, hA⟩
    · go_wp2_with fail
      refine (awake_any _).mono ?_
      rintro e w4 ⟨rfl, hb4⟩
      have al4 : Below w.heap.size w (w3.alloc (Obj.cells #[.nilIface] 34)) := hbw3.alloc hbw3.size _
      have hbw4 : Below w.heap.size w w4 := al4.trans (hb4.mono al4.size)
      go_wp2_with fail
      go_ret
      exact ⟨rfl, hbw4⟩
    · obtain ⟨T, u, hx, hTu⟩ := hV.one
      have hx' : x = .iface T u := by simpa using hx
      subst hx'
      clear hx hV hA
      rw [HK.out.1, HK.out.2.1, HK.out.2.2] at hTu
      have HOKN : Hid (okN 14 t = true) := (by simp only [chkN, Bool.and_eq_true] at hck; exact hck.2 : okN 14 t = true)
      clear hck
      rcases hTu with ⟨rfl, rfl, rfl⟩ | ⟨rfl, rfl, rfl⟩ | ⟨rfl, ⟨g, rfl⟩, rfl⟩
      · have al4 : Below w3.heap.size w3 (w3.alloc (Obj.cells #[.iface 85 (.int .i64 N)] 34)) := (Below.refl _ _).alloc (Nat.le_refl _) _
        have hbz : Below w.heap.size w (w3.alloc (Obj.cells #[.iface 85 (.int .i64 N)] 34)) := hbw3.trans (al4.mono hbw3.size)
        have HV : Hid (Blk (w3.alloc (Obj.cells #[.iface 85 (.int .i64 N)] 34)) w3.heap.size #[.iface 85 (.int .i64 N)] 34) := Blk.new w3 _ _
        have HZ : Hid (Blk (w3.alloc (Obj.cells #[.iface 85 (.int .i64 N)] 34)) w.heap.size #[.int .i64 1, .int .i64 N, .string S, .slice pe Ke ce, .slice pr Kr cr] 25) := HB3.out.below al4
        clear al4 hbw3 HB3
        go_wp2_with fail
        refine (asNum_yes _ _).mono ?_
        rintro e w4 ⟨rfl, hx⟩
        have hbz' : Below w.heap.size w w4 := hbz.trans (hx.mono hbz.size)
        have HV' : Hid (Blk w4 w3.heap.size #[.iface 85 (.int .i64 N)] 34) := HV.out.below hx
        have HZ' : Hid (Blk w4 w.heap.size #[.int .i64 1, .int .i64 N, .string S, .slice pe Ke ce, .slice pr Kr cr] 25) := HZ.out.below hx
        clear hx hbz HV HZ
        have hbz := hbz'
        have HV := HV'
        have HZ := HZ'
        clear hbz' HV' HZ'
        have c0 := (HZ.out.cell 0).trans rfl
        have c1 := (HZ.out.cell 1).trans rfl
        have c2 := (HZ.out.cell 2).trans rfl
        have c3 := (HV.out.cell 0).trans rfl
        go_wp2_with fail
        refine (asStr_no (.iface 85 (.int .i64 N)) _ (.inr ⟨_, _, rfl, by decide⟩)).mono ?_
        rintro e w5 ⟨rfl, hx⟩
        have hbz' : Below w.heap.size w w5 := hbz.trans (hx.mono hbz.size)
        have HV' : Hid (Blk w5 w3.heap.size #[.iface 85 (.int .i64 N)] 34) := HV.out.below hx
        have HZ' : Hid (Blk w5 w.heap.size #[.int .i64 1, .int .i64 N, .string S, .slice pe Ke ce, .slice pr Kr cr] 25) := HZ.out.below hx
        clear hx hbz HV HZ c0 c1 c2 c3
        have hbz := hbz'
        have HV := HV'
        have HZ := HZ'
        clear hbz' HV' HZ'
        have c0 := (HZ.out.cell 0).trans rfl
        have c1 := (HZ.out.cell 1).trans rfl
        have c2 := (HZ.out.cell 2).trans rfl
        have c3 := (HV.out.cell 0).trans rfl
        go_wp2_with fail
        refine (asNode_no (.iface 85 (.int .i64 N)) _ (.inr ⟨_, _, rfl, by decide⟩)).mono ?_
        rintro e w6 ⟨rfl, hx⟩
        have hbz' : Below w.heap.size w w6 := hbz.trans (hx.mono hbz.size)
        have HV' : Hid (Blk w6 w3.heap.size #[.iface 85 (.int .i64 N)] 34) := HV.out.below hx
        have HZ' : Hid (Blk w6 w.heap.size #[.int .i64 1, .int .i64 N, .string S, .slice pe Ke ce, .slice pr Kr cr] 25) := HZ.out.below hx
        clear hx hbz HV HZ c0 c1 c2 c3
        have hbz := hbz'
        have HV := HV'
        have HZ := HZ'
        clear hbz' HV' HZ'
        have c0 := (HZ.out.cell 0).trans rfl
        have c1 := (HZ.out.cell 1).trans rfl
        have c2 := (HZ.out.cell 2).trans rfl
        have c3 := (HV.out.cell 0).trans rfl
        go_wp2_with fail
        go_quiet (fail)
        have hdr : Below w6.heap.size w6 (w6.drewN nq) := below_drewN nq (Below.refl _ _)
        have hbz' : Below w.heap.size w (w6.drewN nq) := below_drewN nq hbz
        have HV' : Hid (Blk (w6.drewN nq) w3.heap.size #[.iface 85 (.int .i64 N)] 34) := HV.out.below hdr
        have HZ' : Hid (Blk (w6.drewN nq) w.heap.size #[.int .i64 1, .int .i64 N, .string S, .slice pe Ke ce, .slice pr Kr cr] 25) := HZ.out.below hdr
        clear hdr hbz HV HZ c0 c1 c2 c3
        generalize w6.drewN nq = wq at *
        have hbz := hbz'
        have HV := HV'
        have HZ := HZ'
        clear hbz' HV' HZ'
        have c0 := (HZ.out.cell 0).trans rfl
        have c1 := (HZ.out.cell 1).trans rfl
        have c2 := (HZ.out.cell 2).trans rfl
        have c3 := (HV.out.cell 0).trans rfl
        go_wp2_with fail
        refine (panics_no (.iface 85 (.int .i64 N)) 0 _ (.inl rfl) fun W => (mustNum_yes _ W).mono fun _ _ h => ⟨⟨_, h.1⟩, h.2⟩).mono ?_
        rintro e w7 ⟨rfl, hx⟩
        have hbz' : Below w.heap.size w w7 := hbz.trans (hx.mono hbz.size)
        have HV' : Hid (Blk w7 w3.heap.size #[.iface 85 (.int .i64 N)] 34) := HV.out.below hx
        have HZ' : Hid (Blk w7 w.heap.size #[.int .i64 1, .int .i64 N, .string S, .slice pe Ke ce, .slice pr Kr cr] 25) := HZ.out.below hx
        clear hx hbz HV HZ c0 c1 c2 c3
        have hbz := hbz'
        have HV := HV'
        have HZ := HZ'
        clear hbz' HV' HZ'
        have c0 := (HZ.out.cell 0).trans rfl
        have c1 := (HZ.out.cell 1).trans rfl
        have c2 := (HZ.out.cell 2).trans rfl
        have c3 := (HV.out.cell 0).trans rfl
        go_wp2_with fail
        refine (panics_yes (.iface 85 (.int .i64 N)) 1 _ (.inr (.inl rfl)) fun W => mustStr_no _ W (.inr ⟨_, _, rfl, by decide⟩)).mono ?_
        rintro e w8 ⟨rfl, hx⟩
        have hbz' : Below w.heap.size w w8 := hbz.trans (hx.mono hbz.size)
        have HV' : Hid (Blk w8 w3.heap.size #[.iface 85 (.int .i64 N)] 34) := HV.out.below hx
        have HZ' : Hid (Blk w8 w.heap.size #[.int .i64 1, .int .i64 N, .string S, .slice pe Ke ce, .slice pr Kr cr] 25) := HZ.out.below hx
        clear hx hbz HV HZ c0 c1 c2 c3
        have hbz := hbz'
        have HV := HV'
        have HZ := HZ'
        clear hbz' HV' HZ'
        have c0 := (HZ.out.cell 0).trans rfl
        have c1 := (HZ.out.cell 1).trans rfl
        have c2 := (HZ.out.cell 2).trans rfl
        have c3 := (HV.out.cell 0).trans rfl
        go_wp2_with fail
        refine (panics_yes (.iface 85 (.int .i64 N)) 2 _ (.inr (.inr rfl)) fun W => mustNode_no _ W (.inr ⟨_, _, rfl, by decide⟩)).mono ?_
        rintro e w9 ⟨rfl, hx⟩
        have hbz' : Below w.heap.size w w9 := hbz.trans (hx.mono hbz.size)
        have HV' : Hid (Blk w9 w3.heap.size #[.iface 85 (.int .i64 N)] 34) := HV.out.below hx
        have HZ' : Hid (Blk w9 w.heap.size #[.int .i64 1, .int .i64 N, .string S, .slice pe Ke ce, .slice pr Kr cr] 25) := HZ.out.below hx
        clear hx hbz HV HZ c0 c1 c2 c3
        have hbz := hbz'
        have HV := HV'
        have HZ := HZ'
        clear hbz' HV' HZ'
        have c0 := (HZ.out.cell 0).trans rfl
        have c1 := (HZ.out.cell 1).trans rfl
        have c2 := (HZ.out.cell 2).trans rfl
        have c3 := (HV.out.cell 0).trans rfl
        go_wp2_with fail
        refine (awake_any _).mono ?_
        rintro e w10 ⟨rfl, hx⟩
        have hbz' : Below w.heap.size w w10 := hbz.trans (hx.mono hbz.size)
        have HV' : Hid (Blk w10 w3.heap.size #[.iface 85 (.int .i64 N)] 34) := HV.out.below hx
        have HZ' : Hid (Blk w10 w.heap.size #[.int .i64 1, .int .i64 N, .string S, .slice pe Ke ce, .slice pr Kr cr] 25) := HZ.out.below hx
        clear hx hbz HV HZ c0 c1 c2 c3
        have hbz := hbz'
        have HV := HV'
        have HZ := HZ'
        clear hbz' HV' HZ'
        have c0 := (HZ.out.cell 0).trans rfl
        have c1 := (HZ.out.cell 1).trans rfl
        have c2 := (HZ.out.cell 2).trans rfl
        have c3 := (HV.out.cell 0).trans rfl
        go_wp2_with fail
        go_ret
        exact ⟨rfl, hbz⟩
      · have al4 : Below w3.heap.size w3 (w3.alloc (Obj.cells #[.iface 86 (.string S)] 34)) := (Below.refl _ _).alloc (Nat.le_refl _) _
        have hbz : Below w.heap.size w (w3.alloc (Obj.cells #[.iface 86 (.string S)] 34)) := hbw3.trans (al4.mono hbw3.size)
        have HV : Hid (Blk (w3.alloc (Obj.cells #[.iface 86 (.string S)] 34)) w3.heap.size #[.iface 86 (.string S)] 34) := Blk.new w3 _ _
        have HZ : Hid (Blk (w3.alloc (Obj.cells #[.iface 86 (.string S)] 34)) w.heap.size #[.int .i64 2, .int .i64 N, .string S, .slice pe Ke ce, .slice pr Kr cr] 25) := HB3.out.below al4
        clear al4 hbw3 HB3
        go_wp2_with fail
        refine (asNum_no (.iface 86 (.string S)) _ (.inr ⟨_, _, rfl, by decide⟩)).mono ?_
        rintro e w4 ⟨rfl, hx⟩
        have hbz' : Below w.heap.size w w4 := hbz.trans (hx.mono hbz.size)
        have HV' : Hid (Blk w4 w3.heap.size #[.iface 86 (.string S)] 34) := HV.out.below hx
        have HZ' : Hid (Blk w4 w.heap.size #[.int .i64 2, .int .i64 N, .string S, .slice pe Ke ce, .slice pr Kr cr] 25) := HZ.out.below hx
        clear hx hbz HV HZ
        have hbz := hbz'
        have HV := HV'
        have HZ := HZ'
        clear hbz' HV' HZ'
        have c0 := (HZ.out.cell 0).trans rfl
        have c1 := (HZ.out.cell 1).trans rfl
        have c2 := (HZ.out.cell 2).trans rfl
        have c3 := (HV.out.cell 0).trans rfl
        go_wp2_with fail
        refine (asStr_yes _ _).mono ?_
        rintro e w5 ⟨rfl, hx⟩
        have hbz' : Below w.heap.size w w5 := hbz.trans (hx.mono hbz.size)
        have HV' : Hid (Blk w5 w3.heap.size #[.iface 86 (.string S)] 34) := HV.out.below hx
        have HZ' : Hid (Blk w5 w.heap.size #[.int .i64 2, .int .i64 N, .string S, .slice pe Ke ce, .slice pr Kr cr] 25) := HZ.out.below hx
        clear hx hbz HV HZ c0 c1 c2 c3
        have hbz := hbz'
        have HV := HV'
        have HZ := HZ'
        clear hbz' HV' HZ'
        have c0 := (HZ.out.cell 0).trans rfl
        have c1 := (HZ.out.cell 1).trans rfl
        have c2 := (HZ.out.cell 2).trans rfl
        have c3 := (HV.out.cell 0).trans rfl
        go_wp2_with fail
        refine (asNode_no (.iface 86 (.string S)) _ (.inr ⟨_, _, rfl, by decide⟩)).mono ?_
        rintro e w6 ⟨rfl, hx⟩
        have hbz' : Below w.heap.size w w6 := hbz.trans (hx.mono hbz.size)
        have HV' : Hid (Blk w6 w3.heap.size #[.iface 86 (.string S)] 34) := HV.out.below hx
        have HZ' : Hid (Blk w6 w.heap.size #[.int .i64 2, .int .i64 N, .string S, .slice pe Ke ce, .slice pr Kr cr] 25) := HZ.out.below hx
        clear hx hbz HV HZ c0 c1 c2 c3
        have hbz := hbz'
        have HV := HV'
        have HZ := HZ'
        clear hbz' HV' HZ'
        have c0 := (HZ.out.cell 0).trans rfl
        have c1 := (HZ.out.cell 1).trans rfl
        have c2 := (HZ.out.cell 2).trans rfl
        have c3 := (HV.out.cell 0).trans rfl
        go_wp2_with fail
        go_quiet (fail)
        have hdr : Below w6.heap.size w6 (w6.drewN nq) := below_drewN nq (Below.refl _ _)
        have hbz' : Below w.heap.size w (w6.drewN nq) := below_drewN nq hbz
        have HV' : Hid (Blk (w6.drewN nq) w3.heap.size #[.iface 86 (.string S)] 34) := HV.out.below hdr
        have HZ' : Hid (Blk (w6.drewN nq) w.heap.size #[.int .i64 2, .int .i64 N, .string S, .slice pe Ke ce, .slice pr Kr cr] 25) := HZ.out.below hdr
        clear hdr hbz HV HZ c0 c1 c2 c3
        generalize w6.drewN nq = wq at *
        have hbz := hbz'
        have HV := HV'
        have HZ := HZ'
        clear hbz' HV' HZ'
        have c0 := (HZ.out.cell 0).trans rfl
        have c1 := (HZ.out.cell 1).trans rfl
        have c2 := (HZ.out.cell 2).trans rfl
        have c3 := (HV.out.cell 0).trans rfl
        go_wp2_with fail
        refine (panics_yes (.iface 86 (.string S)) 0 _ (.inl rfl) fun W => mustNum_no _ W (.inr ⟨_, _, rfl, by decide⟩)).mono ?_
        rintro e w7 ⟨rfl, hx⟩
        have hbz' : Below w.heap.size w w7 := hbz.trans (hx.mono hbz.size)
        have HV' : Hid (Blk w7 w3.heap.size #[.iface 86 (.string S)] 34) := HV.out.below hx
        have HZ' : Hid (Blk w7 w.heap.size #[.int .i64 2, .int .i64 N, .string S, .slice pe Ke ce, .slice pr Kr cr] 25) := HZ.out.below hx
        clear hx hbz HV HZ c0 c1 c2 c3
        have hbz := hbz'
        have HV := HV'
        have HZ := HZ'
        clear hbz' HV' HZ'
        have c0 := (HZ.out.cell 0).trans rfl
        have c1 := (HZ.out.cell 1).trans rfl
        have c2 := (HZ.out.cell 2).trans rfl
        have c3 := (HV.out.cell 0).trans rfl
        go_wp2_with fail
        refine (panics_no (.iface 86 (.string S)) 1 _ (.inr (.inl rfl)) fun W => (mustStr_yes _ W).mono fun _ _ h => ⟨⟨_, h.1⟩, h.2⟩).mono ?_
        rintro e w8 ⟨rfl, hx⟩
        have hbz' : Below w.heap.size w w8 := hbz.trans (hx.mono hbz.size)
        have HV' : Hid (Blk w8 w3.heap.size #[.iface 86 (.string S)] 34) := HV.out.below hx
        have HZ' : Hid (Blk w8 w.heap.size #[.int .i64 2, .int .i64 N, .string S, .slice pe Ke ce, .slice pr Kr cr] 25) := HZ.out.below hx
        clear hx hbz HV HZ c0 c1 c2 c3
        have hbz := hbz'
        have HV := HV'
        have HZ := HZ'
        clear hbz' HV' HZ'
        have c0 := (HZ.out.cell 0).trans rfl
        have c1 := (HZ.out.cell 1).trans rfl
        have c2 := (HZ.out.cell 2).trans rfl
        have c3 := (HV.out.cell 0).trans rfl
        go_wp2_with fail
        refine (panics_yes (.iface 86 (.string S)) 2 _ (.inr (.inr rfl)) fun W => mustNode_no _ W (.inr ⟨_, _, rfl, by decide⟩)).mono ?_
        rintro e w9 ⟨rfl, hx⟩
        have hbz' : Below w.heap.size w w9 := hbz.trans (hx.mono hbz.size)
        have HV' : Hid (Blk w9 w3.heap.size #[.iface 86 (.string S)] 34) := HV.out.below hx
        have HZ' : Hid (Blk w9 w.heap.size #[.int .i64 2, .int .i64 N, .string S, .slice pe Ke ce, .slice pr Kr cr] 25) := HZ.out.below hx
        clear hx hbz HV HZ c0 c1 c2 c3
        have hbz := hbz'
        have HV := HV'
        have HZ := HZ'
        clear hbz' HV' HZ'
        have c0 := (HZ.out.cell 0).trans rfl
        have c1 := (HZ.out.cell 1).trans rfl
        have c2 := (HZ.out.cell 2).trans rfl
        have c3 := (HV.out.cell 0).trans rfl
        go_wp2_with fail
        refine (awake_any _).mono ?_
        rintro e w10 ⟨rfl, hx⟩
        have hbz' : Below w.heap.size w w10 := hbz.trans (hx.mono hbz.size)
        have HV' : Hid (Blk w10 w3.heap.size #[.iface 86 (.string S)] 34) := HV.out.below hx
        have HZ' : Hid (Blk w10 w.heap.size #[.int .i64 2, .int .i64 N, .string S, .slice pe Ke ce, .slice pr Kr cr] 25) := HZ.out.below hx
        clear hx hbz HV HZ c0 c1 c2 c3
        have hbz := hbz'
        have HV := HV'
        have HZ := HZ'
        clear hbz' HV' HZ'
        have c0 := (HZ.out.cell 0).trans rfl
        have c1 := (HZ.out.cell 1).trans rfl
        have c2 := (HZ.out.cell 2).trans rfl
        have c3 := (HV.out.cell 0).trans rfl
        go_wp2_with fail
        go_ret
        exact ⟨rfl, hbz⟩
      · have al4 : Below w3.heap.size w3 (w3.alloc (Obj.cells #[.iface 39 (.pointer (some ⟨g, 0, none⟩))] 34)) := (Below.refl _ _).alloc (Nat.le_refl _) _
        have hbz : Below w.heap.size w (w3.alloc (Obj.cells #[.iface 39 (.pointer (some ⟨g, 0, none⟩))] 34)) := hbw3.trans (al4.mono hbw3.size)
        have HV : Hid (Blk (w3.alloc (Obj.cells #[.iface 39 (.pointer (some ⟨g, 0, none⟩))] 34)) w3.heap.size #[.iface 39 (.pointer (some ⟨g, 0, none⟩))] 34) := Blk.new w3 _ _
        have HZ : Hid (Blk (w3.alloc (Obj.cells #[.iface 39 (.pointer (some ⟨g, 0, none⟩))] 34)) w.heap.size #[.int .i64 3, .int .i64 N, .string S, .slice pe Ke ce, .slice pr Kr cr] 25) := HB3.out.below al4
        clear al4 hbw3 HB3
        go_wp2_with fail
        refine (asNum_no (.iface 39 (.pointer (some ⟨g, 0, none⟩))) _ (.inr ⟨_, _, rfl, by decide⟩)).mono ?_
        rintro e w4 ⟨rfl, hx⟩
        have hbz' : Below w.heap.size w w4 := hbz.trans (hx.mono hbz.size)
        have HV' : Hid (Blk w4 w3.heap.size #[.iface 39 (.pointer (some ⟨g, 0, none⟩))] 34) := HV.out.below hx
        have HZ' : Hid (Blk w4 w.heap.size #[.int .i64 3, .int .i64 N, .string S, .slice pe Ke ce, .slice pr Kr cr] 25) := HZ.out.below hx
        clear hx hbz HV HZ
        have hbz := hbz'
        have HV := HV'
        have HZ := HZ'
        clear hbz' HV' HZ'
        have c0 := (HZ.out.cell 0).trans rfl
        have c1 := (HZ.out.cell 1).trans rfl
        have c2 := (HZ.out.cell 2).trans rfl
        have c3 := (HV.out.cell 0).trans rfl
        go_wp2_with fail
        refine (asStr_no (.iface 39 (.pointer (some ⟨g, 0, none⟩))) _ (.inr ⟨_, _, rfl, by decide⟩)).mono ?_
        rintro e w5 ⟨rfl, hx⟩
        have hbz' : Below w.heap.size w w5 := hbz.trans (hx.mono hbz.size)
        have HV' : Hid (Blk w5 w3.heap.size #[.iface 39 (.pointer (some ⟨g, 0, none⟩))] 34) := HV.out.below hx
        have HZ' : Hid (Blk w5 w.heap.size #[.int .i64 3, .int .i64 N, .string S, .slice pe Ke ce, .slice pr Kr cr] 25) := HZ.out.below hx
        clear hx hbz HV HZ c0 c1 c2 c3
        have hbz := hbz'
        have HV := HV'
        have HZ := HZ'
        clear hbz' HV' HZ'
        have c0 := (HZ.out.cell 0).trans rfl
        have c1 := (HZ.out.cell 1).trans rfl
        have c2 := (HZ.out.cell 2).trans rfl
        have c3 := (HV.out.cell 0).trans rfl
        go_wp2_with fail
        refine (asNode_yes _ _).mono ?_
        rintro e w6 ⟨rfl, hx⟩
        have hbz' : Below w.heap.size w w6 := hbz.trans (hx.mono hbz.size)
        have HV' : Hid (Blk w6 w3.heap.size #[.iface 39 (.pointer (some ⟨g, 0, none⟩))] 34) := HV.out.below hx
        have HZ' : Hid (Blk w6 w.heap.size #[.int .i64 3, .int .i64 N, .string S, .slice pe Ke ce, .slice pr Kr cr] 25) := HZ.out.below hx
        clear hx hbz HV HZ c0 c1 c2 c3
        have hbz := hbz'
        have HV := HV'
        have HZ := HZ'
        clear hbz' HV' HZ'
        have c0 := (HZ.out.cell 0).trans rfl
        have c1 := (HZ.out.cell 1).trans rfl
        have c2 := (HZ.out.cell 2).trans rfl
        have c3 := (HV.out.cell 0).trans rfl
        go_wp2_with fail
        go_quiet (fail)
        have hdr : Below w6.heap.size w6 (w6.drewN nq) := below_drewN nq (Below.refl _ _)
        have hbz' : Below w.heap.size w (w6.drewN nq) := below_drewN nq hbz
        have HV' : Hid (Blk (w6.drewN nq) w3.heap.size #[.iface 39 (.pointer (some ⟨g, 0, none⟩))] 34) := HV.out.below hdr
        have HZ' : Hid (Blk (w6.drewN nq) w.heap.size #[.int .i64 3, .int .i64 N, .string S, .slice pe Ke ce, .slice pr Kr cr] 25) := HZ.out.below hdr
        clear hdr hbz HV HZ c0 c1 c2 c3
        generalize w6.drewN nq = wq at *
        have hbz := hbz'
        have HV := HV'
        have HZ := HZ'
        clear hbz' HV' HZ'
        have c0 := (HZ.out.cell 0).trans rfl
        have c1 := (HZ.out.cell 1).trans rfl
        have c2 := (HZ.out.cell 2).trans rfl
        have c3 := (HV.out.cell 0).trans rfl
        go_wp2_with fail
        refine (panics_yes (.iface 39 (.pointer (some ⟨g, 0, none⟩))) 0 _ (.inl rfl) fun W => mustNum_no _ W (.inr ⟨_, _, rfl, by decide⟩)).mono ?_
        rintro e w7 ⟨rfl, hx⟩
        have hbz' : Below w.heap.size w w7 := hbz.trans (hx.mono hbz.size)
        have HV' : Hid (Blk w7 w3.heap.size #[.iface 39 (.pointer (some ⟨g, 0, none⟩))] 34) := HV.out.below hx
        have HZ' : Hid (Blk w7 w.heap.size #[.int .i64 3, .int .i64 N, .string S, .slice pe Ke ce, .slice pr Kr cr] 25) := HZ.out.below hx
        clear hx hbz HV HZ c0 c1 c2 c3
        have hbz := hbz'
        have HV := HV'
        have HZ := HZ'
        clear hbz' HV' HZ'
        have c0 := (HZ.out.cell 0).trans rfl
        have c1 := (HZ.out.cell 1).trans rfl
        have c2 := (HZ.out.cell 2).trans rfl
        have c3 := (HV.out.cell 0).trans rfl
        go_wp2_with fail
        refine (panics_yes (.iface 39 (.pointer (some ⟨g, 0, none⟩))) 1 _ (.inr (.inl rfl)) fun W => mustStr_no _ W (.inr ⟨_, _, rfl, by decide⟩)).mono ?_
        rintro e w8 ⟨rfl, hx⟩
        have hbz' : Below w.heap.size w w8 := hbz.trans (hx.mono hbz.size)
        have HV' : Hid (Blk w8 w3.heap.size #[.iface 39 (.pointer (some ⟨g, 0, none⟩))] 34) := HV.out.below hx
        have HZ' : Hid (Blk w8 w.heap.size #[.int .i64 3, .int .i64 N, .string S, .slice pe Ke ce, .slice pr Kr cr] 25) := HZ.out.below hx
        clear hx hbz HV HZ c0 c1 c2 c3
        have hbz := hbz'
        have HV := HV'
        have HZ := HZ'
        clear hbz' HV' HZ'
        have c0 := (HZ.out.cell 0).trans rfl
        have c1 := (HZ.out.cell 1).trans rfl
        have c2 := (HZ.out.cell 2).trans rfl
        have c3 := (HV.out.cell 0).trans rfl
        go_wp2_with fail
        refine (panics_no (.iface 39 (.pointer (some ⟨g, 0, none⟩))) 2 _ (.inr (.inr rfl)) fun W => (mustNode_yes _ W).mono fun _ _ h => ⟨⟨_, h.1⟩, h.2⟩).mono ?_
        rintro e w9 ⟨rfl, hx⟩
        have hbz' : Below w.heap.size w w9 := hbz.trans (hx.mono hbz.size)
        have HV' : Hid (Blk w9 w3.heap.size #[.iface 39 (.pointer (some ⟨g, 0, none⟩))] 34) := HV.out.below hx
        have HZ' : Hid (Blk w9 w.heap.size #[.int .i64 3, .int .i64 N, .string S, .slice pe Ke ce, .slice pr Kr cr] 25) := HZ.out.below hx
        clear hx hbz HV HZ c0 c1 c2 c3
        have hbz := hbz'
        have HV := HV'
        have HZ := HZ'
        clear hbz' HV' HZ'
        have c0 := (HZ.out.cell 0).trans rfl
        have c1 := (HZ.out.cell 1).trans rfl
        have c2 := (HZ.out.cell 2).trans rfl
        have c3 := (HV.out.cell 0).trans rfl
        go_wp2_with fail
        refine (awake_any _).mono ?_
        rintro e w10 ⟨rfl, hx⟩
        have hbz' : Below w.heap.size w w10 := hbz.trans (hx.mono hbz.size)
        have HV' : Hid (Blk w10 w3.heap.size #[.iface 39 (.pointer (some ⟨g, 0, none⟩))] 34) := HV.out.below hx
        have HZ' : Hid (Blk w10 w.heap.size #[.int .i64 3, .int .i64 N, .string S, .slice pe Ke ce, .slice pr Kr cr] 25) := HZ.out.below hx
        clear hx hbz HV HZ c0 c1 c2 c3
        have hbz := hbz'
        have HV := HV'
        have HZ := HZ'
        clear hbz' HV' HZ'
        have c0 := (HZ.out.cell 0).trans rfl
        have c1 := (HZ.out.cell 1).trans rfl
        have c2 := (HZ.out.cell 2).trans rfl
        have c3 := (HV.out.cell 0).trans rfl
        go_wp2_with fail
        go_ret
        exact ⟨rfl, hbz⟩
end Go.Proofs.Ytkombjmookplpaa
