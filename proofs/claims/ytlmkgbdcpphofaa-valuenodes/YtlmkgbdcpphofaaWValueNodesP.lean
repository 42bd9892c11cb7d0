/- ValueNodes answers true at every tree and tag. -/
import Derived.Test.YtlmkgbdcpphofaaVoOf
import Derived.Test.YtlmkgbdcpphofaaTvOpen
import Derived.Test.YtlmkgbdcpphofaaTvRSame
import Derived.Test.YtlmkgbdcpphofaaVaKind
import Derived.Test.YtlmkgbdcpphofaaVbPack
import Derived.Test.YtlmkgbdcpphofaaVrPack
import Derived.Test.YtlmkgbdcpphofaaRwSame
namespace Go.Proofs.Ytlmkgbdcpphofaa
open Go.ChangeShapes Go.WideShapes Go.ChangeAt Go.RowKit
set_option linter.unusedVariables false
set_option linter.unusedSimpArgs false
set_option maxRecDepth 20000

theorem VaC.kindOf {n : Nat} {w : World} {x : Value} {t : Tr} (h : VaC n w [x] t) (W : World) : Calls Try.prog 19 #[.agg #[x]] W fun e w' => e = .returned (.int .i64 t.kind) ∧ Below W.heap.size W w' := by
  cases n with
  | zero => exact h.elim
  | succ n =>
    rcases h with ⟨h1, h2, h3⟩ | ⟨h1, h2, h3⟩ | ⟨g, vn, vr, h1, h2, -⟩
    · obtain rfl := (List.cons.inj h1).1
      rw [h2]
      exact kind1_any _ W
    · obtain rfl := (List.cons.inj h1).1
      rw [h2]
      exact kind2_any _ W
    · obtain rfl := (List.cons.inj h1).1
      rw [h2]
      exact kind3_any _ W
theorem VaC.node {n : Nat} {w : World} {x : Value} {t : Tr} (h : VaC (n + 1) w [x] t) (hk : t.kind = 3) : ∃ g vn vr, x = .iface 39 (.pointer (some ⟨g, 0, none⟩)) ∧ Blk w g #[vn, vr] 89 ∧ RowG w vr 4 (fdRows t.rest) ∧ VesC n w vn t.es := by
  rcases h with ⟨h1, h2, h3⟩ | ⟨h1, h2, h3⟩ | ⟨g, vn, vr, h1, h2, h3, h4, h5, h6⟩
  · rw [h2] at hk; simp at hk
  · rw [h2] at hk; simp at hk
  · exact ⟨g, vn, vr, (List.cons.inj h1).1, h3, h5, h6⟩
theorem ents_oneG : ∀ (l : List (Int × List Tr)) (last : Int), entsB last l = true → ∀ e ∈ l, last < e.1 ∧ 1 ≤ e.2.length ∧ e.2.length ≤ 64
  | [], _, _, e, he => by cases he
  | a :: l, last, h, e, he => by
    simp only [entsB, Bool.and_eq_true, decide_eq_true_eq] at h
    rcases List.mem_cons.1 he with rfl | he
    · exact ⟨h.1.1.1.1.1, h.1.1.1.2, h.1.1.2⟩
    · have := ents_oneG l _ h.2 e he
      exact ⟨by omega, this.2⟩
theorem ents_first : ∀ (l : List (Int × List Tr)) (last : Int), entsB last l = true → ∀ (i : Nat) (x : Int × List Tr), l[i]? = some x → hasB (l.take i) x.1 = false
  | [], _, _, i, x, hx => by simp at hx
  | a :: l, last, h, 0, x, hx => by simp [hasB]
  | a :: l, last, h, i + 1, x, hx => by
    simp only [entsB, Bool.and_eq_true, decide_eq_true_eq] at h
    have h1 := ents_oneG l _ h.2 x (List.mem_of_getElem? (by simpa using hx))
    have h2 := ents_first l _ h.2 i x (by simpa using hx)
    simp only [List.take_succ_cons, hasB, List.any_cons, Bool.or_eq_false_iff]
    exact ⟨by simp; omega, h2⟩
theorem chk_ents {n : Nat} {t : Tr} (h : chkN (n + 1) t = true) (hk : t.kind = 3) : entsB 0 t.es = true := by
  simp only [chkN, okN, Bool.and_eq_true] at h
  have h1 := h.2.1
  simp only [lvB, hk] at h1
  simp at h1
  exact h1.1.2
theorem und_has {es : List (Int × List Tr)} {tag : Int} (h : ∀ e ∈ es, 1 ≤ e.2.length) : hasB es tag = true → 0 < (undB es tag).length := by
  intro ha
  obtain ⟨e, he, ht⟩ := List.any_eq_true.1 ha
  have h3 : ∃ y, es.find? (fun e => e.1 == tag) = some y := by
    cases hq : es.find? (fun e => e.1 == tag) with
    | none => exact absurd ht (by have := List.find?_eq_none.1 hq e he; simpa using this)
    | some y => exact ⟨y, rfl⟩
  obtain ⟨y, hy⟩ := h3
  rw [undB, hy]
  have := h y (List.mem_of_find?_eq_some hy)
  simp; omega
theorem sameRaws_any {w : World} {v1 v2 : Value} {l : List Fd} (h1 : RowG w v1 4 (fdRows l)) (h2 : RowG w v2 4 (fdRows l)) (hl : l.length ≤ 1000) :
    Calls Try.prog 22 #[v1, v2] w fun e w' => e = .returned (.bool true) ∧ Below w.heap.size w w' := by
  obtain ⟨a, c, rfl, a1, a2, a3, -⟩ := rest_holds h1
  obtain ⟨b, d, rfl, b1, b2, b3, -⟩ := rest_holds h2
  exact same_any a b l l.length c d w rfl a3 b3 a1 b1 a2 b2 (by omega) (rowG_holdsW h1) (rowG_holdsW h2)
theorem tags_row {w : World} {B : Nat} {v : Value} {es : List (Int × List Tr)} (h : w.ownsRow B 3 1 v es.length (tagCells es)) : RowP (fun r (e : Int × List Tr) => r = [.int .i64 e.1]) w 1 v es := by
  have e1 : tagCells es = (es.map fun e => [Value.int .i64 e.1]).flatten := by
    clear h
    induction es with
    | nil => rfl
    | cons a l ih => simp [tagCells] at ih ⊢; exact ih
  rw [e1] at h
  refine ⟨_, (RowG.own (fun r hr => ?_) (by decide) h).1, by simp, fun i x hx => ⟨_, by rw [List.getElem?_map, hx]; rfl, rfl⟩⟩
  obtain ⟨e, _, rfl⟩ := List.mem_map.1 hr
  rfl
set_option maxHeartbeats 4000000 in
theorem valueNodes_walk (v : Value) (n : Nat) (t : Tr) (tag : Int) (w : World) (h : TrIn n w v t) (htag : (Lit.int .i64 tag).wf = true) :
    Calls Try.prog 5 #[v, .int .i64 tag] w fun e w' => e = .returned (.bool true) ∧ Below w.heap.size w w' := by
  have HS : Hid (∀ W, Below w.heap.size w W → Calls Try.prog 9 #[v] W fun e w' => SmallP t v W e ∧ Below W.heap.size W w') := fun W hW => small_any n t v W (h.below hW)
  obtain ⟨m, ve, vr, -, rfl, -, -, -, -, ra, ea⟩ := h.open
  obtain ⟨pe, ce, rfl, -⟩ := ea.open
  obtain ⟨pr, cr, rfl, -⟩ := rest_holds ra
  clear ea ra h
  obtain ⟨Ke, hKe0⟩ : ∃ k, t.es.length = k := ⟨_, rfl⟩
  have HKE : Hid (t.es.length = Ke) := hKe0
  rw [hKe0] at HS ⊢
  clear hKe0
  obtain ⟨Kr, hKr0⟩ : ∃ k, t.rest.length = k := ⟨_, rfl⟩
  have HKR : Hid (t.rest.length = Kr) := hKr0
  rw [hKr0] at HS ⊢
  clear hKr0 htag
  have al : Below w.heap.size w (w.alloc (Obj.cells #[.int .i64 t.kind, .int .i64 t.n, .string t.s, .slice pe Ke ce, .slice pr Kr cr] 25)) := (Below.refl _ _).alloc (Nat.le_refl _) _
  have HB : Hid (Blk (w.alloc (Obj.cells #[.int .i64 t.kind, .int .i64 t.n, .string t.s, .slice pe Ke ce, .slice pr Kr cr] 25)) w.heap.size #[.int .i64 t.kind, .int .i64 t.n, .string t.s, .slice pe Ke ce, .slice pr Kr cr] 25) := Blk.new w _ _
  have HCY : Hid (∀ W, Below w.heap.size w W → TrIn 14 W (.agg #[.int .i64 t.kind, .int .i64 t.n, .string t.s, .slice pe Ke ce, .slice pr Kr cr]) t → SmN 14 t → Calls Try.prog 11 #[.agg #[.int .i64 t.kind, .int .i64 t.n, .string t.s, .slice pe Ke ce, .slice pr Kr cr]] W (CopyP 14 t W)) := fun W hW h1 h2 => copy_any 14 t _ W h1 h2
  have HKN : Hid ((t.kind = 1 → t.kind = 1) ∧ True) := ⟨fun h => h, trivial⟩
  obtain ⟨K, hK⟩ : ∃ z, t.kind = z := ⟨_, rfl⟩
  obtain ⟨N, hN⟩ : ∃ z, t.n = z := ⟨_, rfl⟩
  obtain ⟨S, hS⟩ : ∃ z, t.s = z := ⟨_, rfl⟩
  have HK : Hid (t.kind = K ∧ t.n = N ∧ t.s = S) := ⟨hK, hN, hS⟩
  rw [hK, hN, hS] at HS HB al HCY ⊢
  clear hK hN hS HKN
  go_enter Try.func5, Try.ntmps5
  go_wp2_with fail
  refine (HS.out _ al).mono ?_
  rintro e w1 ⟨⟨R, rfl, hR⟩, hb1⟩
  have hbw1 : Below w.heap.size w w1 := al.trans (hb1.mono al.size)
  have HB1 : Hid (Blk w1 w.heap.size #[.int .i64 K, .int .i64 N, .string S, .slice pe Ke ce, .slice pr Kr cr] 25) := HB.out.below hb1
  have HRR : Hid (R = true → SmN 14 t ∧ cntN 14 t ≤ 200 ∧ TrIn 14 w1 (.agg #[.int .i64 K, .int .i64 N, .string S, .slice pe Ke ce, .slice pr Kr cr]) t) := fun hr => ⟨(hR hr).1, (hR hr).2.1, (hR hr).2.2.below hb1⟩
  clear hR hb1 al HB HS
  cases R with
  | false =>
    go_wp2_with fail
    refine (awake_any _).mono ?_
    rintro e w2 ⟨rfl, hb2⟩
    have hbw2 : Below w.heap.size w w2 := hbw1.trans (hb2.mono hbw1.size)
    go_wp2_with fail
    go_ret
    exact ⟨rfl, hbw2⟩
  | true =>
    obtain ⟨s1, s2, s3⟩ := HRR.out rfl
    have HS1 : Hid (SmN 14 t ∧ cntN 14 t ≤ 200) := ⟨s1, s2⟩
    have HT1 : Hid (TrIn 14 w1 (.agg #[.int .i64 K, .int .i64 N, .string S, .slice pe Ke ce, .slice pr Kr cr]) t) := s3
    have HRC : Hid (Calls Try.prog 13 #[(.agg #[.int .i64 K, .int .i64 N, .string S, .slice pe Ke ce, .slice pr Kr cr])] w1 fun e w' => e = .returned (.bool (chkN 14 t)) ∧ Below w1.heap.size w1 w') := rCheck_any 14 t _ _ s3 (by omega)
    clear s1 s2 s3 HRR HCY
    have q0 := (HB1.out.cell 0).trans rfl
    have q1 := (HB1.out.cell 1).trans rfl
    have q2 := (HB1.out.cell 2).trans rfl
    have q3 := (HB1.out.cell 3).trans rfl
    have q4 := (HB1.out.cell 4).trans rfl
    by_cases hk : K = 3
    rotate_left
    · have hq : (K != 3) = true := by simpa using hk
      go_wp2_with fail
      refine (awake_any _).mono ?_
      rintro e wk ⟨rfl, hbk⟩
      have hbwk : Below w.heap.size w wk := hbw1.trans (hbk.mono hbw1.size)
      clear hbk
      go_wp2_with fail
      go_ret
      exact ⟨rfl, hbwk⟩
    · have hq : (K != 3) = false := by simpa using hk
      have HK3 : Hid (t.kind = 3) := HK.out.1.trans hk
      clear hk
      go_wp2_with fail
      refine HRC.out.mono ?_
      rintro e w2 ⟨rfl, hb2⟩
      have hbw2 : Below w.heap.size w w2 := hbw1.trans (hb2.mono hbw1.size)
      have HB2 : Hid (Blk w2 w.heap.size #[.int .i64 K, .int .i64 N, .string S, .slice pe Ke ce, .slice pr Kr cr] 25) := HB1.out.below hb2
      have HT2 : Hid (TrIn 14 w2 (.agg #[.int .i64 K, .int .i64 N, .string S, .slice pe Ke ce, .slice pr Kr cr]) t) := HT1.out.below hb2
      clear hb2 hbw1 HB1 HT1 q0 q1 q2 q3 q4 hq HRC
      have q0 := (HB2.out.cell 0).trans rfl
      have q1 := (HB2.out.cell 1).trans rfl
      have q2 := (HB2.out.cell 2).trans rfl
      have q3 := (HB2.out.cell 3).trans rfl
      have q4 := (HB2.out.cell 4).trans rfl
      cases hck : chkN 14 t with
      | false =>
        go_wp2_with fail
        refine (awake_any _).mono ?_
        rintro e wk ⟨rfl, hbk⟩
        have hbwk : Below w.heap.size w wk := hbw2.trans (hbk.mono hbw2.size)
        clear hbk
        go_wp2_with fail
        go_ret
        exact ⟨rfl, hbwk⟩
      | true =>
        have HCK : Hid (chkN 14 t = true) := hck
        clear hck
        have HC : Hid (Calls Try.prog 11 #[(.agg #[.int .i64 K, .int .i64 N, .string S, .slice pe Ke ce, .slice pr Kr cr])] w2 (CopyP 14 t w2)) := copy_any 14 t _ w2 HT2.out HS1.out.1
        go_wp2_with fail
        refine HC.out.mono ?_
        rintro e w3 ⟨xv, bs, rfl, hX, hb3⟩
        have hbw3 : Below w.heap.size w w3 := hbw2.trans (hb3.mono hbw2.size)
        have HT3 : Hid (TrIn 14 w3 (.agg #[.int .i64 K, .int .i64 N, .string S, .slice pe Ke ce, .slice pr Kr cr]) t) := HT2.out.below hb3
        have HB3 : Hid (Blk w3 w.heap.size #[.int .i64 K, .int .i64 N, .string S, .slice pe Ke ce, .slice pr Kr cr] 25) := HB2.out.below hb3
        have HX2 : Hid (TrV2 14 w3 xv t) := (by obtain ⟨r, h1, h2, _⟩ := hX; exact ⟨r, h1, h2.trQ⟩ : TrV2 14 w3 xv t)
        have HO : Hid (Calls Try.prog 18 #[xv] w3 (OfP 14 t w3)) := of_any 14 t xv w3 HX2.out (by omega) (by have := HS1.out.2; omega) HS1.out.1
        clear hX hb3 HC HB2 HT2 hbw2 q0 q1 q2 q3 q4 HX2
        go_wp2_with fail
        refine HO.out.mono ?_
        rintro e w4 ⟨hOf, hb4⟩
        have HT4 : Hid (TrIn 14 w4 (.agg #[.int .i64 K, .int .i64 N, .string S, .slice pe Ke ce, .slice pr Kr cr]) t) := HT3.out.below hb4
        have HB4 : Hid (Blk w4 w.heap.size #[.int .i64 K, .int .i64 N, .string S, .slice pe Ke ce, .slice pr Kr cr] 25) := HB3.out.below hb4
        have hbw4 : Below w.heap.size w w4 := hbw3.trans (hb4.mono hbw3.size)
        clear hb4 hbw3 HB3 HT3 HO
        rcases hOf with ⟨hcf, _⟩ | ⟨-, x, bs3, rfl, hV, hAp⟩
        · have := hcf.symm.trans HCK.out
          simp at this
        obtain ⟨gn, vn, vrn, rfl, hBn, hRn, hEn⟩ := VaC.node hV.vaC HK3.out
        have al5 : Below w4.heap.size w4 (w4.alloc (Obj.cells #[.iface 39 (.pointer (some ⟨gn, 0, none⟩))] 34)) := (Below.refl _ _).alloc (Nat.le_refl _) _
        have hbw5 : Below w.heap.size w (w4.alloc (Obj.cells #[.iface 39 (.pointer (some ⟨gn, 0, none⟩))] 34)) := hbw4.trans (al5.mono hbw4.size)
        have HX5 : Hid (Blk (w4.alloc (Obj.cells #[.iface 39 (.pointer (some ⟨gn, 0, none⟩))] 34)) w4.heap.size #[.iface 39 (.pointer (some ⟨gn, 0, none⟩))] 34) := Blk.new w4 _ _
        have HB5 : Hid (Blk (w4.alloc (Obj.cells #[.iface 39 (.pointer (some ⟨gn, 0, none⟩))] 34)) w.heap.size #[.int .i64 K, .int .i64 N, .string S, .slice pe Ke ce, .slice pr Kr cr] 25) := HB4.out.below al5
        have HT5 : Hid (TrIn 14 (w4.alloc (Obj.cells #[.iface 39 (.pointer (some ⟨gn, 0, none⟩))] 34)) (.agg #[.int .i64 K, .int .i64 N, .string S, .slice pe Ke ce, .slice pr Kr cr]) t) := HT4.out.below al5
        have HN5 : Hid (Blk (w4.alloc (Obj.cells #[.iface 39 (.pointer (some ⟨gn, 0, none⟩))] 34)) gn #[vn, vrn] 89) := hBn.below al5
        have HR5 : Hid (RowG (w4.alloc (Obj.cells #[.iface 39 (.pointer (some ⟨gn, 0, none⟩))] 34)) vrn 4 (fdRows t.rest)) := hRn.below al5
        have HE5 : Hid (VesC 13 (w4.alloc (Obj.cells #[.iface 39 (.pointer (some ⟨gn, 0, none⟩))] 34)) vn t.es) := hEn.belowVe al5
        clear hV hAp hBn hRn hEn al5 hbw4 HB4 HT4
        have c0 := (HX5.out.cell 0).trans rfl
        go_wp2_with fail
        refine (asNode_yes _ _).mono ?_
        generalize (w4.alloc (Obj.cells #[.iface 39 (.pointer (some ⟨gn, 0, none⟩))] 34)) = W5 at *
        rintro e w6 ⟨rfl, hb6⟩
        have hbw6 : Below w.heap.size w w6 := hbw5.trans (hb6.mono hbw5.size)
        have HB6 : Hid (Blk w6 w.heap.size #[.int .i64 K, .int .i64 N, .string S, .slice pe Ke ce, .slice pr Kr cr] 25) := HB5.out.below hb6
        have HT6 : Hid (TrIn 14 w6 (.agg #[.int .i64 K, .int .i64 N, .string S, .slice pe Ke ce, .slice pr Kr cr]) t) := HT5.out.below hb6
        have HN6 : Hid (Blk w6 gn #[vn, vrn] 89) := HN5.out.below hb6
        have HR6 : Hid (RowG w6 vrn 4 (fdRows t.rest)) := HR5.out.below hb6
        have HE6 : Hid (VesC 13 w6 vn t.es) := HE5.out.belowVe hb6
        clear c0 hb6 hbw5 HX5 HB5 HT5 HN5 HR5 HE5
        have HSL : Hid (t.rest.length ≤ 40 ∧ t.es.length ≤ 40 ∧ ∀ e ∈ t.es, e.2.length ≤ 70 ∧ ∀ x ∈ e.2, SmN 13 x) := ⟨HS1.out.1.2.1, HS1.out.1.2.2.1, HS1.out.1.2.2.2.2⟩
        have hKe40 : Ke ≤ 40 := by have := HSL.out.2.1; rw [HKE.out] at this; exact this
        have HRS : Hid (∀ W, Below w6.heap.size w6 W → Calls Try.prog 23 #[.pointer (some ⟨gn, 0, none⟩)] W fun e w' => ∃ r, e = .returned r ∧ w'.ownsRow W.heap.size 83 4 r t.rest.length (rawCells t.rest) ∧ Below W.heap.size W w') := fun W hW => nrest_any (HN6.out.below hW) (HR6.out.below hW) (by have := HSL.out.1; omega)
        have HTG : Hid (∀ W, Below w6.heap.size w6 W → Calls Try.prog 24 #[.pointer (some ⟨gn, 0, none⟩)] W fun e w' => ∃ r, e = .returned r ∧ w'.ownsRow W.heap.size 3 1 r t.es.length (tagCells t.es) ∧ Below W.heap.size W w') := fun W hW => ntags_any (HN6.out.below hW) (HE6.out.belowVe hW) (by have := HSL.out.2.1; omega)
        have HGT : Hid (∀ (k : Int) W, Below w6.heap.size w6 W → Calls Try.prog 25 #[.pointer (some ⟨gn, 0, none⟩), .int .i64 k] W fun e w' => ∃ r, e = .returned r ∧ VasC 13 w' r (undB t.es k) ∧ Below W.heap.size W w') := fun k W hW => nget_any k (HN6.out.below hW) (HE6.out.belowVe hW) (fun e he => by have := (HSL.out.2.2 e he).1; omega)
        have HSR : Hid (∀ W v1, Below w6.heap.size w6 W → RowG W v1 4 (fdRows t.rest) → Calls Try.prog 22 #[v1, .slice pr Kr cr] W fun e w' => e = .returned (.bool true) ∧ Below W.heap.size W w') := fun W v1 hW h1 => by
          obtain ⟨m', ve', vr', -, hve, -, -, -, -, ra', -⟩ := HT6.out.open
          have hvr : vr' = .slice pr Kr cr := by simp only [Value.agg.injEq, Array.mk.injEq, List.cons.injEq] at hve; exact hve.2.2.2.2.1.symm
          rw [hvr] at ra'
          exact sameRaws_any h1 (ra'.below hW) (by have := HSL.out.1; omega)
        go_wp2_with fail
        obtain ⟨b1, hb1'⟩ : ∃ b, w.heap.size = b := ⟨_, rfl⟩
        rw [hb1'] at HB6
        simp only [hb1']
        have hS : Below w6.heap.size w6 w6.drew := (Below.refl _ _).drew
        refine wp_region_held_drew (S := fun w' => Below w6.heap.size w6 w') (by kernel_rfl) hS (fun hS => ?_)
        refine rg_take 0 40 (.bool true) _ rfl rfl (by kernel_rfl) (by kernel_rfl) (by kernel_rfl) (fun _ _ _ h => h) (by rfl) (fun w' hw' => ?_) hS (listed' := #[true, false, false, false, false, false, false, false, false, false, false, false, false, false, false, false, false, false, false, false, false, false, false]) (by kernel_rfl) rfl ?_
        · go_simp
        simp only [List.setIfInBounds_toArray, List.set_cons_zero, List.set_cons_succ]
        refine rg_take 1 41 (.bool false) _ rfl rfl (by kernel_rfl) (by kernel_rfl) (by kernel_rfl) (fun _ _ _ h => h) (by rfl) (fun w' hw' => ?_) hS (listed' := #[true, true, false, false, false, false, false, false, false, false, false, false, false, false, false, false, false, false, false, false, false, false, false]) (by kernel_rfl) rfl ?_
        · go_simp
        simp only [List.setIfInBounds_toArray, List.set_cons_zero, List.set_cons_succ]
        refine rg_take 2 42 (.bool false) _ rfl rfl (by kernel_rfl) (by kernel_rfl) (by kernel_rfl) (fun _ _ _ h => h) (by rfl) (fun w' hw' => ?_) hS (listed' := #[true, true, true, false, false, false, false, false, false, false, false, false, false, false, false, false, false, false, false, false, false, false, false]) (by kernel_rfl) rfl ?_
        · go_simp
        simp only [List.setIfInBounds_toArray, List.set_cons_zero, List.set_cons_succ]
        refine rg_take 3 43 (.pointer (some ⟨gn, 0, none⟩)) _ rfl rfl (by kernel_rfl) (by kernel_rfl) (by kernel_rfl) (fun _ _ _ h => h) (by rfl) (fun w' hw' => ?_) hS (listed' := #[true, true, true, true, false, false, false, false, false, false, false, false, false, false, false, false, false, false, false, false, false, false, false]) (by kernel_rfl) rfl ?_
        · go_simp
        simp only [List.setIfInBounds_toArray, List.set_cons_zero, List.set_cons_succ]
        refine rg_take 4 44 (.bool false) _ rfl rfl (by kernel_rfl) (by kernel_rfl) (by kernel_rfl) (fun _ _ _ h => h) (by rfl) (fun w' hw' => ?_) hS (listed' := #[true, true, true, true, true, false, false, false, false, false, false, false, false, false, false, false, false, false, false, false, false, false, false]) (by kernel_rfl) rfl ?_
        · go_simp
        simp only [List.setIfInBounds_toArray, List.set_cons_zero, List.set_cons_succ]
        refine rg_take 5 45 (.bool false) _ rfl rfl (by kernel_rfl) (by kernel_rfl) (by kernel_rfl) (fun _ _ _ h => h) (by rfl) (fun w' hw' => ?_) hS (listed' := #[true, true, true, true, true, true, false, false, false, false, false, false, false, false, false, false, false, false, false, false, false, false, false]) (by kernel_rfl) rfl ?_
        · go_simp
        simp only [List.setIfInBounds_toArray, List.set_cons_zero, List.set_cons_succ]
        refine rg_take 6 46 (.bool false) _ rfl rfl (by kernel_rfl) (by kernel_rfl) (by kernel_rfl) (fun _ _ _ h => h) (by rfl) (fun w' hw' => ?_) hS (listed' := #[true, true, true, true, true, true, true, false, false, false, false, false, false, false, false, false, false, false, false, false, false, false, false]) (by kernel_rfl) rfl ?_
        · go_simp
        simp only [List.setIfInBounds_toArray, List.set_cons_zero, List.set_cons_succ]
        refine rg_take 7 47 (.pointer (some ⟨gn, 0, none⟩)) _ rfl rfl (by kernel_rfl) (by kernel_rfl) (by kernel_rfl) (fun _ _ _ h => h) (by rfl) (fun w' hw' => ?_) hS (listed' := #[true, true, true, true, true, true, true, true, false, false, false, false, false, false, false, false, false, false, false, false, false, false, false]) (by kernel_rfl) rfl ?_
        · go_simp
        simp only [List.setIfInBounds_toArray, List.set_cons_zero, List.set_cons_succ]
        refine rg_take 9 49 (.pointer (some ⟨b1, 4, none⟩)) _ rfl rfl (by kernel_rfl) (by kernel_rfl) (by kernel_rfl) (fun _ _ _ h => h) (by rfl) (fun w' hw' => ?_) hS (listed' := #[true, true, true, true, true, true, true, true, false, true, false, false, false, false, false, false, false, false, false, false, false, false, false]) (by kernel_rfl) rfl ?_
        · go_simp
        simp only [List.setIfInBounds_toArray, List.set_cons_zero, List.set_cons_succ]
        refine rg_take 10 50 (.slice pr Kr cr) _ rfl rfl (by kernel_rfl) (by kernel_rfl) (by kernel_rfl) (fun _ _ _ h => h) (by rfl) (fun w' hw' => ?_) hS (listed' := #[true, true, true, true, true, true, true, true, false, true, true, false, false, false, false, false, false, false, false, false, false, false, false]) (by kernel_rfl) rfl ?_
        · have f := (HB6.out.below hw').cell 4; go_simp
        simp only [List.setIfInBounds_toArray, List.set_cons_zero, List.set_cons_succ]
        refine rg_call 8 48 23 #[.pointer (some ⟨gn, 0, none⟩)] rfl rfl (by kernel_rfl) (by rfl) (listed' := #[true, true, true, true, true, true, true, true, true, true, true, false, false, false, false, false, false, false, false, false, false, false, false]) (by kernel_rfl) (fun W => by go_simp) ?_
        refine (HRS.out _ hS).mono ?_
        rintro e W1 ⟨r1, rfl, ho1, hbW1⟩
        have HG1 : Hid (RowG W1 r1 4 (fdRows t.rest)) := own_rest ho1
        obtain ⟨na, nc, rfl⟩ := own_form ho1
        have hS0 := hS
        have hS : Below w6.heap.size w6 W1 := hS0.trans (hbW1.mono hS0.size)
        clear hS0 ho1 hbW1
        generalize t.rest.length = Ln at HG1 ⊢
        refine ⟨_, rfl, hS, ?_⟩
        simp only [List.setIfInBounds_toArray, List.set_cons_zero, List.set_cons_succ]
        refine rg_call 11 51 22 #[.slice na Ln nc, .slice pr Kr cr] rfl rfl (by kernel_rfl) (by rfl) (listed' := #[true, true, true, true, true, true, true, true, true, true, true, true, false, false, false, false, false, false, false, false, false, false, false]) (by kernel_rfl) (fun W => by go_simp) ?_
        refine (HSR.out _ _ hS HG1.out).mono ?_
        rintro e W2 ⟨rfl, hbW2⟩
        have hS0 := hS
        have hS : Below w6.heap.size w6 W2 := hS0.trans (hbW2.mono hS0.size)
        clear hS0 hbW2
        refine ⟨_, rfl, hS, ?_⟩
        simp only [List.setIfInBounds_toArray, List.set_cons_zero, List.set_cons_succ]
        refine rg_take 12 52 (.bool false) _ rfl rfl (by kernel_rfl) (by kernel_rfl) (by kernel_rfl) (fun _ _ _ h => h) (by rfl) (fun w' hw' => ?_) hS (listed' := #[true, true, true, true, true, true, true, true, true, true, true, true, true, false, false, false, false, false, false, false, false, false, false]) (by kernel_rfl) rfl ?_
        · go_simp
        simp only [List.setIfInBounds_toArray, List.set_cons_zero, List.set_cons_succ]
        refine rg_take 13 53 (.bool false) _ rfl rfl (by kernel_rfl) (by kernel_rfl) (by kernel_rfl) (fun _ _ _ h => h) (by rfl) (fun w' hw' => ?_) hS (listed' := #[true, true, true, true, true, true, true, true, true, true, true, true, true, true, false, false, false, false, false, false, false, false, false]) (by kernel_rfl) rfl ?_
        · go_simp
        simp only [List.setIfInBounds_toArray, List.set_cons_zero, List.set_cons_succ]
        refine rg_take 14 54 (.bool false) _ rfl rfl (by kernel_rfl) (by kernel_rfl) (by kernel_rfl) (fun _ _ _ h => h) (by rfl) (fun w' hw' => ?_) hS (listed' := #[true, true, true, true, true, true, true, true, true, true, true, true, true, true, true, false, false, false, false, false, false, false, false]) (by kernel_rfl) rfl ?_
        · go_simp
        simp only [List.setIfInBounds_toArray, List.set_cons_zero, List.set_cons_succ]
        refine rg_take 15 55 (.pointer (some ⟨gn, 0, none⟩)) _ rfl rfl (by kernel_rfl) (by kernel_rfl) (by kernel_rfl) (fun _ _ _ h => h) (by rfl) (fun w' hw' => ?_) hS (listed' := #[true, true, true, true, true, true, true, true, true, true, true, true, true, true, true, true, false, false, false, false, false, false, false]) (by kernel_rfl) rfl ?_
        · go_simp
        simp only [List.setIfInBounds_toArray, List.set_cons_zero, List.set_cons_succ]
        refine rg_take 18 58 (.pointer (some ⟨b1, 3, none⟩)) _ rfl rfl (by kernel_rfl) (by kernel_rfl) (by kernel_rfl) (fun _ _ _ h => h) (by rfl) (fun w' hw' => ?_) hS (listed' := #[true, true, true, true, true, true, true, true, true, true, true, true, true, true, true, true, false, false, true, false, false, false, false]) (by kernel_rfl) rfl ?_
        · go_simp
        simp only [List.setIfInBounds_toArray, List.set_cons_zero, List.set_cons_succ]
        refine rg_take 19 59 (.slice pe Ke ce) _ rfl rfl (by kernel_rfl) (by kernel_rfl) (by kernel_rfl) (fun _ _ _ h => h) (by rfl) (fun w' hw' => ?_) hS (listed' := #[true, true, true, true, true, true, true, true, true, true, true, true, true, true, true, true, false, false, true, true, false, false, false]) (by kernel_rfl) rfl ?_
        · have f := (HB6.out.below hw').cell 3; go_simp
        simp only [List.setIfInBounds_toArray, List.set_cons_zero, List.set_cons_succ]
        refine rg_take 20 60 (.int .i64 (Ke : Int)) _ rfl rfl (by kernel_rfl) (by kernel_rfl) (by kernel_rfl) (fun _ _ _ h => h) (by rfl) (fun w' hw' => ?_) hS (listed' := #[true, true, true, true, true, true, true, true, true, true, true, true, true, true, true, true, false, false, true, true, true, false, false]) (by kernel_rfl) rfl ?_
        · go_simp
        simp only [List.setIfInBounds_toArray, List.set_cons_zero, List.set_cons_succ]
        refine rg_call 16 56 24 #[.pointer (some ⟨gn, 0, none⟩)] rfl rfl (by kernel_rfl) (by rfl) (listed' := #[true, true, true, true, true, true, true, true, true, true, true, true, true, true, true, true, true, false, true, true, true, false, false]) (by kernel_rfl) (fun W => by go_simp) ?_
        refine (HTG.out _ hS).mono ?_
        rintro e W3 ⟨r3, rfl, ho3, hbW3⟩
        obtain ⟨ma, mc, rfl⟩ := own_form ho3
        rw [HKE.out]
        have hS0 := hS
        have hS : Below w6.heap.size w6 W3 := hS0.trans (hbW3.mono hS0.size)
        clear hS0 ho3 hbW3
        refine ⟨_, rfl, hS, ?_⟩
        simp only [List.setIfInBounds_toArray, List.set_cons_zero, List.set_cons_succ]
        refine rg_take 17 57 (.int .i64 (Ke : Int)) _ rfl rfl (by kernel_rfl) (by kernel_rfl) (by kernel_rfl) (fun _ _ _ h => h) (by rfl) (fun w' hw' => ?_) hS (listed' := #[true, true, true, true, true, true, true, true, true, true, true, true, true, true, true, true, true, true, true, true, true, false, false]) (by kernel_rfl) rfl ?_
        · go_simp
        simp only [List.setIfInBounds_toArray, List.set_cons_zero, List.set_cons_succ]
        refine rg_take 21 61 (.bool false) _ rfl rfl (by kernel_rfl) (by kernel_rfl) (by kernel_rfl) (fun _ _ _ h => h) (by rfl) (fun w' hw' => ?_) hS (listed' := #[true, true, true, true, true, true, true, true, true, true, true, true, true, true, true, true, true, true, true, true, true, true, false]) (by kernel_rfl) rfl ?_
        · go_simp
        simp only [List.setIfInBounds_toArray, List.set_cons_zero, List.set_cons_succ]
        refine rg_take 22 62 (.bool false) _ rfl rfl (by kernel_rfl) (by kernel_rfl) (by kernel_rfl) (fun _ _ _ h => h) (by rfl) (fun w' hw' => ?_) hS (listed' := #[true, true, true, true, true, true, true, true, true, true, true, true, true, true, true, true, true, true, true, true, true, true, true]) (by kernel_rfl) rfl ?_
        · go_simp
        simp only [List.setIfInBounds_toArray, List.set_cons_zero, List.set_cons_succ]
        refine wpAnyH_done (by kernel_rfl) ?_ _
        go_wp2_with fail
        refine (HTG.out _ hS).mono ?_
        rintro e w8 ⟨r8, rfl, ho8, hb8⟩
        have hS8 : Below w6.heap.size w6 w8 := hS.trans (hb8.mono hS.size)
        have HL8 : Hid (RowP (fun r (e : Int × List Tr) => r = [.int .i64 e.1]) w8 1 r8 t.es) := tags_row ho8
        obtain ⟨la, lc, rfl, hlc1, hlc2, -⟩ := RowP.open HL8.out
        unfold maxLen at hlc2
        rw [HKE.out] at HL8 hlc1 ⊢
        clear hS ho8 hb8 HG1
        have HB8 : Hid (Blk w8 b1 #[.int .i64 K, .int .i64 N, .string S, .slice pe Ke ce, .slice pr Kr cr] 25) := HB6.out.below hS8
        have HT8 : Hid (TrIn 14 w8 (.agg #[.int .i64 K, .int .i64 N, .string S, .slice pe Ke ce, .slice pr Kr cr]) t) := HT6.out.below hS8
        go_wp2_with fail
        go_loopw [10] (fun iv wr => ∃ i : Nat, iv = .int .i64 (i : Int) ∧ i ≤ Ke ∧ Below w8.heap.size w8 wr) (fun iv _ => Ke - (intOf iv).toNat)
        case atStart => exact ⟨0, rfl, by omega, Below.refl _ _⟩
        case round =>
          obtain ⟨i, rfl, hi', hbel⟩ := hrel
          by_cases hlt : i < Ke
          · obtain ⟨x, hx⟩ : ∃ r, t.es[i]? = some r := ⟨_, List.getElem?_eq_getElem (by rw [HKE.out]; exact hlt)⟩
            obtain ⟨gl, offl, rfl, rl, rfl, hcl⟩ := (RowP.mono HL8.out hbel (fun _ _ _ hp => hp)).get hx
            have p0 := hcl 0 _ rfl
            simp only [Nat.mul_one, Nat.add_zero] at p0
            obtain ⟨m', ve', vr', hm', hve, -, -, -, -, -, ea'⟩ := (HT8.out.below hbel).open
            obtain rfl : m' = 13 := by omega
            have hvr : ve' = .slice pe Ke ce := by simp only [Value.agg.injEq, Array.mk.injEq, List.cons.injEq] at hve; exact hve.2.2.2.1.symm
            rw [hvr] at ea'
            obtain ⟨ge, offe, rfl, cce⟩ := ea'.get hx
            obtain ⟨vt, e0, e1, e2, e3⟩ := ens_at cce
            obtain ⟨ta, tc, rfl, ht1, ht2, -⟩ := RowP.open e3
            unfold maxLen at ht2
            have HU : Hid (undB t.es x.1 = x.2) := und_yes hx rfl (ents_first t.es 0 (chk_ents HCK.out HK3.out) i x hx)
            have HXS : Hid (x.2.length ≤ 70 ∧ ∀ y ∈ x.2, SmN 13 y) := HSL.out.2.2 x (List.mem_of_getElem? hx)
            have HG9 : Hid (Calls Try.prog 25 #[.pointer (some ⟨gn, 0, none⟩), .int .i64 x.1] wr fun e w' => ∃ r, e = .returned r ∧ VasC 13 w' r x.2 ∧ Below wr.heap.size wr w') := (by have h9 := HGT.out x.1 wr (hS8.trans (hbel.mono hS8.size)); rw [HU.out] at h9; exact h9 : Calls Try.prog _ _ wr _)
            have HB9 : Hid (Blk wr b1 #[.int .i64 K, .int .i64 N, .string S, .slice (some ⟨ge, offe, none⟩) Ke ce, .slice pr Kr cr] 25) := HB8.out.below hbel
            obtain ⟨Xl, hXl⟩ : ∃ k, x.2.length = k := ⟨_, rfl⟩
            have HXL : Hid (x.2.length = Xl) := hXl
            have HE3 : Hid (TrsIn 13 wr (.slice ta Xl tc) x.2) := (by rw [← hXl]; exact e3 : TrsIn 13 wr (.slice ta Xl tc) x.2)
            rw [hXl] at e1 ht1
            obtain ⟨xt, hxt⟩ : ∃ k, x.1 = k := ⟨_, rfl⟩
            rw [hxt] at p0 e0 HG9
            clear hXl hxt hx e2 e3 cce hve hvr hm' ea' hcl HU
            go_wp2_with fail
            refine HG9.out.mono ?_
            rintro e w9 ⟨r9, rfl, hv9, hb9⟩
            have HV9 : Hid (VasC 13 w9 r9 x.2) := hv9
            obtain ⟨ga, gc, rfl, hg1, hg2, -⟩ := RowP.open hv9
            unfold maxLen at hg2
            rw [HXL.out] at HV9 hg1 ⊢
            have p0 := (hb9.cell (World.block_lt_of_cell? _ _ p0)).trans p0
            have e0 := (hb9.cell (World.block_lt_of_cell? _ _ e0)).trans e0
            have e1 := (hb9.cell (World.block_lt_of_cell? _ _ e1)).trans e1
            have HB10 : Hid (Blk w9 b1 #[.int .i64 K, .int .i64 N, .string S, .slice (some ⟨ge, offe, none⟩) Ke ce, .slice pr Kr cr] 25) := HB9.out.below hb9
            have HE10 : Hid (TrsIn 13 w9 (.slice ta Xl tc) x.2) := HE3.out.belowT hb9
            have hb10 : Below w8.heap.size w8 w9 := hbel.trans (hb9.mono hbel.size)
            have q3 := (HB10.out.cell 3).trans rfl
            clear hv9 HG9 hb9 hbel HB9 HE3
            go_wp2_with fail
            go_quiet (fail)
            have hbn := below_drewN nq hb10
            have hd10 : Below w9.heap.size w9 (w9.drewN nq) := below_drewN nq (Below.refl _ _)
            have HB11 : Hid (Blk (w9.drewN nq) b1 #[.int .i64 K, .int .i64 N, .string S, .slice (some ⟨ge, offe, none⟩) Ke ce, .slice pr Kr cr] 25) := HB10.out.below hd10
            have HE11 : Hid (TrsIn 13 (w9.drewN nq) (.slice ta Xl tc) x.2) := HE10.out.belowT hd10
            have HV11 : Hid (VasC 13 (w9.drewN nq) (.slice ga Xl gc) x.2) := HV9.out.belowV hd10
            have HEC : Hid ((w9.drewN nq).cell? ⟨ge, offe + i * 2 + 1, none⟩ = some (.slice ta Xl tc)) := (hd10.cell (World.block_lt_of_cell? _ _ e1)).trans e1
            clear p0 e0 e1 q3 hb10 hd10 HB10 HE10 HV9
            generalize w9.drewN nq = w10 at *
            go_wp2_with fail
            go_loopw [12] (fun kv wz => ∃ k : Nat, kv = .int .i64 (k : Int) ∧ k ≤ Xl ∧ Below w10.heap.size w10 wz) (fun kv _ => Xl - (intOf kv).toNat)
            case atStart => exact ⟨0, rfl, by omega, Below.refl _ _⟩
            case round =>
              obtain ⟨k, rfl, hk', hbz⟩ := hrel
              by_cases hlt2 : k < Xl
              · obtain ⟨y, hy⟩ : ∃ r, x.2[k]? = some r := ⟨_, List.getElem?_eq_getElem (by rw [HXL.out]; exact hlt2)⟩
                obtain ⟨gg, offg, rfl, ccg⟩ := (HV11.out.belowV hbz).get hy
                obtain ⟨Ti, u, v0, v1⟩ := vas_at ccg
                obtain ⟨gt, offt, rfl, cct⟩ := (HE11.out.belowT hbz).get hy
                obtain ⟨a1, n1, c1, a2, n2, c2, t0, t1, t2, t3, t4, t5⟩ := trs_get cct
                have HVY : Hid (VaC 13 wr [.iface Ti u] y) := v1
                have HTY : Hid (TrIn 13 wr (.agg #[.int .i64 y.kind, .int .i64 y.n, .string y.s, .slice a1 n1 c1, .slice a2 n2 c2]) y) := t5
                have HYS : Hid (SmN 13 y) := HXS.out.2 y (List.mem_of_getElem? hy)
                have HKD : Hid (∀ W, Calls Try.prog 19 #[.agg #[.iface Ti u]] W fun e w' => e = .returned (.int .i64 y.kind) ∧ Below W.heap.size W w') := fun W => HVY.out.kindOf W
                have HVT : Hid (∀ W, Below wr.heap.size wr W → Calls Try.prog 20 #[.agg #[.iface Ti u]] W (CopyP 13 y W)) := fun W hW => vtree_any 13 y _ W (HVY.out.below hW) HYS.out
                have HSA : Hid (∀ W va, Below wr.heap.size wr W → TrIn 13 W va y → Calls Try.prog 17 #[va, .agg #[.int .i64 y.kind, .int .i64 y.n, .string y.s, .slice a1 n1 c1, .slice a2 n2 c2]] W fun e w' => e = .returned (.bool true) ∧ Below W.heap.size W w') := fun W va hW hva => by
                  refine Calls.mono (rsame_any 13 13 y y _ _ W hva (HTY.out.below hW)) ?_
                  rintro e W' ⟨⟨R, rfl, hR⟩, hb⟩
                  rw [hR.2 rfl]
                  exact ⟨rfl, hb⟩
                have HCE : Hid (∀ W, Below wr.heap.size wr W → W.cell? ⟨gg, offg + k, none⟩ = some (.iface Ti u) ∧ W.cell? ⟨b1, 3, none⟩ = some (.slice (some ⟨ge, offe, none⟩) Ke ce) ∧ W.cell? ⟨ge, offe + i * 2 + 1, none⟩ = some (.slice (some ⟨gt, offt, none⟩) Xl tc) ∧ W.cell? ⟨gt, offt + k * 5, none⟩ = some (.int .i64 y.kind) ∧ W.cell? ⟨gt, offt + k * 5 + 1, none⟩ = some (.int .i64 y.n) ∧ W.cell? ⟨gt, offt + k * 5 + 2, none⟩ = some (.string y.s) ∧ W.cell? ⟨gt, offt + k * 5 + 3, none⟩ = some (.slice a1 n1 c1) ∧ W.cell? ⟨gt, offt + k * 5 + 4, none⟩ = some (.slice a2 n2 c2)) := fun W hW => by
                  have B := (HB11.out.below hbz).below hW
                  have ec := (hbz.cell (World.block_lt_of_cell? _ _ HEC.out)).trans HEC.out
                  exact ⟨(hW.cell (World.block_lt_of_cell? _ _ v0)).trans v0, (B.cell 3).trans rfl, (hW.cell (World.block_lt_of_cell? _ _ ec)).trans ec, (hW.cell (World.block_lt_of_cell? _ _ t0)).trans t0, (hW.cell (World.block_lt_of_cell? _ _ t1)).trans t1, (hW.cell (World.block_lt_of_cell? _ _ t2)).trans t2, (hW.cell (World.block_lt_of_cell? _ _ t3)).trans t3, (hW.cell (World.block_lt_of_cell? _ _ t4)).trans t4⟩
                clear ccg cct v0 v1 t0 t1 t2 t3 t4 t5 hy HVY HTY HYS
                obtain ⟨yk, hyk⟩ : ∃ k, y.kind = k := ⟨_, rfl⟩
                obtain ⟨yn, hyn⟩ : ∃ k, y.n = k := ⟨_, rfl⟩
                obtain ⟨ys, hys⟩ : ∃ k, y.s = k := ⟨_, rfl⟩
                rw [hyk] at HKD
                rw [hyk, hyn, hys] at HSA HCE
                clear hyk hyn hys
                go_wp2_with fail
                have hS : Below wr.heap.size wr wr.drew := (Below.refl _ _).drew
                refine wp_region_held_drew (S := fun w' => Below wr.heap.size wr w') (by kernel_rfl) hS (fun hS => ?_)
                refine rg_take 0 106 (.slice (some ⟨gg, offg, none⟩) Xl gc) _ rfl rfl (by kernel_rfl) (by kernel_rfl) (by kernel_rfl) (fun _ _ _ h => h) (by rfl) (fun w' hw' => ?_) hS (listed' := #[true, false, false, false, false, false, false, false, false, false, false, false, false, false, false, false, false, false, false, false, false, false, false, false, false, false, false, false, false, false, false, false, false, false]) (by kernel_rfl) rfl ?_
                · go_simp
                simp only [List.setIfInBounds_toArray, List.set_cons_zero, List.set_cons_succ]
                refine rg_take 1 107 (.int .i64 (k : Int)) _ rfl rfl (by kernel_rfl) (by kernel_rfl) (by kernel_rfl) (fun _ _ _ h => h) (by rfl) (fun w' hw' => ?_) hS (listed' := #[true, true, false, false, false, false, false, false, false, false, false, false, false, false, false, false, false, false, false, false, false, false, false, false, false, false, false, false, false, false, false, false, false, false]) (by kernel_rfl) rfl ?_
                · go_simp
                simp only [List.setIfInBounds_toArray, List.set_cons_zero, List.set_cons_succ]
                refine rg_take 2 108 (.pointer (some ⟨gg, offg + k, none⟩)) _ rfl rfl (by kernel_rfl) (by kernel_rfl) (by kernel_rfl) (fun _ _ _ h => h) (by rfl) (fun w' hw' => ?_) hS (listed' := #[true, true, true, false, false, false, false, false, false, false, false, false, false, false, false, false, false, false, false, false, false, false, false, false, false, false, false, false, false, false, false, false, false, false]) (by kernel_rfl) rfl ?_
                · go_simp
                simp only [List.setIfInBounds_toArray, List.set_cons_zero, List.set_cons_succ]
                refine rg_take 3 109 (.agg #[.iface Ti u]) _ rfl rfl (by kernel_rfl) (by kernel_rfl) (by kernel_rfl) (fun _ _ _ h => h) (by rfl) (fun w' hw' => ?_) hS (listed' := #[true, true, true, true, false, false, false, false, false, false, false, false, false, false, false, false, false, false, false, false, false, false, false, false, false, false, false, false, false, false, false, false, false, false]) (by kernel_rfl) rfl ?_
                · obtain ⟨f0, f1, f2, f3, f4, f5, f6, f7⟩ := HCE.out _ hw'; go_simp
                simp only [List.setIfInBounds_toArray, List.set_cons_zero, List.set_cons_succ]
                refine rg_take 5 111 (.pointer (some ⟨b1, 3, none⟩)) _ rfl rfl (by kernel_rfl) (by kernel_rfl) (by kernel_rfl) (fun _ _ _ h => h) (by rfl) (fun w' hw' => ?_) hS (listed' := #[true, true, true, true, false, true, false, false, false, false, false, false, false, false, false, false, false, false, false, false, false, false, false, false, false, false, false, false, false, false, false, false, false, false]) (by kernel_rfl) rfl ?_
                · go_simp
                simp only [List.setIfInBounds_toArray, List.set_cons_zero, List.set_cons_succ]
                refine rg_take 6 112 (.slice (some ⟨ge, offe, none⟩) Ke ce) _ rfl rfl (by kernel_rfl) (by kernel_rfl) (by kernel_rfl) (fun _ _ _ h => h) (by rfl) (fun w' hw' => ?_) hS (listed' := #[true, true, true, true, false, true, true, false, false, false, false, false, false, false, false, false, false, false, false, false, false, false, false, false, false, false, false, false, false, false, false, false, false, false]) (by kernel_rfl) rfl ?_
                · obtain ⟨f0, f1, f2, f3, f4, f5, f6, f7⟩ := HCE.out _ hw'; go_simp
                simp only [List.setIfInBounds_toArray, List.set_cons_zero, List.set_cons_succ]
                refine rg_take 7 113 (.int .i64 (i : Int)) _ rfl rfl (by kernel_rfl) (by kernel_rfl) (by kernel_rfl) (fun _ _ _ h => h) (by rfl) (fun w' hw' => ?_) hS (listed' := #[true, true, true, true, false, true, true, true, false, false, false, false, false, false, false, false, false, false, false, false, false, false, false, false, false, false, false, false, false, false, false, false, false, false]) (by kernel_rfl) rfl ?_
                · go_simp
                simp only [List.setIfInBounds_toArray, List.set_cons_zero, List.set_cons_succ]
                refine rg_take 8 114 (.pointer (some ⟨ge, offe + i * 2, none⟩)) _ rfl rfl (by kernel_rfl) (by kernel_rfl) (by kernel_rfl) (fun _ _ _ h => h) (by rfl) (fun w' hw' => ?_) hS (listed' := #[true, true, true, true, false, true, true, true, true, false, false, false, false, false, false, false, false, false, false, false, false, false, false, false, false, false, false, false, false, false, false, false, false, false]) (by kernel_rfl) rfl ?_
                · go_simp
                simp only [List.setIfInBounds_toArray, List.set_cons_zero, List.set_cons_succ]
                refine rg_take 9 115 (.pointer (some ⟨ge, offe + i * 2 + 1, none⟩)) _ rfl rfl (by kernel_rfl) (by kernel_rfl) (by kernel_rfl) (fun _ _ _ h => h) (by rfl) (fun w' hw' => ?_) hS (listed' := #[true, true, true, true, false, true, true, true, true, true, false, false, false, false, false, false, false, false, false, false, false, false, false, false, false, false, false, false, false, false, false, false, false, false]) (by kernel_rfl) rfl ?_
                · go_simp
                simp only [List.setIfInBounds_toArray, List.set_cons_zero, List.set_cons_succ]
                refine rg_take 10 116 (.slice (some ⟨gt, offt, none⟩) Xl tc) _ rfl rfl (by kernel_rfl) (by kernel_rfl) (by kernel_rfl) (fun _ _ _ h => h) (by rfl) (fun w' hw' => ?_) hS (listed' := #[true, true, true, true, false, true, true, true, true, true, true, false, false, false, false, false, false, false, false, false, false, false, false, false, false, false, false, false, false, false, false, false, false, false]) (by kernel_rfl) rfl ?_
                · obtain ⟨f0, f1, f2, f3, f4, f5, f6, f7⟩ := HCE.out _ hw'; go_simp
                simp only [List.setIfInBounds_toArray, List.set_cons_zero, List.set_cons_succ]
                refine rg_take 11 117 (.int .i64 (k : Int)) _ rfl rfl (by kernel_rfl) (by kernel_rfl) (by kernel_rfl) (fun _ _ _ h => h) (by rfl) (fun w' hw' => ?_) hS (listed' := #[true, true, true, true, false, true, true, true, true, true, true, true, false, false, false, false, false, false, false, false, false, false, false, false, false, false, false, false, false, false, false, false, false, false]) (by kernel_rfl) rfl ?_
                · go_simp
                simp only [List.setIfInBounds_toArray, List.set_cons_zero, List.set_cons_succ]
                refine rg_take 12 118 (.pointer (some ⟨gt, offt + k * 5, none⟩)) _ rfl rfl (by kernel_rfl) (by kernel_rfl) (by kernel_rfl) (fun _ _ _ h => h) (by rfl) (fun w' hw' => ?_) hS (listed' := #[true, true, true, true, false, true, true, true, true, true, true, true, true, false, false, false, false, false, false, false, false, false, false, false, false, false, false, false, false, false, false, false, false, false]) (by kernel_rfl) rfl ?_
                · go_simp
                simp only [List.setIfInBounds_toArray, List.set_cons_zero, List.set_cons_succ]
                refine rg_take 13 119 (.pointer (some ⟨gt, offt + k * 5, none⟩)) _ rfl rfl (by kernel_rfl) (by kernel_rfl) (by kernel_rfl) (fun _ _ _ h => h) (by rfl) (fun w' hw' => ?_) hS (listed' := #[true, true, true, true, false, true, true, true, true, true, true, true, true, true, false, false, false, false, false, false, false, false, false, false, false, false, false, false, false, false, false, false, false, false]) (by kernel_rfl) rfl ?_
                · go_simp
                simp only [List.setIfInBounds_toArray, List.set_cons_zero, List.set_cons_succ]
                refine rg_take 14 120 (.int .i64 yk) _ rfl rfl (by kernel_rfl) (by kernel_rfl) (by kernel_rfl) (fun _ _ _ h => h) (by rfl) (fun w' hw' => ?_) hS (listed' := #[true, true, true, true, false, true, true, true, true, true, true, true, true, true, true, false, false, false, false, false, false, false, false, false, false, false, false, false, false, false, false, false, false, false]) (by kernel_rfl) rfl ?_
                · obtain ⟨f0, f1, f2, f3, f4, f5, f6, f7⟩ := HCE.out _ hw'; go_simp
                simp only [List.setIfInBounds_toArray, List.set_cons_zero, List.set_cons_succ]
                refine rg_call 4 110 19 #[.agg #[.iface Ti u]] rfl rfl (by kernel_rfl) (by rfl) (listed' := #[true, true, true, true, true, true, true, true, true, true, true, true, true, true, true, false, false, false, false, false, false, false, false, false, false, false, false, false, false, false, false, false, false, false]) (by kernel_rfl) (fun W => by go_simp) ?_
                refine (HKD.out _).mono ?_
                rintro e W1 ⟨rfl, hbW1⟩
                have hS0 := hS
                have hS : Below wr.heap.size wr W1 := hS0.trans (hbW1.mono hS0.size)
                clear hS0 hbW1
                refine ⟨_, rfl, hS, ?_⟩
                simp only [List.setIfInBounds_toArray, List.set_cons_zero, List.set_cons_succ]
                refine rg_take 15 121 (.bool false) _ rfl rfl (by kernel_rfl) (by kernel_rfl) (by kernel_rfl) (fun _ _ _ h => h) (by rfl) (fun w' hw' => ?_) hS (listed' := #[true, true, true, true, true, true, true, true, true, true, true, true, true, true, true, true, false, false, false, false, false, false, false, false, false, false, false, false, false, false, false, false, false, false]) (by kernel_rfl) rfl ?_
                · go_simp
                simp only [List.setIfInBounds_toArray, List.set_cons_zero, List.set_cons_succ]
                refine rg_take 16 122 (.bool false) _ rfl rfl (by kernel_rfl) (by kernel_rfl) (by kernel_rfl) (fun _ _ _ h => h) (by rfl) (fun w' hw' => ?_) hS (listed' := #[true, true, true, true, true, true, true, true, true, true, true, true, true, true, true, true, true, false, false, false, false, false, false, false, false, false, false, false, false, false, false, false, false, false]) (by kernel_rfl) rfl ?_
                · go_simp
                simp only [List.setIfInBounds_toArray, List.set_cons_zero, List.set_cons_succ]
                refine rg_take 17 123 (.slice (some ⟨gg, offg, none⟩) Xl gc) _ rfl rfl (by kernel_rfl) (by kernel_rfl) (by kernel_rfl) (fun _ _ _ h => h) (by rfl) (fun w' hw' => ?_) hS (listed' := #[true, true, true, true, true, true, true, true, true, true, true, true, true, true, true, true, true, true, false, false, false, false, false, false, false, false, false, false, false, false, false, false, false, false]) (by kernel_rfl) rfl ?_
                · go_simp
                simp only [List.setIfInBounds_toArray, List.set_cons_zero, List.set_cons_succ]
                refine rg_take 18 124 (.int .i64 (k : Int)) _ rfl rfl (by kernel_rfl) (by kernel_rfl) (by kernel_rfl) (fun _ _ _ h => h) (by rfl) (fun w' hw' => ?_) hS (listed' := #[true, true, true, true, true, true, true, true, true, true, true, true, true, true, true, true, true, true, true, false, false, false, false, false, false, false, false, false, false, false, false, false, false, false]) (by kernel_rfl) rfl ?_
                · go_simp
                simp only [List.setIfInBounds_toArray, List.set_cons_zero, List.set_cons_succ]
                refine rg_take 19 125 (.pointer (some ⟨gg, offg + k, none⟩)) _ rfl rfl (by kernel_rfl) (by kernel_rfl) (by kernel_rfl) (fun _ _ _ h => h) (by rfl) (fun w' hw' => ?_) hS (listed' := #[true, true, true, true, true, true, true, true, true, true, true, true, true, true, true, true, true, true, true, true, false, false, false, false, false, false, false, false, false, false, false, false, false, false]) (by kernel_rfl) rfl ?_
                · go_simp
                simp only [List.setIfInBounds_toArray, List.set_cons_zero, List.set_cons_succ]
                refine rg_take 20 126 (.agg #[.iface Ti u]) _ rfl rfl (by kernel_rfl) (by kernel_rfl) (by kernel_rfl) (fun _ _ _ h => h) (by rfl) (fun w' hw' => ?_) hS (listed' := #[true, true, true, true, true, true, true, true, true, true, true, true, true, true, true, true, true, true, true, true, true, false, false, false, false, false, false, false, false, false, false, false, false, false]) (by kernel_rfl) rfl ?_
                · obtain ⟨f0, f1, f2, f3, f4, f5, f6, f7⟩ := HCE.out _ hw'; go_simp
                simp only [List.setIfInBounds_toArray, List.set_cons_zero, List.set_cons_succ]
                refine rg_take 22 128 (.pointer (some ⟨b1, 3, none⟩)) _ rfl rfl (by kernel_rfl) (by kernel_rfl) (by kernel_rfl) (fun _ _ _ h => h) (by rfl) (fun w' hw' => ?_) hS (listed' := #[true, true, true, true, true, true, true, true, true, true, true, true, true, true, true, true, true, true, true, true, true, false, true, false, false, false, false, false, false, false, false, false, false, false]) (by kernel_rfl) rfl ?_
                · go_simp
                simp only [List.setIfInBounds_toArray, List.set_cons_zero, List.set_cons_succ]
                refine rg_take 23 129 (.slice (some ⟨ge, offe, none⟩) Ke ce) _ rfl rfl (by kernel_rfl) (by kernel_rfl) (by kernel_rfl) (fun _ _ _ h => h) (by rfl) (fun w' hw' => ?_) hS (listed' := #[true, true, true, true, true, true, true, true, true, true, true, true, true, true, true, true, true, true, true, true, true, false, true, true, false, false, false, false, false, false, false, false, false, false]) (by kernel_rfl) rfl ?_
                · obtain ⟨f0, f1, f2, f3, f4, f5, f6, f7⟩ := HCE.out _ hw'; go_simp
                simp only [List.setIfInBounds_toArray, List.set_cons_zero, List.set_cons_succ]
                refine rg_take 24 130 (.int .i64 (i : Int)) _ rfl rfl (by kernel_rfl) (by kernel_rfl) (by kernel_rfl) (fun _ _ _ h => h) (by rfl) (fun w' hw' => ?_) hS (listed' := #[true, true, true, true, true, true, true, true, true, true, true, true, true, true, true, true, true, true, true, true, true, false, true, true, true, false, false, false, false, false, false, false, false, false]) (by kernel_rfl) rfl ?_
                · go_simp
                simp only [List.setIfInBounds_toArray, List.set_cons_zero, List.set_cons_succ]
                refine rg_take 25 131 (.pointer (some ⟨ge, offe + i * 2, none⟩)) _ rfl rfl (by kernel_rfl) (by kernel_rfl) (by kernel_rfl) (fun _ _ _ h => h) (by rfl) (fun w' hw' => ?_) hS (listed' := #[true, true, true, true, true, true, true, true, true, true, true, true, true, true, true, true, true, true, true, true, true, false, true, true, true, true, false, false, false, false, false, false, false, false]) (by kernel_rfl) rfl ?_
                · go_simp
                simp only [List.setIfInBounds_toArray, List.set_cons_zero, List.set_cons_succ]
                refine rg_take 26 132 (.pointer (some ⟨ge, offe + i * 2 + 1, none⟩)) _ rfl rfl (by kernel_rfl) (by kernel_rfl) (by kernel_rfl) (fun _ _ _ h => h) (by rfl) (fun w' hw' => ?_) hS (listed' := #[true, true, true, true, true, true, true, true, true, true, true, true, true, true, true, true, true, true, true, true, true, false, true, true, true, true, true, false, false, false, false, false, false, false]) (by kernel_rfl) rfl ?_
                · go_simp
                simp only [List.setIfInBounds_toArray, List.set_cons_zero, List.set_cons_succ]
                refine rg_take 27 133 (.slice (some ⟨gt, offt, none⟩) Xl tc) _ rfl rfl (by kernel_rfl) (by kernel_rfl) (by kernel_rfl) (fun _ _ _ h => h) (by rfl) (fun w' hw' => ?_) hS (listed' := #[true, true, true, true, true, true, true, true, true, true, true, true, true, true, true, true, true, true, true, true, true, false, true, true, true, true, true, true, false, false, false, false, false, false]) (by kernel_rfl) rfl ?_
                · obtain ⟨f0, f1, f2, f3, f4, f5, f6, f7⟩ := HCE.out _ hw'; go_simp
                simp only [List.setIfInBounds_toArray, List.set_cons_zero, List.set_cons_succ]
                refine rg_take 28 134 (.int .i64 (k : Int)) _ rfl rfl (by kernel_rfl) (by kernel_rfl) (by kernel_rfl) (fun _ _ _ h => h) (by rfl) (fun w' hw' => ?_) hS (listed' := #[true, true, true, true, true, true, true, true, true, true, true, true, true, true, true, true, true, true, true, true, true, false, true, true, true, true, true, true, true, false, false, false, false, false]) (by kernel_rfl) rfl ?_
                · go_simp
                simp only [List.setIfInBounds_toArray, List.set_cons_zero, List.set_cons_succ]
                refine rg_take 29 135 (.pointer (some ⟨gt, offt + k * 5, none⟩)) _ rfl rfl (by kernel_rfl) (by kernel_rfl) (by kernel_rfl) (fun _ _ _ h => h) (by rfl) (fun w' hw' => ?_) hS (listed' := #[true, true, true, true, true, true, true, true, true, true, true, true, true, true, true, true, true, true, true, true, true, false, true, true, true, true, true, true, true, true, false, false, false, false]) (by kernel_rfl) rfl ?_
                · go_simp
                simp only [List.setIfInBounds_toArray, List.set_cons_zero, List.set_cons_succ]
                refine rg_take 30 136 (.agg #[.int .i64 yk, .int .i64 yn, .string ys, .slice a1 n1 c1, .slice a2 n2 c2]) _ rfl rfl (by kernel_rfl) (by kernel_rfl) (by kernel_rfl) (fun _ _ _ h => h) (by rfl) (fun w' hw' => ?_) hS (listed' := #[true, true, true, true, true, true, true, true, true, true, true, true, true, true, true, true, true, true, true, true, true, false, true, true, true, true, true, true, true, true, true, false, false, false]) (by kernel_rfl) rfl ?_
                · obtain ⟨f0, f1, f2, f3, f4, f5, f6, f7⟩ := HCE.out _ hw'; go_simp
                simp only [List.setIfInBounds_toArray, List.set_cons_zero, List.set_cons_succ]
                refine rg_call 21 127 20 #[.agg #[.iface Ti u]] rfl rfl (by kernel_rfl) (by rfl) (listed' := #[true, true, true, true, true, true, true, true, true, true, true, true, true, true, true, true, true, true, true, true, true, true, true, true, true, true, true, true, true, true, true, false, false, false]) (by kernel_rfl) (fun W => by go_simp) ?_
                refine Calls.mono (HVT.out _ hS) ?_
                rintro e W2 ⟨va, bs2, rfl, hva, hbW2⟩
                obtain ⟨n2', ve2, vr2, -, rfl, -⟩ := hva.tr.open
                have HVA : Hid (TrIn 13 W2 (.agg #[.int .i64 y.kind, .int .i64 y.n, .string y.s, ve2, vr2]) y) := hva.tr
                have hS0 := hS
                have hS : Below wr.heap.size wr W2 := hS0.trans (hbW2.mono hS0.size)
                clear hS0 hbW2 hva
                refine ⟨_, rfl, hS, ?_⟩
                simp only [List.setIfInBounds_toArray, List.set_cons_zero, List.set_cons_succ]
                refine rg_call 31 137 17 #[.agg #[.int .i64 y.kind, .int .i64 y.n, .string y.s, ve2, vr2], .agg #[.int .i64 yk, .int .i64 yn, .string ys, .slice a1 n1 c1, .slice a2 n2 c2]] rfl rfl (by kernel_rfl) (by rfl) (listed' := #[true, true, true, true, true, true, true, true, true, true, true, true, true, true, true, true, true, true, true, true, true, true, true, true, true, true, true, true, true, true, true, true, false, false]) (by kernel_rfl) (fun W => by go_simp) ?_
                refine (HSA.out _ _ hS HVA.out).mono ?_
                rintro e W3 ⟨rfl, hbW3⟩
                have hS0 := hS
                have hS : Below wr.heap.size wr W3 := hS0.trans (hbW3.mono hS0.size)
                clear hS0 hbW3
                refine ⟨_, rfl, hS, ?_⟩
                simp only [List.setIfInBounds_toArray, List.set_cons_zero, List.set_cons_succ]
                refine rg_take 32 138 (.bool false) _ rfl rfl (by kernel_rfl) (by kernel_rfl) (by kernel_rfl) (fun _ _ _ h => h) (by rfl) (fun w' hw' => ?_) hS (listed' := #[true, true, true, true, true, true, true, true, true, true, true, true, true, true, true, true, true, true, true, true, true, true, true, true, true, true, true, true, true, true, true, true, true, false]) (by kernel_rfl) rfl ?_
                · go_simp
                simp only [List.setIfInBounds_toArray, List.set_cons_zero, List.set_cons_succ]
                refine rg_take 33 139 (.bool false) _ rfl rfl (by kernel_rfl) (by kernel_rfl) (by kernel_rfl) (fun _ _ _ h => h) (by rfl) (fun w' hw' => ?_) hS (listed' := #[true, true, true, true, true, true, true, true, true, true, true, true, true, true, true, true, true, true, true, true, true, true, true, true, true, true, true, true, true, true, true, true, true, true]) (by kernel_rfl) rfl ?_
                · go_simp
                simp only [List.setIfInBounds_toArray, List.set_cons_zero, List.set_cons_succ]
                refine wpAnyH_done (by kernel_rfl) ?_ _
                have hbz2 : Below w10.heap.size w10 W3 := hbz.trans (hS.mono hbz.size)
                clear hS hbz HKD HVT HSA HCE HVA
                go_wp2_with fail
                go_roundw
                case rel => exact ⟨k + 1, by go_num, by omega, hbz2⟩
                case measure => simp [intOf]; omega
              · go_wp2_with fail
                go_roundw
                case rel => exact ⟨i + 1, by go_num, by omega, hbn.trans (hbz.mono hbn.size)⟩
                case measure => simp [intOf]; omega
          · have hS9 : Below w6.heap.size w6 wr := hS8.trans (hbel.mono hS8.size)
            have HTW : Hid (TrIn 14 wr (.agg #[.int .i64 K, .int .i64 N, .string S, .slice pe Ke ce, .slice pr Kr cr]) t) := HT8.out.below hbel
            have HHS : Hid (∀ W, Below wr.heap.size wr W → Calls Try.prog 26 #[(.agg #[.int .i64 K, .int .i64 N, .string S, .slice pe Ke ce, .slice pr Kr cr]), .int .i64 tag] W fun e w' => e = .returned (.bool (hasB t.es tag)) ∧ Below W.heap.size W w') := fun W hW => rhas_any 13 t _ tag W (HTW.out.below hW)
            have HBW : Hid (Blk wr b1 #[.int .i64 K, .int .i64 N, .string S, .slice pe Ke ce, .slice pr Kr cr] 25) := HB8.out.below hbel
            have HGW : Hid (∀ W, Below wr.heap.size wr W → Calls Try.prog 25 #[.pointer (some ⟨gn, 0, none⟩), .int .i64 tag] W fun e w' => ∃ r, e = .returned r ∧ VasC 13 w' r (undB t.es tag) ∧ Below W.heap.size W w') := fun W hW => HGT.out tag W (hS9.trans (hW.mono hS9.size))
            have hbwr : Below w.heap.size w wr := hbw6.trans (hS9.mono hbw6.size)
            have HUH : Hid ((hasB t.es tag = true → 0 < (undB t.es tag).length) ∧ (hasB t.es tag = false → (undB t.es tag).length = 0)) := ⟨und_has (fun e he => (ents_oneG t.es 0 (chk_ents HCK.out HK3.out) e he).2.1), fun h => by rw [und_no h]; rfl⟩
            clear hS9 hbel hS8 hbw6
            go_wp2_with fail
            have hS : Below wr.heap.size wr wr.drew := (Below.refl _ _).drew
            refine wp_region_held_drew (S := fun w' => Below wr.heap.size wr w') (by kernel_rfl) hS (fun hS => ?_)
            cases hA : hasB t.es tag with
            | false =>
              rw [hA] at HHS
              have HUU : Hid ((undB t.es tag).length = 0) := HUH.out.2 hA
              clear hA HUH
              refine rg_take 0 140 (.pointer (some ⟨gn, 0, none⟩)) _ rfl rfl (by kernel_rfl) (by kernel_rfl) (by kernel_rfl) (fun _ _ _ h => h) (by rfl) (fun w' hw' => ?_) hS (listed' := #[true, false, false, false, false, false, false, false, false, false, false, false, false]) (by kernel_rfl) rfl ?_
              · go_simp
              simp only [List.setIfInBounds_toArray, List.set_cons_zero, List.set_cons_succ]
              refine rg_take 1 141 (.int .i64 tag) _ rfl rfl (by kernel_rfl) (by kernel_rfl) (by kernel_rfl) (fun _ _ _ h => h) (by rfl) (fun w' hw' => ?_) hS (listed' := #[true, true, false, false, false, false, false, false, false, false, false, false, false]) (by kernel_rfl) rfl ?_
              · go_simp
              simp only [List.setIfInBounds_toArray, List.set_cons_zero, List.set_cons_succ]
              refine rg_take 5 145 ((.agg #[.int .i64 K, .int .i64 N, .string S, .slice pe Ke ce, .slice pr Kr cr])) _ rfl rfl (by kernel_rfl) (by kernel_rfl) (by kernel_rfl) (fun _ _ _ h => h) (by rfl) (fun w' hw' => ?_) hS (listed' := #[true, true, false, false, false, true, false, false, false, false, false, false, false]) (by kernel_rfl) rfl ?_
              · have f0 := (HBW.out.below hw').cell 0; have f1 := (HBW.out.below hw').cell 1; have f2 := (HBW.out.below hw').cell 2; have f3 := (HBW.out.below hw').cell 3; have f4 := (HBW.out.below hw').cell 4; go_simp
              simp only [List.setIfInBounds_toArray, List.set_cons_zero, List.set_cons_succ]
              refine rg_take 6 146 (.int .i64 tag) _ rfl rfl (by kernel_rfl) (by kernel_rfl) (by kernel_rfl) (fun _ _ _ h => h) (by rfl) (fun w' hw' => ?_) hS (listed' := #[true, true, false, false, false, true, true, false, false, false, false, false, false]) (by kernel_rfl) rfl ?_
              · go_simp
              simp only [List.setIfInBounds_toArray, List.set_cons_zero, List.set_cons_succ]
              refine rg_call 2 142 25 #[.pointer (some ⟨gn, 0, none⟩), .int .i64 tag] rfl rfl (by kernel_rfl) (by rfl) (listed' := #[true, true, true, false, false, true, true, false, false, false, false, false, false]) (by kernel_rfl) (fun W => by go_simp) ?_
              refine (HGW.out _ hS).mono ?_
              rintro e W1 ⟨r1, rfl, hr1, hbW1⟩
              obtain ⟨na, nc, rfl, -⟩ := RowP.open hr1
              have hS0 := hS
              have hS : Below wr.heap.size wr W1 := hS0.trans (hbW1.mono hS0.size)
              have hUU := HUU.out
              clear hS0 hbW1 hr1 HUU
              generalize (undB t.es tag).length = Un at *
              subst hUU
              refine ⟨_, rfl, hS, ?_⟩
              simp only [List.setIfInBounds_toArray, List.set_cons_zero, List.set_cons_succ]
              refine rg_take 3 143 (.int .i64 0) _ rfl rfl (by kernel_rfl) (by kernel_rfl) (by kernel_rfl) (fun _ _ _ h => h) (by rfl) (fun w' hw' => ?_) hS (listed' := #[true, true, true, true, false, true, true, false, false, false, false, false, false]) (by kernel_rfl) rfl ?_
              · go_simp
              simp only [List.setIfInBounds_toArray, List.set_cons_zero, List.set_cons_succ]
              refine rg_take 4 144 (.bool false) _ rfl rfl (by kernel_rfl) (by kernel_rfl) (by kernel_rfl) (fun _ _ _ h => h) (by rfl) (fun w' hw' => ?_) hS (listed' := #[true, true, true, true, true, true, true, false, false, false, false, false, false]) (by kernel_rfl) rfl ?_
              · go_simp
              simp only [List.setIfInBounds_toArray, List.set_cons_zero, List.set_cons_succ]
              refine rg_call 7 147 26 #[(.agg #[.int .i64 K, .int .i64 N, .string S, .slice pe Ke ce, .slice pr Kr cr]), .int .i64 tag] rfl rfl (by kernel_rfl) (by rfl) (listed' := #[true, true, true, true, true, true, true, true, false, false, false, false, false]) (by kernel_rfl) (fun W => by go_simp) ?_
              refine (HHS.out _ hS).mono ?_
              rintro e W2 ⟨rfl, hbW2⟩
              have hS0 := hS
              have hS : Below wr.heap.size wr W2 := hS0.trans (hbW2.mono hS0.size)
              clear hS0 hbW2
              refine ⟨_, rfl, hS, ?_⟩
              simp only [List.setIfInBounds_toArray, List.set_cons_zero, List.set_cons_succ]
              refine rg_take 8 148 (.bool true) _ rfl rfl (by kernel_rfl) (by kernel_rfl) (by kernel_rfl) (fun _ _ _ h => h) (by rfl) (fun w' hw' => ?_) hS (listed' := #[true, true, true, true, true, true, true, true, true, false, false, false, false]) (by kernel_rfl) rfl ?_
              · go_simp
              simp only [List.setIfInBounds_toArray, List.set_cons_zero, List.set_cons_succ]
              refine rg_take 9 149 (.bool true) _ rfl rfl (by kernel_rfl) (by kernel_rfl) (by kernel_rfl) (fun _ _ _ h => h) (by rfl) (fun w' hw' => ?_) hS (listed' := #[true, true, true, true, true, true, true, true, true, true, false, false, false]) (by kernel_rfl) rfl ?_
              · go_simp
              simp only [List.setIfInBounds_toArray, List.set_cons_zero, List.set_cons_succ]
              refine rg_call 10 150 10 #[] rfl rfl (by kernel_rfl) (by rfl) (listed' := #[true, true, true, true, true, true, true, true, true, true, true, false, false]) (by kernel_rfl) (fun W => by go_simp) ?_
              refine (awake_any _).mono ?_
              rintro e W3 ⟨rfl, hbW3⟩
              have hS0 := hS
              have hS : Below wr.heap.size wr W3 := hS0.trans (hbW3.mono hS0.size)
              clear hS0 hbW3
              refine ⟨_, rfl, hS, ?_⟩
              simp only [List.setIfInBounds_toArray, List.set_cons_zero, List.set_cons_succ]
              refine rg_take 11 151 (.bool true) _ rfl rfl (by kernel_rfl) (by kernel_rfl) (by kernel_rfl) (fun _ _ _ h => h) (by rfl) (fun w' hw' => ?_) hS (listed' := #[true, true, true, true, true, true, true, true, true, true, true, true, false]) (by kernel_rfl) rfl ?_
              · go_simp
              simp only [List.setIfInBounds_toArray, List.set_cons_zero, List.set_cons_succ]
              refine rg_take 12 4 (.bool true) _ rfl rfl (by kernel_rfl) (by kernel_rfl) (by kernel_rfl) (fun _ _ _ h => h) (by rfl) (fun w' hw' => ?_) hS (listed' := #[true, true, true, true, true, true, true, true, true, true, true, true, true]) (by kernel_rfl) rfl ?_
              · go_simp
              simp only [List.setIfInBounds_toArray, List.set_cons_zero, List.set_cons_succ]
              refine wpAnyH_done (by kernel_rfl) ?_ _
              have hbe : Below w.heap.size w W3 := hbwr.trans (hS.mono hbwr.size)
              clear hS hbwr HHS HGW
              go_wp2_with fail
              go_ret
              exact ⟨rfl, hbe⟩
            | true =>
              rw [hA] at HHS
              have HUU : Hid (0 < (undB t.es tag).length) := HUH.out.1 hA
              clear hA HUH
              refine rg_take 0 140 (.pointer (some ⟨gn, 0, none⟩)) _ rfl rfl (by kernel_rfl) (by kernel_rfl) (by kernel_rfl) (fun _ _ _ h => h) (by rfl) (fun w' hw' => ?_) hS (listed' := #[true, false, false, false, false, false, false, false, false, false, false, false, false]) (by kernel_rfl) rfl ?_
              · go_simp
              simp only [List.setIfInBounds_toArray, List.set_cons_zero, List.set_cons_succ]
              refine rg_take 1 141 (.int .i64 tag) _ rfl rfl (by kernel_rfl) (by kernel_rfl) (by kernel_rfl) (fun _ _ _ h => h) (by rfl) (fun w' hw' => ?_) hS (listed' := #[true, true, false, false, false, false, false, false, false, false, false, false, false]) (by kernel_rfl) rfl ?_
              · go_simp
              simp only [List.setIfInBounds_toArray, List.set_cons_zero, List.set_cons_succ]
              refine rg_take 5 145 ((.agg #[.int .i64 K, .int .i64 N, .string S, .slice pe Ke ce, .slice pr Kr cr])) _ rfl rfl (by kernel_rfl) (by kernel_rfl) (by kernel_rfl) (fun _ _ _ h => h) (by rfl) (fun w' hw' => ?_) hS (listed' := #[true, true, false, false, false, true, false, false, false, false, false, false, false]) (by kernel_rfl) rfl ?_
              · have f0 := (HBW.out.below hw').cell 0; have f1 := (HBW.out.below hw').cell 1; have f2 := (HBW.out.below hw').cell 2; have f3 := (HBW.out.below hw').cell 3; have f4 := (HBW.out.below hw').cell 4; go_simp
              simp only [List.setIfInBounds_toArray, List.set_cons_zero, List.set_cons_succ]
              refine rg_take 6 146 (.int .i64 tag) _ rfl rfl (by kernel_rfl) (by kernel_rfl) (by kernel_rfl) (fun _ _ _ h => h) (by rfl) (fun w' hw' => ?_) hS (listed' := #[true, true, false, false, false, true, true, false, false, false, false, false, false]) (by kernel_rfl) rfl ?_
              · go_simp
              simp only [List.setIfInBounds_toArray, List.set_cons_zero, List.set_cons_succ]
              refine rg_call 2 142 25 #[.pointer (some ⟨gn, 0, none⟩), .int .i64 tag] rfl rfl (by kernel_rfl) (by rfl) (listed' := #[true, true, true, false, false, true, true, false, false, false, false, false, false]) (by kernel_rfl) (fun W => by go_simp) ?_
              refine (HGW.out _ hS).mono ?_
              rintro e W1 ⟨r1, rfl, hr1, hbW1⟩
              obtain ⟨na, nc, rfl, -⟩ := RowP.open hr1
              have hS0 := hS
              have hS : Below wr.heap.size wr W1 := hS0.trans (hbW1.mono hS0.size)
              have hUU := HUU.out
              clear hS0 hbW1 hr1 HUU
              generalize (undB t.es tag).length = Un at *
              refine ⟨_, rfl, hS, ?_⟩
              simp only [List.setIfInBounds_toArray, List.set_cons_zero, List.set_cons_succ]
              refine rg_take 3 143 (.int .i64 (Un : Int)) _ rfl rfl (by kernel_rfl) (by kernel_rfl) (by kernel_rfl) (fun _ _ _ h => h) (by rfl) (fun w' hw' => ?_) hS (listed' := #[true, true, true, true, false, true, true, false, false, false, false, false, false]) (by kernel_rfl) rfl ?_
              · go_simp
              simp only [List.setIfInBounds_toArray, List.set_cons_zero, List.set_cons_succ]
              refine rg_take 4 144 (.bool true) _ rfl rfl (by kernel_rfl) (by kernel_rfl) (by kernel_rfl) (fun _ _ _ h => h) (by rfl) (fun w' hw' => ?_) hS (listed' := #[true, true, true, true, true, true, true, false, false, false, false, false, false]) (by kernel_rfl) rfl ?_
              · go_simp
              simp only [List.setIfInBounds_toArray, List.set_cons_zero, List.set_cons_succ]
              refine rg_call 7 147 26 #[(.agg #[.int .i64 K, .int .i64 N, .string S, .slice pe Ke ce, .slice pr Kr cr]), .int .i64 tag] rfl rfl (by kernel_rfl) (by rfl) (listed' := #[true, true, true, true, true, true, true, true, false, false, false, false, false]) (by kernel_rfl) (fun W => by go_simp) ?_
              refine (HHS.out _ hS).mono ?_
              rintro e W2 ⟨rfl, hbW2⟩
              have hS0 := hS
              have hS : Below wr.heap.size wr W2 := hS0.trans (hbW2.mono hS0.size)
              clear hS0 hbW2
              refine ⟨_, rfl, hS, ?_⟩
              simp only [List.setIfInBounds_toArray, List.set_cons_zero, List.set_cons_succ]
              refine rg_take 8 148 (.bool true) _ rfl rfl (by kernel_rfl) (by kernel_rfl) (by kernel_rfl) (fun _ _ _ h => h) (by rfl) (fun w' hw' => ?_) hS (listed' := #[true, true, true, true, true, true, true, true, true, false, false, false, false]) (by kernel_rfl) rfl ?_
              · go_simp
              simp only [List.setIfInBounds_toArray, List.set_cons_zero, List.set_cons_succ]
              refine rg_take 9 149 (.bool true) _ rfl rfl (by kernel_rfl) (by kernel_rfl) (by kernel_rfl) (fun _ _ _ h => h) (by rfl) (fun w' hw' => ?_) hS (listed' := #[true, true, true, true, true, true, true, true, true, true, false, false, false]) (by kernel_rfl) rfl ?_
              · go_simp
              simp only [List.setIfInBounds_toArray, List.set_cons_zero, List.set_cons_succ]
              refine rg_call 10 150 10 #[] rfl rfl (by kernel_rfl) (by rfl) (listed' := #[true, true, true, true, true, true, true, true, true, true, true, false, false]) (by kernel_rfl) (fun W => by go_simp) ?_
              refine (awake_any _).mono ?_
              rintro e W3 ⟨rfl, hbW3⟩
              have hS0 := hS
              have hS : Below wr.heap.size wr W3 := hS0.trans (hbW3.mono hS0.size)
              clear hS0 hbW3
              refine ⟨_, rfl, hS, ?_⟩
              simp only [List.setIfInBounds_toArray, List.set_cons_zero, List.set_cons_succ]
              refine rg_take 11 151 (.bool true) _ rfl rfl (by kernel_rfl) (by kernel_rfl) (by kernel_rfl) (fun _ _ _ h => h) (by rfl) (fun w' hw' => ?_) hS (listed' := #[true, true, true, true, true, true, true, true, true, true, true, true, false]) (by kernel_rfl) rfl ?_
              · go_simp
              simp only [List.setIfInBounds_toArray, List.set_cons_zero, List.set_cons_succ]
              refine rg_take 12 4 (.bool true) _ rfl rfl (by kernel_rfl) (by kernel_rfl) (by kernel_rfl) (fun _ _ _ h => h) (by rfl) (fun w' hw' => ?_) hS (listed' := #[true, true, true, true, true, true, true, true, true, true, true, true, true]) (by kernel_rfl) rfl ?_
              · go_simp
              simp only [List.setIfInBounds_toArray, List.set_cons_zero, List.set_cons_succ]
              refine wpAnyH_done (by kernel_rfl) ?_ _
              have hbe : Below w.heap.size w W3 := hbwr.trans (hS.mono hbwr.size)
              clear hS hbwr HHS HGW
              go_wp2_with fail
              go_ret
              exact ⟨rfl, hbe⟩
end Go.Proofs.Ytlmkgbdcpphofaa
