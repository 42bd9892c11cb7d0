/- EncodeJoins answers true at every tree. -/
import Derived.Test.YtkmdaopmmfdpgaaPkN
import Derived.Test.YtkmdaopmmfdpgaaPkH
import Derived.Test.YtkmdaopmmfdpgaaPkJ
import Derived.Test.YtkmdaopmmfdpgaaPkG
import Derived.Test.YtkmdaopmmfdpgaaPkK
import Derived.Test.YtkmdaopmmfdpgaaPkF
import Derived.Test.YtkmdaopmmfdpgaaPkC
import Derived.Test.YtkmdaopmmfdpgaaPkD
import Derived.Deep.Cut
import Derived.Deep.CutRange
namespace Go.Proofs.Ytkmdaopmmfdpgaa
open Go.ChangeShapes Go.WideShapes Go.ChangeAt Go.RowKit
set_option linter.unusedVariables false
set_option linter.unusedSimpArgs false
set_option maxRecDepth 20000

theorem infoEn : (Try.prog.info? 41).map (fun i => (i.zero, i.size, i.bytes)) = some (some (.agg #[.int .i64 0, .slice none 0 0]), 2, 32) := by kernel_rfl
theorem own_below2 {w w1 : World} {base : Nat} {e : TypeId} {s : Nat} {v : Value} {n : Nat} {xs : List Value} (h : w.ownsRow base e s v n xs) (hb : ∀ k, v.ownBlock = some k → w1.heap[k]? = w.heap[k]?) : w1.ownsRow base e s v n xs := by
  refine ⟨h.1, ?_⟩
  rcases h.2 with h' | ⟨g, cap, cur, h1, h2, h3, h4⟩
  · exact .inl h'
  · exact .inr ⟨g, cap, cur, h1, h2, (hb g (by rw [h1]; rfl)).trans h3, h4⟩
/-- A turned message is not too much. -/
theorem turn_sm {n : Nat} {t : Tr} (h : SmN (n + 1) t) (k : Int) (m : Int) (s : ByteArray) (hs : s.size ≤ 5000) (rest : List Fd) (hr : rest = []) (i : Nat) : SmN (n + 1) ⟨k, m, s, turnE t.es i, rest⟩ := by
  subst hr
  refine ⟨hs, by simp, by rw [turnE_len]; exact h.2.2.1, by simp, fun e he => ?_⟩
  unfold turnE at he
  rcases List.mem_append.1 he with he | he
  · obtain ⟨x, hx, rfl⟩ := List.mem_map.1 he
    exact h.2.2.2.2 x (List.mem_of_mem_take hx)
  · exact h.2.2.2.2 e (List.mem_of_mem_drop he)
theorem subs_turn (es : List (Int × List Tr)) (i : Nat) : subs (turnE es i) = subs es := by
  unfold turnE
  rw [subs_app]
  have h1 : ∀ l : List (Int × List Tr), subs (l.map fun e => (tagJ e.1, e.2)) = subs l := fun l => by simp [subs, List.flatMap_map]
  rw [h1, ← subs_app, List.take_append_drop]
theorem cnt_mes {n : Nat} {t : Tr} (k m : Int) (s : ByteArray) (es : List (Int × List Tr)) (rest : List Fd) (h : subs es = subs t.es) : cntN (n + 1) ⟨k, m, s, es, rest⟩ = cntN (n + 1) t := by
  simp only [cntN, h]
theorem encA_le (n : Nat) (t : Tr) : (encA n t).1.length ≤ 4096 := by
  unfold encA ofR
  split
  · simp
  · exact putL_le _
theorem ens_one {n B : Nat} {w : World} {v : Value} {es : List (Int × List Tr)} {rows : List (List Value)} {bss : List (List Nat)} (h : RowO (EtO (TrO n B) B) B 41 2 w v es rows bss) : ∀ u ∈ rows.flatten, u.oneCell' = true := fun u hu => by
  obtain ⟨r, hr, hu⟩ := List.mem_flatten.1 hu
  obtain ⟨i, hi, e⟩ := List.getElem_of_mem hr
  have hi2 : i < es.length := by rw [← h.len]; exact hi
  obtain ⟨r', b, g1, g2, vt, rs', bss', rfl, g4, g5, g6⟩ := h.each i es[i] (List.getElem?_eq_getElem hi2)
  rw [List.getElem?_eq_getElem hi, e] at g1
  obtain rfl : r = _ := by simpa using g1
  obtain ⟨a, c, rfl⟩ := own_form g5.own
  simp only [List.mem_cons, List.not_mem_nil, or_false] at hu
  rcases hu with rfl | rfl <;> rfl
theorem ents_few : ∀ {es : List (Int × List Tr)} {last : Int}, entsB last es = true → es.length ≤ (subs es).length
  | [], _, _ => by simp [subs]
  | e :: l, last, h => by
    simp only [entsB, Bool.and_eq_true, decide_eq_true_eq] at h
    have h1 := ents_few h.2
    have h2 := h.1.1.1.2
    unfold subs at *
    rw [List.flatMap_cons, List.length_append, List.length_cons]
    omega
theorem subs_cnt {n : Nat} {t : Tr} (h : SmN (n + 1) t) : (subs t.es).length + 1 ≤ cntN (n + 1) t := by
  simp only [cntN]
  have := len_le_sum (f := cntN n) (l := subs t.es) fun x hx => by
    obtain ⟨e, he, hx⟩ := mem_subs.1 hx
    exact ((h.2.2.2.2 e he).2 x hx).one
  omega
theorem mes_sm {n : Nat} {a : Tr} {es : List (Int × List Tr)} (ha : SmN (n + 1) a) (hb : ∀ e ∈ es, e.2.length ≤ 70 ∧ ∀ x ∈ e.2, SmN n x) (hl : a.es.length + es.length ≤ 500) : SmN (n + 1) (mesT (a.es ++ es)) := by
  refine ⟨Nat.zero_le _, Nat.zero_le _, by simp only [mesT, List.length_append]; exact hl, by simp [mesT], fun e he => ?_⟩
  rcases List.mem_append.1 he with he | he
  · exact ha.2.2.2.2 e he
  · exact hb e he
theorem mes_cnt {n : Nat} (a es : List (Int × List Tr)) (A B : Nat) (ha : cntN (n + 1) (mesT a) ≤ A) (hb : cntN (n + 1) (mesT es) ≤ B) : cntN (n + 1) (mesT (a ++ es)) ≤ A + B := by
  simp only [cntN, mesT] at *
  rw [subs_app, List.map_append, List.sum_append]
  omega
theorem mes_dp {n : Nat} (a es : List (Int × List Tr)) : dpN (n + 1) (mesT a) ≤ dpN (n + 1) (mesT (a ++ es)) := by
  simp only [dpN, mesT, if_pos]
  rw [subs_app, List.map_append]
  have : ((subs a).map (dpN n)).foldr max 0 ≤ ((subs a).map (dpN n) ++ (subs es).map (dpN n)).foldr max 0 := foldr_max_le fun x hx => le_foldr_max (List.mem_append.2 (.inl hx))
  omega
/-- What is asked of the two. -/
theorem join_ok {a b : Tr} {Nb : Int} {Sb : ByteArray} (ha : SmN 14 a ∧ cntN 14 a ≤ 200) (hb : SmN 14 b ∧ cntN 14 b ≤ 200) (ra : a.rest = []) (ea : (encA 14 a).2 = 0) (eb : (encA 14 ⟨3, Nb, Sb, turnE b.es b.es.length, []⟩).2 = 0) (hlast : ∀ e, a.es.getLast? = some e → e.1 < 200) (hl : (encA 14 a).1.length + (encA 14 ⟨3, Nb, Sb, turnE b.es b.es.length, []⟩).1.length ≤ 4096) :
    a = mesT a.es ∧ encA 14 (mesT (a.es ++ turnE b.es b.es.length)) = ((encA 14 a).1 ++ (encA 14 ⟨3, Nb, Sb, turnE b.es b.es.length, []⟩).1, 0) ∧ SmN 14 (mesT (a.es ++ turnE b.es b.es.length)) ∧ cntN 14 (mesT (a.es ++ turnE b.es b.es.length)) ≤ 1000 ∧ dpN 14 a ≤ dpN 14 (mesT (a.es ++ turnE b.es b.es.length)) := by
  have e1 := enc_mes (n := 13) ea ra
  have e2 := enc_mes (n := 13) eb rfl
  simp only at e2
  generalize hA : a.es = xs at *
  subst e1
  rw [e2] at eb hl ⊢
  have b1 := (enc_bytes eb).1
  have a1 := (enc_bytes ea).1
  have l1 : xs.length ≤ 199 := by have h1 := ents_few a1; have h2 : (subs xs).length + 1 ≤ cntN 14 (mesT xs) := subs_cnt (n := 13) ha.1; have h3 := ha.2; omega
  have l2 : (turnE b.es b.es.length).length ≤ 199 := by
    have h1 := ents_few b1
    rw [subs_turn] at h1
    have h2 : (subs b.es).length + 1 ≤ cntN 14 b := subs_cnt (n := 13) hb.1
    have h3 := hb.2
    omega
  refine ⟨rfl, enc_join ea eb (ents_last_lt a1 hlast) (turnE_all b.es) hl, mes_sm (a := mesT xs) ha.1 (fun e he => ?_) (by simp only [mesT]; omega), Nat.le_trans (mes_cnt xs _ 200 200 ha.2 ?_) (by decide), mes_dp xs _⟩
  · have := (turn_sm hb.1 3 0 ⟨#[]⟩ (by decide) [] rfl b.es.length).2.2.2.2 e he
    exact this
  · have h1 : cntN 14 (mesT (turnE b.es b.es.length)) = cntN 14 b := cnt_mes 3 0 ⟨#[]⟩ _ [] (subs_turn _ _)
    rw [h1]
    exact hb.2
/-- A tree of one's own, opened. -/
theorem TrO.parts {n B : Nat} {w : World} {t : Tr} {k m : Int} {s : ByteArray} {ua ub : Option Addr} {un uc um ud : Nat} {bs : List Nat} (h : TrO (n + 1) B w [.int .i64 k, .int .i64 m, .string s, .slice ua un uc, .slice ub um ud] t bs) :
    t.kind = k ∧ t.n = m ∧ t.s = s ∧ un = t.es.length ∧ um = t.rest.length ∧ un ≤ uc ∧ uc ≤ maxLen ∧ (un = 0 ∨ ∃ g, ua = some ⟨g, 0, none⟩ ∧ B ≤ g ∧ g < w.heap.size) ∧ (∀ k, (Value.slice ua un uc).ownBlock = some k → k ∈ bs) := by
  obtain ⟨ve, vr, rows, bss, h1, h2, h3, h4, h5, h6, h7, rfl⟩ := h
  simp only [List.cons.injEq, and_true, Value.int.injEq, true_and, Value.string.injEq] at h1
  obtain ⟨rfl, rfl, rfl, rfl, rfl⟩ := h1
  obtain ⟨a', c', e1⟩ := own_form h7.own
  simp only [Value.slice.injEq] at e1
  obtain ⟨rfl, rfl, rfl⟩ := e1
  obtain ⟨a2', c2', e2⟩ := own_form h6
  simp only [Value.slice.injEq] at e2
  obtain ⟨rfl, rfl, rfl⟩ := e2
  refine ⟨rfl, rfl, rfl, rfl, rfl, ?_⟩
  have hk : ∀ k, (Value.slice ua t.es.length uc).ownBlock = some k → k ∈ blkOf (.slice ub t.rest.length ud) ++ allB (.slice ua t.es.length uc) bss := fun k hk => List.mem_append.2 (.inr (List.mem_append.2 (.inl (mem_blkOf.2 hk))))
  rcases h7.own.2 with ⟨e3, e4⟩ | ⟨g, cap, cur, e3, e4, e5, e6, e7, _⟩
  · simp only [Value.slice.injEq] at e3
    exact ⟨by omega, by rw [e3.2.2]; decide, .inl e4, hk⟩
  · simp only [Value.slice.injEq, true_and] at e3
    obtain ⟨rfl, rfl⟩ := e3
    exact ⟨e6, e7, .inr ⟨g, rfl, e4, (Array.getElem?_eq_some_iff.1 e5).1⟩, hk⟩
set_option maxHeartbeats 4000000 in
theorem encodeJoins_walk (v0 : Value) (n0 : Nat) (a : Tr) (v1 : Value) (n1 : Nat) (b : Tr) (w : World) (h0 : TrIn n0 w v0 a) (h1 : TrIn n1 w v1 b) :
    Calls Try.prog 6 #[v0, v1] w fun e w' => e = .returned (.bool true) ∧ Below w.heap.size w w' := by
  have HSA : Hid (∀ W, Below w.heap.size w W → Calls Try.prog 9 #[v0] W fun e w' => SmallP a v0 W e ∧ Below W.heap.size W w') := fun W hW => small_any n0 a v0 W (h0.below hW)
  have HSB : Hid (∀ W, Below w.heap.size w W → Calls Try.prog 9 #[v1] W fun e w' => SmallP b v1 W e ∧ Below W.heap.size W w') := fun W hW => small_any n1 b v1 W (h1.below hW)
  obtain ⟨m, ve, vr, -, rfl, -, -, -, -, ra, ea⟩ := h0.open
  obtain ⟨pe, ce, rfl, e1, e2, -⟩ := ea.open
  obtain ⟨pr, cr, rfl, e3, e4, -⟩ := rest_holds ra
  obtain ⟨m', ve', vr', -, rfl, -, -, -, -, rb, eb⟩ := h1.open
  obtain ⟨qe, de, rfl, -⟩ := eb.open
  obtain ⟨qr, dr, rfl, f3, f4, -⟩ := rest_holds rb
  unfold maxLen at e2 e4 f4
  clear ea ra eb rb h0 h1
  obtain ⟨Ke, hKe⟩ : ∃ z, a.es.length = z := ⟨_, rfl⟩
  obtain ⟨Kr, hKr⟩ : ∃ z, a.rest.length = z := ⟨_, rfl⟩
  obtain ⟨Eb, hEb⟩ : ∃ z, b.es.length = z := ⟨_, rfl⟩
  obtain ⟨Rb, hRb⟩ : ∃ z, b.rest.length = z := ⟨_, rfl⟩
  obtain ⟨K, hK⟩ : ∃ z, a.kind = z := ⟨_, rfl⟩
  obtain ⟨N, hN⟩ : ∃ z, a.n = z := ⟨_, rfl⟩
  obtain ⟨S, hS⟩ : ∃ z, a.s = z := ⟨_, rfl⟩
  obtain ⟨Kb, hKb⟩ : ∃ z, b.kind = z := ⟨_, rfl⟩
  obtain ⟨Nb, hNb⟩ : ∃ z, b.n = z := ⟨_, rfl⟩
  obtain ⟨Sb, hSb⟩ : ∃ z, b.s = z := ⟨_, rfl⟩
  have HLA : Hid (a.rest.length = Kr ∧ a.es.length = Ke ∧ a.kind = K ∧ a.n = N ∧ a.s = S) := ⟨hKr, hKe, hK, hN, hS⟩
  have HLB : Hid (b.rest.length = Rb ∧ b.es.length = Eb ∧ b.kind = Kb ∧ b.n = Nb ∧ b.s = Sb) := ⟨hRb, hEb, hKb, hNb, hSb⟩
  rw [hKe] at e1
  rw [hKr] at e3
  rw [hRb] at f3
  rw [hKe, hKr, hK, hN, hS] at HSA
  rw [hEb, hRb, hKb, hNb, hSb] at HSB
  rw [hKe, hKr, hEb, hRb, hK, hN, hS, hKb, hNb, hSb]
  clear hKe hKr hEb hRb hK hN hS hKb hNb hSb
  have al : Below w.heap.size w ((w.alloc (Obj.cells #[.int .i64 K, .int .i64 N, .string S, .slice pe Ke ce, .slice pr Kr cr] 25)).alloc (Obj.cells #[.int .i64 Kb, .int .i64 Nb, .string Sb, .slice qe Eb de, .slice qr Rb dr] 25)) := ((Below.refl _ _).alloc (Nat.le_refl _) _).alloc (by simp) _
  have BA : Blk ((w.alloc (Obj.cells #[.int .i64 K, .int .i64 N, .string S, .slice pe Ke ce, .slice pr Kr cr] 25)).alloc (Obj.cells #[.int .i64 Kb, .int .i64 Nb, .string Sb, .slice qe Eb de, .slice qr Rb dr] 25)) w.heap.size #[.int .i64 K, .int .i64 N, .string S, .slice pe Ke ce, .slice pr Kr cr] 25 := (Blk.newAt rfl).up _
  have BB : Blk ((w.alloc (Obj.cells #[.int .i64 K, .int .i64 N, .string S, .slice pe Ke ce, .slice pr Kr cr] 25)).alloc (Obj.cells #[.int .i64 Kb, .int .i64 Nb, .string Sb, .slice qe Eb de, .slice qr Rb dr] 25)) (w.heap.size + 1) #[.int .i64 Kb, .int .i64 Nb, .string Sb, .slice qe Eb de, .slice qr Rb dr] 25 := Blk.newAt (by simp)
  go_enter Try.func6, Try.ntmps6
  go_wp2_with fail
  generalize ((w.alloc (Obj.cells #[.int .i64 K, .int .i64 N, .string S, .slice pe Ke ce, .slice pr Kr cr] 25)).alloc (Obj.cells #[.int .i64 Kb, .int .i64 Nb, .string Sb, .slice qe Eb de, .slice qr Rb dr] 25)) = Z at *
  obtain ⟨s, hs⟩ : ∃ s, w.heap.size = s := ⟨_, rfl⟩
  have HSZ : Hid (w.heap.size = s) := hs
  rw [hs] at BA BB
  simp only [hs]
  clear hs
  refine (HSA.out _ al).mono ?_
  rintro e w1 ⟨⟨R, rfl, hR⟩, hb1⟩
  have hbw1 : Below w.heap.size w w1 := al.trans (hb1.mono al.size)
  have HRR : Hid (R = true → SmN 14 a ∧ cntN 14 a ≤ 200 ∧ TrIn 14 w1 (.agg #[.int .i64 K, .int .i64 N, .string S, .slice pe Ke ce, .slice pr Kr cr]) a) := fun hr => ⟨(hR hr).1, (hR hr).2.1, (hR hr).2.2.below hb1⟩
  have BA1 := BA.below hb1
  have BB1 := BB.below hb1
  clear hR hb1 al HSA BA BB
  have p0 := (BA1.cell 0).trans rfl
  have p1 := (BA1.cell 1).trans rfl
  have p2 := (BA1.cell 2).trans rfl
  have p3 := (BA1.cell 3).trans rfl
  have p4 := (BA1.cell 4).trans rfl
  have q0 := (BB1.cell 0).trans rfl
  have q1 := (BB1.cell 1).trans rfl
  have q2 := (BB1.cell 2).trans rfl
  have q3 := (BB1.cell 3).trans rfl
  have q4 := (BB1.cell 4).trans rfl
  cases R with
  | false =>
    go_wp2_with fail
    refine (eawake_any _).mono ?_
    rintro e w2 ⟨rfl, hw2⟩
    have hbw2 : Below w.heap.size w w2 := hbw1.trans (hw2.mono hbw1.size)
    go_wp2_with fail
    go_ret
    exact ⟨rfl, hbw2⟩
  | true =>
    obtain ⟨s1, s2, s3⟩ := HRR.out rfl
    have HS1 : Hid (SmN 14 a ∧ cntN 14 a ≤ 200) := ⟨s1, s2⟩
    have HT1 : Hid (TrIn 14 w1 (.agg #[.int .i64 K, .int .i64 N, .string S, .slice pe Ke ce, .slice pr Kr cr]) a) := s3
    clear s1 s2 s3 HRR
    go_wp2_with fail
    refine (HSB.out _ hbw1).mono ?_
    rintro e w2 ⟨⟨R, rfl, hR⟩, hb2⟩
    have hbw2 : Below w.heap.size w w2 := hbw1.trans (hb2.mono hbw1.size)
    have HRR : Hid (R = true → SmN 14 b ∧ cntN 14 b ≤ 200 ∧ TrIn 14 w2 (.agg #[.int .i64 Kb, .int .i64 Nb, .string Sb, .slice qe Eb de, .slice qr Rb dr]) b) := fun hr => ⟨(hR hr).1, (hR hr).2.1, (hR hr).2.2.below hb2⟩
    have HT2 : Hid (TrIn 14 w2 (.agg #[.int .i64 K, .int .i64 N, .string S, .slice pe Ke ce, .slice pr Kr cr]) a) := HT1.out.below hb2
    have BA2 := BA1.below hb2
    have BB2 := BB1.below hb2
    clear hR hb2 hbw1 HSB BA1 BB1 HT1 p0 p1 p2 p3 p4 q0 q1 q2 q3 q4
    have p0 := (BA2.cell 0).trans rfl
    have p1 := (BA2.cell 1).trans rfl
    have p2 := (BA2.cell 2).trans rfl
    have p3 := (BA2.cell 3).trans rfl
    have p4 := (BA2.cell 4).trans rfl
    have q0 := (BB2.cell 0).trans rfl
    have q1 := (BB2.cell 1).trans rfl
    have q2 := (BB2.cell 2).trans rfl
    have q3 := (BB2.cell 3).trans rfl
    have q4 := (BB2.cell 4).trans rfl
    cases R with
    | false =>
      go_wp2_with fail
      refine (eawake_any _).mono ?_
      rintro e w3 ⟨rfl, hw3⟩
      have hbw3 : Below w.heap.size w w3 := hbw2.trans (hw3.mono hbw2.size)
      go_wp2_with fail
      go_ret
      exact ⟨rfl, hbw3⟩
    | true =>
      obtain ⟨s1, s2, s3⟩ := HRR.out rfl
      have HS2 : Hid (SmN 14 b ∧ cntN 14 b ≤ 200) := ⟨s1, s2⟩
      have HU2 : Hid (TrIn 14 w2 (.agg #[.int .i64 Kb, .int .i64 Nb, .string Sb, .slice qe Eb de, .slice qr Rb dr]) b) := s3
      clear s1 s2 s3 HRR
      by_cases hk1 : K = 3
      rotate_left
      · have d1 : (K != 3) = true := by simpa using hk1
        clear hk1
        go_wp2_with fail
        refine (eawake_any _).mono ?_
        rintro e w3 ⟨rfl, hw3⟩
        have hbw3 : Below w.heap.size w w3 := hbw2.trans (hw3.mono hbw2.size)
        go_wp2_with fail
        go_ret
        exact ⟨rfl, hbw3⟩
      by_cases hk2 : Kb = 3
      rotate_left
      · have d1 : (K != 3) = false := by simpa using hk1
        have d2 : (Kb != 3) = true := by simpa using hk2
        subst hk1
        clear hk2
        go_wp2_with fail
        refine (eawake_any _).mono ?_
        rintro e w3 ⟨rfl, hw3⟩
        have hbw3 : Below w.heap.size w w3 := hbw2.trans (hw3.mono hbw2.size)
        go_wp2_with fail
        go_ret
        exact ⟨rfl, hbw3⟩
      subst hk1 hk2
      by_cases hk3 : Kr = 0
      rotate_left
      · have d3 : 0 < Kr := by omega
        clear hk3
        go_wp2_with fail
        refine (eawake_any _).mono ?_
        rintro e w3 ⟨rfl, hw3⟩
        have hbw3 : Below w.heap.size w w3 := hbw2.trans (hw3.mono hbw2.size)
        go_wp2_with fail
        go_ret
        exact ⟨rfl, hbw3⟩
      subst hk3
      by_cases hk4 : Rb = 0
      rotate_left
      · have d4 : 0 < Rb := by omega
        clear hk4
        go_wp2_with fail
        refine (eawake_any _).mono ?_
        rintro e w3 ⟨rfl, hw3⟩
        have hbw3 : Below w.heap.size w w3 := hbw2.trans (hw3.mono hbw2.size)
        go_wp2_with fail
        go_ret
        exact ⟨rfl, hbw3⟩
      subst hk4
      have HCA : Hid (∀ W, Below w2.heap.size w2 W → Calls Try.prog 11 #[.agg #[.int .i64 3, .int .i64 N, .string S, .slice pe Ke ce, .slice pr 0 cr]] W (CopyP 14 a W)) := fun W hW => copy_any 14 a _ W (HT2.out.below hW) HS1.out.1
      have HCB : Hid (∀ W, Below w2.heap.size w2 W → Calls Try.prog 11 #[.agg #[.int .i64 3, .int .i64 Nb, .string Sb, .slice qe Eb de, .slice qr 0 dr]] W (CopyP 14 b W)) := fun W hW => copy_any 14 b _ W (HU2.out.below hW) HS2.out.1
      go_wp2_with fail
      refine Calls.mono (HCA.out _ (Below.refl _ _)) ?_
      rintro e w3 ⟨xv, bs0, rfl, hX, hb3⟩
      have HEC : Hid (Calls Try.prog 12 #[xv] w3 (EncP (encA 14 a) w3)) := encode_any hX.trW (by omega) (by have := HS1.out.2; omega) HS1.out.1
      clear hX
      go_wp2_with fail
      refine Calls.mono HEC.out ?_
      rintro e w4 ⟨r1, rfl, ho1, hb4⟩
      have hb24 : Below w2.heap.size w2 w4 := hb3.trans (hb4.mono hb3.size)
      have hbw4 : Below w.heap.size w w4 := hbw2.trans (hb24.mono hbw2.size)
      have HT4 : Hid (TrIn 14 w4 (.agg #[.int .i64 3, .int .i64 N, .string S, .slice pe Ke ce, .slice pr 0 cr]) a) := HT2.out.below hb24
      have BA4 := BA2.below hb24
      have BB4 := BB2.below hb24
      have HO1 : Hid (w4.ownsRow w3.heap.size 5 1 r1 (encA 14 a).1.length (byteCells (encA 14 a).1)) := ho1
      clear HEC hb3 hb4 ho1 BA2 BB2 HT2 HU2 p0 p1 p2 p3 p4 q0 q1 q2 q3 q4
      have q0 := (BB4.cell 0).trans rfl
      have q1 := (BB4.cell 1).trans rfl
      have q2 := (BB4.cell 2).trans rfl
      have q3 := (BB4.cell 3).trans rfl
      have q4 := (BB4.cell 4).trans rfl
      go_wp2_with fail
      refine Calls.mono (HCB.out _ hb24) ?_
      rintro e w5 ⟨uv, bs, rfl, ⟨ur, rfl, hur, hap⟩, hb5⟩
      obtain ⟨ua, un, uc, ub, um, ud, hure⟩ := hur.open
      rw [HLB.out.2.2.1, HLB.out.2.2.2.1, HLB.out.2.2.2.2] at hure
      subst hure
      obtain ⟨-, -, -, hun, hum, hu1, hu2, hu3, hu4⟩ := hur.parts
      rw [HLB.out.2.1] at hun
      rw [HLB.out.1] at hum
      have hun' : Eb = un := hun.symm
      subst hun' hum
      clear hun
      unfold maxLen at hu2
      obtain ⟨⟨ns1, er1⟩, hE1⟩ : ∃ q, encA 14 a = q := ⟨_, rfl⟩
      have HE1 : Hid (encA 14 a = (ns1, er1)) := hE1
      rw [hE1] at HO1 ⊢
      simp only at HO1 ⊢
      clear hE1
      obtain ⟨w6, hw6⟩ : ∃ z, z = w5.alloc (Obj.cells #[.int .i64 3, .int .i64 Nb, .string Sb, .slice ua Eb uc, .slice ub 0 ud] 25) := ⟨_, rfl⟩
      have al6 : Below w5.heap.size w5 w6 := by rw [hw6]; exact (Below.refl _ _).alloc (Nat.le_refl _) _
      have BU6 : Hid (Blk w6 w5.heap.size #[.int .i64 3, .int .i64 Nb, .string Sb, .slice ua Eb uc, .slice ub 0 ud] 25) := (by rw [hw6]; exact Blk.new w5 _ _ : Blk w6 w5.heap.size #[.int .i64 3, .int .i64 Nb, .string Sb, .slice ua Eb uc, .slice ub 0 ud] 25)
      have hb46 : Below w4.heap.size w4 w6 := hb5.trans (al6.mono hb5.size)
      have HAP : Hid (bs.Nodup ∧ ∀ k ∈ bs, w4.heap.size ≤ k ∧ k < w5.heap.size) := hap
      have HTR6 : Hid (TrO 14 w4.heap.size w6 [.int .i64 3, .int .i64 Nb, .string Sb, .slice ua Eb uc, .slice ub 0 ud] ⟨3, Nb, Sb, turnE b.es 0, b.rest⟩ bs) := (by
        have h1 := hur.sm (Sm.below al6 fun k hk => (hap.2 k hk).2)
        rw [turnE_zero]
        have h2 : b = ⟨3, Nb, Sb, b.es, b.rest⟩ := tr_parts HLB.out.2.2.1 HLB.out.2.2.2.1 HLB.out.2.2.2.2 rfl rfl
        rw [← h2]
        exact h1 : TrO 14 w4.heap.size w6 _ _ bs)
      have HUB : Hid (∀ k, (Value.slice ua Eb uc).ownBlock = some k → w4.heap.size ≤ k ∧ k < w5.heap.size) := fun k hk => hap.2 k (hu4 k hk)
      have HUA : Hid (Eb = 0 ∨ ∃ g, ua = some ⟨g, 0, none⟩) := hu3.imp id fun ⟨g, h, _⟩ => ⟨g, h⟩
      have hbw6 : Below w.heap.size w w6 := hbw4.trans (hb46.mono hbw4.size)
      clear hur hap hu3 hu4 hb5 al6 q0 q1 q2 q3 q4
      go_wp2_with fail
      rw [← hw6]
      clear hw6
      obtain ⟨bu, hbu⟩ : ∃ z, w5.heap.size = z := ⟨_, rfl⟩
      rw [hbu] at BU6 HAP HUB
      simp only [hbu]
      clear hbu
      go_loopw [8] (fun iv wr => ∃ i : Nat, iv = .int .i64 (i : Int) ∧ i ≤ Eb ∧ Hid (TrO 14 w4.heap.size wr [.int .i64 3, .int .i64 Nb, .string Sb, .slice ua Eb uc, .slice ub 0 ud] ⟨3, Nb, Sb, turnE b.es i, b.rest⟩ bs) ∧ Hid (Blk wr bu #[.int .i64 3, .int .i64 Nb, .string Sb, .slice ua Eb uc, .slice ub 0 ud] 25) ∧ Below w4.heap.size w4 wr) (fun iv _ => Eb - (intOf iv).toNat)
      case atStart => exact ⟨0, rfl, by omega, HTR6, BU6, hb46⟩
      case round =>
        obtain ⟨i, rfl, hi, HTR, HBU, hbr⟩ := hrel
        by_cases hlt : i < Eb
        · obtain ⟨e, hx⟩ : ∃ r, b.es[i]? = some r := ⟨_, List.getElem?_eq_getElem (by rw [HLB.out.2.1]; exact hlt)⟩
          obtain ⟨g, rfl⟩ : ∃ g, ua = some ⟨g, 0, none⟩ := by
            rcases HUA.out with h | h
            · omega
            · exact h
          obtain ⟨et, ex⟩ := e
          have hgB : w4.heap.size ≤ g ∧ g < bu := HUB.out g rfl
          have hcell : wr.cell? ⟨g, i * 2, none⟩ = some (.int .i64 et) := by
            obtain ⟨ve, vr, rows, bss, q1, -, -, -, -, -, q7, -⟩ := HTR.out
            simp only [List.cons.injEq, and_true, true_and] at q1
            obtain ⟨rfl, rfl⟩ := q1
            obtain ⟨r, bb, g1, g2, vt, rs', bss', rfl, g5, g6, g7⟩ := q7.each i (et, ex) (turnE_at hx)
            have := q7.own.cells (g := g) rfl (i * 2) (.int .i64 et) (by have := flat_get rows q7.wide i _ g1 0 (.int .i64 et) rfl; rwa [Nat.add_zero] at this)
            rw [Addr.add_lit, Nat.zero_add] at this
            exact this
          have hfz : wr.frozen? ⟨g, i * 2, none⟩ = false := by
            obtain ⟨ve, vr, rows, bss, q1, -, -, -, -, -, q7, -⟩ := HTR.out
            simp only [List.cons.injEq, and_true, true_and] at q1
            obtain ⟨rfl, rfl⟩ := q1
            have hh := q7.own
            rw [show (⟨3, Nb, Sb, turnE b.es i, b.rest⟩ : Tr).es.length = Eb from by show (turnE b.es i).length = Eb; rw [turnE_len, HLB.out.2.1]] at hh
            exact hh.frozenAt (i * 2)
          obtain ⟨y, hy⟩ : ∃ y, bits .and .i64 et 255 = y := ⟨_, rfl⟩
          have HYJ : Hid (tagJ et = y + 200) := (by unfold tagJ; rw [hy] : tagJ et = y + 200)
          have hy1 : 0 ≤ y ∧ y ≤ 255 := by have := tagJ_in et; rw [HYJ.out] at this; omega
          obtain ⟨hy1, hy2⟩ := hy1
          have HTR2 : Hid (TrO 14 w4.heap.size (wr.drew.setCell ⟨g, i * 2, none⟩ (.int .i64 (y + 200))) [.int .i64 3, .int .i64 Nb, .string Sb, .slice (some ⟨g, 0, none⟩) Eb uc, .slice ub 0 ud] ⟨3, Nb, Sb, turnE b.es (i + 1), b.rest⟩ bs) := (by
            have h1 : TrO 14 w4.heap.size wr.drew [.int .i64 3, .int .i64 Nb, .string Sb, .slice (some ⟨g, 0, none⟩) Eb uc, .slice ub 0 ud] ⟨3, Nb, Sb, turnE b.es i, b.rest⟩ bs := HTR.out.sm fun k hk => rfl
            have hl : (turnE b.es i).length = Eb := by rw [turnE_len, HLB.out.2.1]
            have h2 := TrO.setTag (t := ⟨3, Nb, Sb, turnE b.es i, b.rest⟩) (g := g) (cap := uc) (vr := .slice ub 0 ud) (by simp only [hl]; exact h1) HAP.out.1 (turnE_at hx) (z := y + 200) ⟨by omega, by omega⟩
            simp only [hl] at h2
            have h3 : (turnE b.es i).set i (y + 200, ex) = turnE b.es (i + 1) := by have := turnE_step hx; rw [HYJ.out] at this; exact this
            rw [h3] at h2
            exact h2.1 : TrO 14 w4.heap.size _ _ _ bs)
          have HBU2 : Hid (Blk (wr.drew.setCell ⟨g, i * 2, none⟩ (.int .i64 (y + 200))) bu #[.int .i64 3, .int .i64 Nb, .string Sb, .slice (some ⟨g, 0, none⟩) Eb uc, .slice ub 0 ud] 25) := Blk.other (w := wr.drew) HBU.out (a := ⟨g, i * 2, none⟩) (by show bu ≠ g; omega) _
          have hbr2 : Below w4.heap.size w4 (wr.drew.setCell ⟨g, i * 2, none⟩ (.int .i64 (y + 200))) := Below.setCell (p := ⟨g, i * 2, none⟩) hbr.drew hgB.1 _
          have c3 := (HBU.out.cell 3).trans rfl
          clear hx HTR hgB
          go_wp2_with fail
          have hT0 : wr.cell? ⟨bu, 3, none⟩ = some (.slice (some ⟨g, 0, none⟩) Eb uc) ∧ wr.cell? ⟨g, i * 2, none⟩ = some (.int .i64 et) := ⟨c3, hcell⟩
          refine M_region (T := fun W => W.cell? ⟨bu, 3, none⟩ = some (.slice (some ⟨g, 0, none⟩) Eb uc) ∧ W.cell? ⟨g, i * 2, none⟩ = some (.int .i64 et)) (m := 13) (by kernel_rfl) ?_
          have hS : (wr.drew).cell? ⟨bu, 3, none⟩ = some (.slice (some ⟨g, 0, none⟩) Eb uc) ∧ (wr.drew).cell? ⟨g, i * 2, none⟩ = some (.int .i64 et) := hT0
          refine M_take 0 60 (.pointer (some ⟨bu, 3, none⟩)) _ rfl rfl (by kernel_rfl) (by kernel_rfl) (by kernel_rfl) (by kernel_rfl) (by kernel_rfl) (fun _ _ _ h => h) (by rfl) (fun w' hw' => ?_) hS (listed' := #[true, false, false, false, false, false, false, false, false, false, false, false, false, false]) (by kernel_rfl) rfl ?_
          · go_simp
          simp only [List.setIfInBounds_toArray, List.set_cons_zero, List.set_cons_succ]
          refine M_take 1 61 (.slice (some ⟨g, 0, none⟩) Eb uc) _ rfl rfl (by kernel_rfl) (by kernel_rfl) (by kernel_rfl) (by kernel_rfl) (by kernel_rfl) (fun _ _ _ h => h) (by rfl) (fun w' hw' => ?_) hS (listed' := #[true, true, false, false, false, false, false, false, false, false, false, false, false, false]) (by kernel_rfl) rfl ?_
          · obtain ⟨f3, f4⟩ := hw'; go_simp
          simp only [List.setIfInBounds_toArray, List.set_cons_zero, List.set_cons_succ]
          refine M_take 2 62 (.int .i64 (i : Int)) _ rfl rfl (by kernel_rfl) (by kernel_rfl) (by kernel_rfl) (by kernel_rfl) (by kernel_rfl) (fun _ _ _ h => h) (by rfl) (fun w' hw' => ?_) hS (listed' := #[true, true, true, false, false, false, false, false, false, false, false, false, false, false]) (by kernel_rfl) rfl ?_
          · go_simp
          simp only [List.setIfInBounds_toArray, List.set_cons_zero, List.set_cons_succ]
          refine M_take 3 63 (.pointer (some ⟨bu, 3, none⟩)) _ rfl rfl (by kernel_rfl) (by kernel_rfl) (by kernel_rfl) (by kernel_rfl) (by kernel_rfl) (fun _ _ _ h => h) (by rfl) (fun w' hw' => ?_) hS (listed' := #[true, true, true, true, false, false, false, false, false, false, false, false, false, false]) (by kernel_rfl) rfl ?_
          · go_simp
          simp only [List.setIfInBounds_toArray, List.set_cons_zero, List.set_cons_succ]
          refine M_take 4 64 (.slice (some ⟨g, 0, none⟩) Eb uc) _ rfl rfl (by kernel_rfl) (by kernel_rfl) (by kernel_rfl) (by kernel_rfl) (by kernel_rfl) (fun _ _ _ h => h) (by rfl) (fun w' hw' => ?_) hS (listed' := #[true, true, true, true, true, false, false, false, false, false, false, false, false, false]) (by kernel_rfl) rfl ?_
          · obtain ⟨f3, f4⟩ := hw'; go_simp
          simp only [List.setIfInBounds_toArray, List.set_cons_zero, List.set_cons_succ]
          refine M_take 5 65 (.int .i64 (i : Int)) _ rfl rfl (by kernel_rfl) (by kernel_rfl) (by kernel_rfl) (by kernel_rfl) (by kernel_rfl) (fun _ _ _ h => h) (by rfl) (fun w' hw' => ?_) hS (listed' := #[true, true, true, true, true, true, false, false, false, false, false, false, false, false]) (by kernel_rfl) rfl ?_
          · go_simp
          simp only [List.setIfInBounds_toArray, List.set_cons_zero, List.set_cons_succ]
          refine M_take 6 66 (.pointer (some ⟨g, i * 2, none⟩)) _ rfl rfl (by kernel_rfl) (by kernel_rfl) (by kernel_rfl) (by kernel_rfl) (by kernel_rfl) (fun _ _ _ h => h) (by rfl) (fun w' hw' => ?_) hS (listed' := #[true, true, true, true, true, true, true, false, false, false, false, false, false, false]) (by kernel_rfl) rfl ?_
          · go_simp
          simp only [List.setIfInBounds_toArray, List.set_cons_zero, List.set_cons_succ]
          refine M_take 7 67 (.pointer (some ⟨g, i * 2, none⟩)) _ rfl rfl (by kernel_rfl) (by kernel_rfl) (by kernel_rfl) (by kernel_rfl) (by kernel_rfl) (fun _ _ _ h => h) (by rfl) (fun w' hw' => ?_) hS (listed' := #[true, true, true, true, true, true, true, true, false, false, false, false, false, false]) (by kernel_rfl) rfl ?_
          · go_simp
          simp only [List.setIfInBounds_toArray, List.set_cons_zero, List.set_cons_succ]
          refine M_take 8 68 (.int .i64 et) _ rfl rfl (by kernel_rfl) (by kernel_rfl) (by kernel_rfl) (by kernel_rfl) (by kernel_rfl) (fun _ _ _ h => h) (by rfl) (fun w' hw' => ?_) hS (listed' := #[true, true, true, true, true, true, true, true, true, false, false, false, false, false]) (by kernel_rfl) rfl ?_
          · obtain ⟨f3, f4⟩ := hw'; go_simp
          simp only [List.setIfInBounds_toArray, List.set_cons_zero, List.set_cons_succ]
          refine M_take 9 69 (.int .i64 y) _ rfl rfl (by kernel_rfl) (by kernel_rfl) (by kernel_rfl) (by kernel_rfl) (by kernel_rfl) (fun _ _ _ h => h) (by rfl) (fun w' hw' => ?_) hS (listed' := #[true, true, true, true, true, true, true, true, true, true, false, false, false, false]) (by kernel_rfl) rfl ?_
          · go_simp
          simp only [List.setIfInBounds_toArray, List.set_cons_zero, List.set_cons_succ]
          refine M_take 10 70 (.int .i64 (y + 200)) _ rfl rfl (by kernel_rfl) (by kernel_rfl) (by kernel_rfl) (by kernel_rfl) (by kernel_rfl) (fun _ _ _ h => h) (by rfl) (fun w' hw' => ?_) hS (listed' := #[true, true, true, true, true, true, true, true, true, true, true, false, false, false]) (by kernel_rfl) rfl ?_
          · go_simp; rw [IntKind.wrap_i64]; omega
          simp only [List.setIfInBounds_toArray, List.set_cons_zero, List.set_cons_succ]
          refine M_run 11 71 (.pointer (some ⟨g, i * 2, none⟩)) (wr.drew) rfl rfl (by kernel_rfl) (by rfl) (listed' := #[true, true, true, true, true, true, true, true, true, true, true, true, false, false]) (by kernel_rfl) (by go_simp) hS ?_
          simp only [List.setIfInBounds_toArray, List.set_cons_zero, List.set_cons_succ]
          refine M_run 12 72 (.pointer (some ⟨g, i * 2, none⟩)) (wr.drew) rfl rfl (by kernel_rfl) (by rfl) (listed' := #[true, true, true, true, true, true, true, true, true, true, true, true, true, false]) (by kernel_rfl) (by go_simp) hS ?_
          simp only [List.setIfInBounds_toArray, List.set_cons_zero, List.set_cons_succ]
          have hfz2 : (wr.drew).frozen? ⟨g, i * 2, none⟩ = false := hfz
          refine M_store 13 (wr.drew.setCell ⟨g, i * 2, none⟩ (.int .i64 (y + 200))) rfl rfl (by kernel_rfl) (by rfl) (listed' := #[true, true, true, true, true, true, true, true, true, true, true, true, true, true]) (by kernel_rfl) (by go_simp) (by kernel_rfl) ?_
          refine M_done (by kernel_rfl) ?_ _
          clear hT0 hS hcell hfz hfz2 c3 hy HBU hbr
          go_wp2_with fail
          go_roundw
          case rel => exact ⟨i + 1, by go_num, by omega, HTR2, HBU2, hbr2⟩
          case measure => simp [intOf]; omega
        · have hE : Eb = i := by omega
          subst hE
          have HTU : Hid (TrO 14 w4.heap.size wr [.int .i64 3, .int .i64 Nb, .string Sb, .slice ua Eb uc, .slice ub 0 ud] ⟨3, Nb, Sb, turnE b.es b.es.length, []⟩ bs) := (by
            have h1 := HTR.out
            rw [List.eq_nil_of_length_eq_zero HLB.out.1] at h1
            rw [HLB.out.2.1]
            exact h1 : TrO 14 w4.heap.size wr _ _ bs)
          have HSU : Hid (SmN 14 ⟨3, Nb, Sb, turnE b.es b.es.length, []⟩ ∧ cntN 14 ⟨3, Nb, Sb, turnE b.es b.es.length, []⟩ ≤ 1000) := ⟨turn_sm HS2.out.1 3 Nb Sb (by rw [← HLB.out.2.2.2.2]; exact HS2.out.1.1) [] rfl _, by
            have h1 : cntN 14 ⟨3, Nb, Sb, turnE b.es b.es.length, []⟩ = cntN 14 b := cnt_mes 3 Nb Sb _ [] (subs_turn _ _)
            rw [h1]; have := HS2.out.2; omega⟩
          have HEU : Hid (Calls Try.prog 12 #[.agg #[.int .i64 3, .int .i64 Nb, .string Sb, .slice ua Eb uc, .slice ub 0 ud]] wr (EncP (encA 14 ⟨3, Nb, Sb, turnE b.es b.es.length, []⟩) wr)) := encode_any ⟨_, rfl, HTU.out.trR⟩ (by decide) HSU.out.2 HSU.out.1
          have HBL : Hid (∀ k ∈ bs, k < wr.heap.size) := fun k hk => Nat.lt_trans (HAP.out.2 k hk).2 HBU.out.lt
          have c0 := (HBU.out.cell 0).trans rfl
          have c1 := (HBU.out.cell 1).trans rfl
          have c2 := (HBU.out.cell 2).trans rfl
          have c3 := (HBU.out.cell 3).trans rfl
          have c4 := (HBU.out.cell 4).trans rfl
          clear HTR BU6 HTR6 hb46
          go_wp2_with fail
          refine Calls.mono HEU.out ?_
          rintro e w7 ⟨r2, rfl, ho2, hb7⟩
          have hb47 : Below w4.heap.size w4 w7 := hbr.trans (hb7.mono hbr.size)
          have HB47 : Hid (w4.heap.size ≤ w7.heap.size ∧ bu < w7.heap.size) := ⟨hb47.size, Nat.lt_of_lt_of_le HBU.out.lt hb7.size⟩
          have hb27 : Below w2.heap.size w2 w7 := hb24.trans (hb47.mono hb24.size)
          have hbw7 : Below w.heap.size w w7 := hbw4.trans (hb47.mono hbw4.size)
          have BA7 := BA4.below hb47
          have HT7 : Hid (TrIn 14 w7 (.agg #[.int .i64 3, .int .i64 N, .string S, .slice pe Ke ce, .slice pr 0 cr]) a) := HT4.out.below hb47
          have HO17 : Hid (w7.ownsRow w3.heap.size 5 1 r1 ns1.length (byteCells ns1)) := own_belowH HO1 hb47
          have HTU7 : Hid (TrO 14 w4.heap.size w7 [.int .i64 3, .int .i64 Nb, .string Sb, .slice ua Eb uc, .slice ub 0 ud] ⟨3, Nb, Sb, turnE b.es b.es.length, []⟩ bs) := HTU.out.sm (Sm.below hb7 HBL.out)
          have HBU7 : Hid (Blk w7 bu #[.int .i64 3, .int .i64 Nb, .string Sb, .slice ua Eb uc, .slice ub 0 ud] 25) := HBU.out.below hb7
          obtain ⟨⟨ns2, er2⟩, hE2⟩ : ∃ q, encA 14 ⟨3, Nb, Sb, turnE b.es b.es.length, []⟩ = q := ⟨_, rfl⟩
          have HE2 : Hid (encA 14 ⟨3, Nb, Sb, turnE b.es b.es.length, []⟩ = (ns2, er2)) := hE2
          rw [hE2] at ho2 ⊢
          have HO27 : Hid (w7.ownsRow wr.heap.size 5 1 r2 ns2.length (byteCells ns2)) := ho2
          simp only
          clear hE2 ho2 HEU HTU HBU HBL hb7 hbr BA4 BB4 HT4 HO1 HCB c0 c1 c2 c3 c4
          obtain ⟨x1, y1, rfl, -⟩ := own_open HO17.out
          obtain ⟨x2, y2, rfl, -⟩ := own_open HO27.out
          obtain ⟨L1, hL1⟩ : ∃ z, ns1.length = z := ⟨_, rfl⟩
          obtain ⟨L2, hL2⟩ : ∃ z, ns2.length = z := ⟨_, rfl⟩
          have HLL : Hid (ns1.length = L1 ∧ ns2.length = L2) := ⟨hL1, hL2⟩
          have hl1 : L1 ≤ 4096 := by have h1 := encA_le 14 a; rw [HE1.out] at h1; rw [← hL1]; exact h1
          have hl2 : L2 ≤ 4096 := by have h1 := encA_le 14 ⟨3, Nb, Sb, turnE b.es b.es.length, []⟩; rw [HE2.out] at h1; rw [← hL2]; exact h1
          rw [hL1] at HO17 ⊢
          rw [hL2] at HO27 ⊢
          clear hL1 hL2
          have p0 := (BA7.cell 0).trans rfl
          have p1 := (BA7.cell 1).trans rfl
          have p2 := (BA7.cell 2).trans rfl
          have p3 := (BA7.cell 3).trans rfl
          have p4 := (BA7.cell 4).trans rfl
          by_cases hz1 : er1 = 0
          rotate_left
          · have d5 : ((er1 : Int) != 0) = true := by simp; omega
            clear hz1
            go_wp2_with fail
            refine (eawake_any _).mono ?_
            rintro e w8 ⟨rfl, hw8⟩
            have hbw8 : Below w.heap.size w w8 := hbw7.trans (hw8.mono hbw7.size)
            go_wp2_with fail
            go_ret
            exact ⟨rfl, hbw8⟩
          by_cases hz2 : er2 = 0
          rotate_left
          · subst hz1
            have d6 : ((er2 : Int) != 0) = true := by simp; omega
            clear hz2
            go_wp2_with fail
            refine (eawake_any _).mono ?_
            rintro e w8 ⟨rfl, hw8⟩
            have hbw8 : Below w.heap.size w w8 := hbw7.trans (hw8.mono hbw7.size)
            go_wp2_with fail
            go_ret
            exact ⟨rfl, hbw8⟩
          subst hz1 hz2
          simp only [show ((0 : Nat) : Int) = 0 from rfl]
          by_cases hke : Ke = 0
          · subst hke
            have HLS : Hid (∀ e, a.es.getLast? = some e → e.1 < 200) := fun e he => by rw [List.eq_nil_of_length_eq_zero HLA.out.2.1] at he; cases he
            by_cases hlen : L1 + L2 ≤ 4096
            rotate_left
            · have d7 : 4096 < L1 + L2 := by omega
              clear hlen HLS
              go_wp2_with fail
              refine (eawake_any _).mono ?_
              rintro e w8 ⟨rfl, hw8⟩
              have hbw8 : Below w.heap.size w w8 := hbw7.trans (hw8.mono hbw7.size)
              go_wp2_with fail
              go_ret
              exact ⟨rfl, hbw8⟩
            have HJ := join_ok (Nb := Nb) (Sb := Sb) HS1.out HS2.out (List.eq_nil_of_length_eq_zero HLA.out.1) (by rw [HE1.out]) (by rw [HE2.out]) HLS.out (by rw [HE1.out, HE2.out]; show ns1.length + ns2.length ≤ 4096; rw [HLL.out.1, HLL.out.2]; exact hlen)
            rw [HE1.out, HE2.out] at HJ
            obtain ⟨j1, j2, j3, j4, j5⟩ := HJ
            obtain rfl : N = 0 := by rw [← HLA.out.2.2.2.1, j1]; rfl
            obtain rfl : S = ⟨#[]⟩ := by rw [← HLA.out.2.2.2.2, j1]; rfl
            have HJ2 : Hid (encA 14 (mesT (a.es ++ turnE b.es b.es.length)) = (ns1 ++ ns2, 0)) := j2
            have HJ3 : Hid (SmN 14 (mesT (a.es ++ turnE b.es b.es.length)) ∧ cntN 14 (mesT (a.es ++ turnE b.es b.es.length)) ≤ 1000) := ⟨j3, j4⟩
            have HJ5 : Hid (dpN 14 a ≤ dpN 14 (mesT (a.es ++ turnE b.es b.es.length))) := j5
            clear HLS j1 j2 j3 j4 j5
            go_wp2_with fail
            refine Calls.mono (HCA.out _ hb27) ?_
            rintro e w8 ⟨bv, bs2, rfl, ⟨br, rfl, hbrO, hap2⟩, hb8⟩
            obtain ⟨va, vn, vc, vb, vm, vd, hbre⟩ := hbrO.open
            rw [HLA.out.2.2.1, HLA.out.2.2.2.1, HLA.out.2.2.2.2] at hbre
            subst hbre
            obtain ⟨-, -, -, hvn, hvm, hv1, hv2, hv3, hv4⟩ := hbrO.parts
            rw [HLA.out.2.1] at hvn
            rw [HLA.out.1] at hvm
            subst hvn hvm
            unfold maxLen at hv2
            obtain ⟨w9, hw9⟩ : ∃ z, z = w8.alloc (Obj.cells #[.int .i64 3, .int .i64 0, .string ⟨#[]⟩, .slice va 0 vc, .slice vb 0 vd] 25) := ⟨_, rfl⟩
            have al9 : Below w8.heap.size w8 w9 := by rw [hw9]; exact (Below.refl _ _).alloc (Nat.le_refl _) _
            have BV9 : Blk w9 w8.heap.size #[.int .i64 3, .int .i64 0, .string ⟨#[]⟩, .slice va 0 vc, .slice vb 0 vd] 25 := by rw [hw9]; exact Blk.new w8 _ _
            have hb79 : Below w7.heap.size w7 w9 := hb8.trans (al9.mono hb8.size)
            have BU9 := HBU7.out.below hb79
            have HVO : Hid (TrO 14 w7.heap.size w9 [.int .i64 3, .int .i64 0, .string ⟨#[]⟩, .slice va 0 vc, .slice vb 0 vd] a bs2) := hbrO.sm (Sm.below al9 fun k hk => (hap2.2 k hk).2)
            have hbs7 : ∀ k ∈ bs, k < w7.heap.size := fun k hk => Nat.lt_trans (HAP.out.2 k hk).2 HBU7.out.lt
            have HUO : Hid (TrO 14 w4.heap.size w9 [.int .i64 3, .int .i64 Nb, .string Sb, .slice ua Eb uc, .slice ub 0 ud] ⟨3, Nb, Sb, turnE b.es b.es.length, []⟩ bs) := HTU7.out.sm (Sm.below hb79 hbs7)
            obtain ⟨veA, vrA, rowsA, bssA, g1, -, -, -, gF, gO, gR, gB⟩ := HVO.out
            simp only [List.cons.injEq, and_true, true_and] at g1
            obtain ⟨-, -, -, rfl, rfl⟩ := g1
            obtain ⟨veB, vrB, rowsB, bssB, g2, -, -, -, -, -, gR2, gB2⟩ := HUO.out
            simp only [List.cons.injEq, and_true, true_and] at g2
            obtain ⟨rfl, rfl⟩ := g2
            have hown : w9.ownsRow w7.heap.size 41 2 (.slice va 0 vc) (0) rowsA.flatten := by have h1 := gR.own; rw [HLA.out.2.1] at h1; exact h1
            have hrowB : RowG w9 (.slice ua Eb uc) 2 rowsB := (RowG.own gR2.wide (by decide) gR2.own).1
            have hlB : rowsB.length = Eb := by rw [gR2.len]; show (turnE b.es b.es.length).length = Eb; rw [turnE_len, HLB.out.2.1]
            have hEb : Eb ≤ 500 := by rw [← HLB.out.2.1]; exact HS2.out.1.2.2.1
            have hKe : 0 ≤ 500 := by rw [← HLA.out.2.1]; exact HS1.out.1.2.2.1
            have hoc := ens_one gR2
            have HAP2 : Hid (bs2.Nodup ∧ ∀ k ∈ bs2, w7.heap.size ≤ k ∧ k < w8.heap.size) := hap2
            have h49 : w4.heap.size ≤ w7.heap.size := hb47.size
            have h79 : w7.heap.size ≤ w9.heap.size := hb79.size
            have H1 : Hid (w9.ownsRow w7.heap.size 41 2 (.slice va 0 vc) (0) rowsA.flatten) := hown
            have H2 : Hid (RowG w9 (.slice ua Eb uc) 2 rowsB ∧ (∀ r ∈ rowsB, r.length = 2) ∧ (∀ u ∈ rowsB.flatten, u.oneCell' = true)) := ⟨hrowB, gR2.wide, hoc⟩
            have HLR : Hid (rowsB.length = Eb) := hlB
            have HRA : Hid (RowO (EtO (TrO 13 w7.heap.size) w7.heap.size) w7.heap.size 41 2 w9 (.slice va 0 vc) a.es rowsA bssA) := gR
            have HRB : Hid (RowO (EtO (TrO 13 w4.heap.size) w4.heap.size) w4.heap.size 41 2 w9 (.slice ua Eb uc) (turnE b.es b.es.length) rowsB bssB) := gR2
            have HOR : Hid (w9.ownsRow w7.heap.size 46 4 (.slice vb 0 vd) a.rest.length (rawCells a.rest)) := gO
            have HGB : Hid (bs2 = blkOf (.slice vb 0 vd) ++ allB (.slice va 0 vc) bssA) := gB
            have HGB2 : Hid (bs = blkOf (.slice ub 0 ud) ++ allB (.slice ua Eb uc) bssB) := gB2
            obtain ⟨bb, hbb⟩ : ∃ z, w8.heap.size = z := ⟨_, rfl⟩
            have hbb9 : bb < w9.heap.size := by rw [← hbb]; exact BV9.lt
            have h78 : w7.heap.size ≤ bb := by rw [← hbb]; exact hb8.size
            rw [hbb] at BV9 HAP2
            have u3 := (BU9.cell 3).trans rfl
            have c0 := (BV9.cell 0).trans rfl
            have c1 := (BV9.cell 1).trans rfl
            have c2 := (BV9.cell 2).trans rfl
            have c3 := (BV9.cell 3).trans rfl
            have c4 := (BV9.cell 4).trans rfl
            have z3 := BV9.froz 3
            have HBV9 : Hid (Blk w9 bb #[.int .i64 3, .int .i64 0, .string ⟨#[]⟩, .slice va 0 vc, .slice vb 0 vd] 25) := BV9
            clear hown hrowB hlB hoc hbrO hap2 hv3 hv4 gR gR2 gO gB gB2 gF hb8 al9 HVO HUO HTU7 HBU7 hbs7 BU9 BV9
            go_upto_region 13 with fail
            rw [← hw9]
            clear hw9 hbb
            go_wp2_with (first
              | (at_builtin; refine wpList_joinG rfl _ _ 22 41 2 32 _ rfl Try.underlying22 infoEn rfl (by decide) w7.heap.size (.slice va 0 vc) (0) rowsA.flatten rfl H1.out (.slice ua Eb uc) rowsB rfl H2.out.1 H2.out.2.1 H2.out.2.2 ?c1 (by decide) h79 ?_)
              | fail)
            case c1 => have h1 := HLR.out; omega
            intro v' w10 ho hg
            obtain ⟨fnn, hfn⟩ : ∃ z, 0 + Eb = z := ⟨_, rfl⟩
            replace ho : w10.ownsRow w7.heap.size 41 2 v' fnn (rowsA.flatten ++ rowsB.flatten) := by
              rw [← hfn, ← HLR.out]
              first | exact ho | simpa using ho
            obtain ⟨fa, fc, hv'⟩ := own_form ho
            subst hv'
            have hvb : ∀ k, (Value.slice va 0 vc).ownBlock = some k → w7.heap.size ≤ k ∧ k < bb := fun k hk => HAP2.out.2 k (by rw [HGB.out]; exact List.mem_append.2 (.inr (List.mem_append.2 (.inl (mem_blkOf.2 hk)))))
            have B10 : Blk w10 bb #[.int .i64 3, .int .i64 0, .string ⟨#[]⟩, .slice va 0 vc, .slice vb 0 vd] 25 := (hg.block bb hbb9 (fun h => by have := hvb bb h.symm; omega)).trans HBV9.out
            have hfb : (Value.slice fa fnn fc).ownBlock ≠ some bb := own_typeG ho B10 (by decide)
            have hnd := HAP2.out.1
            rw [HGB.out] at hnd
            have hbA : ∀ k ∈ bssA.flatten, w7.heap.size ≤ k ∧ k < bb ∧ k ∉ blkOf (.slice va 0 vc) := fun k hk => by
              have h1 := HAP2.out.2 k (by rw [HGB.out]; exact List.mem_append.2 (.inr (List.mem_append.2 (.inr hk))))
              refine ⟨h1.1, h1.2, fun h2 => ?_⟩
              have h3 := (List.nodup_append.1 hnd).2.1
              exact (List.nodup_append.1 h3).2.2 k h2 k hk rfl
            have hbB : ∀ k ∈ bssB.flatten, k < w7.heap.size := fun k hk => by
              have h1 := HAP.out.2 k (by rw [HGB2.out]; exact List.mem_append.2 (.inr (List.mem_append.2 (.inr hk))))
              have h2 := HB47.out
              omega
            have s1 : Sm w9 w10 bssA.flatten := grown_sm hg (fun k hk => by have := hbA k hk; omega) (fun k hk => (hbA k hk).2.2)
            have s2 : Sm w9 w10 bssB.flatten := grown_sm hg (fun k hk => by have := hbB k hk; omega) (fun k hk h2 => by have h3 := hvb k (mem_blkOf.1 h2); have := hbB k hk; omega)
            have hJ := RowO.join (w' := w10) (v' := .slice fa fnn fc) HRA.out HRB.out h49 (by rw [HLR.out, HLA.out.2.1]; first | (rw [hfn]; exact ho) | (rw [← hfn] at ho; simpa using ho)) s1 s2
            have hbr : ∀ k, (Value.slice vb 0 vd).ownBlock = some k → k < bb ∧ (Value.slice va 0 vc).ownBlock ≠ some k := fun k hk => by
              have h1 := HAP2.out.2 k (by rw [HGB.out]; exact List.mem_append.2 (.inl (mem_blkOf.2 hk)))
              refine ⟨h1.2, fun h2 => ?_⟩
              exact (List.nodup_append.1 hnd).2.2 k (mem_blkOf.2 hk) k (List.mem_append.2 (.inl (mem_blkOf.2 h2))) rfl
            have hRr : (w10.setCell ⟨bb, 3, none⟩ (.slice fa fnn fc)).ownsRow w4.heap.size 46 4 (.slice vb 0 vd) 0 (rawCells []) := by
              have h0 := HOR.out
              rw [List.eq_nil_of_length_eq_zero HLA.out.1] at h0
              have h1 := own_below2 (w1 := w10) h0 (fun k hk => hg.block k (by have := (hbr k hk).1; omega) (fun h => (hbr k hk).2 h.symm))
              exact own_baseG (ownsRow_setCell_other h1 (fun h => by have := (hbr bb h).1; omega) _) h49
            have hT : TrO 14 w4.heap.size (w10.setCell ⟨bb, 3, none⟩ (.slice fa fnn fc)) [.int .i64 3, .int .i64 0, .string ⟨#[]⟩, .slice fa fnn fc, .slice vb 0 vd] (mesT (a.es ++ turnE b.es b.es.length)) (blkOf (.slice vb 0 vd) ++ allB (.slice fa fnn fc) (bssA ++ bssB)) :=
              ⟨_, _, _, _, rfl, three64, zero64, Nat.zero_le _, (fun f hf => by cases hf), hRr, hJ.sm (sm_setCell (p := ⟨bb, 3, none⟩) fun hk => by
                rcases List.mem_append.1 hk with hk | hk
                · exact hfb (mem_blkOf.1 hk)
                · rw [List.flatten_append] at hk
                  rcases List.mem_append.1 hk with hk | hk
                  · have := (hbA bb hk).2.1; omega
                  · have := hbB bb hk; omega) (fun r x b hp hs => hp.sm hs), rfl⟩
            have hW11 : Below w7.heap.size w7 (w10.setCell ⟨bb, 3, none⟩ (.slice fa fnn fc)) := (hb79.grown hg hb79.size (fun k hk => (hvb k hk).1)).setCell (p := ⟨bb, 3, none⟩) (by show w7.heap.size ≤ bb; omega) _
            have B11 : Blk (w10.setCell ⟨bb, 3, none⟩ (.slice fa fnn fc)) bb #[.int .i64 3, .int .i64 0, .string ⟨#[]⟩, .slice fa fnn fc, .slice vb 0 vd] 25 := B10.set 3 _ rfl
            have HTB : Hid (TrO 14 w4.heap.size (w10.setCell ⟨bb, 3, none⟩ (.slice fa fnn fc)) [.int .i64 3, .int .i64 0, .string ⟨#[]⟩, .slice fa fnn fc, .slice vb 0 vd] (mesT (a.es ++ turnE b.es b.es.length)) (blkOf (.slice vb 0 vd) ++ allB (.slice fa fnn fc) (bssA ++ bssB))) := hT
            have HEB : Hid (Calls Try.prog 12 #[.agg #[.int .i64 3, .int .i64 0, .string ⟨#[]⟩, .slice fa fnn fc, .slice vb 0 vd]] (w10.setCell ⟨bb, 3, none⟩ (.slice fa fnn fc)) (EncP (ns1 ++ ns2, 0) (w10.setCell ⟨bb, 3, none⟩ (.slice fa fnn fc)))) := (by
              have h1 := encode_any ⟨_, rfl, hT.trR⟩ (by decide) HJ3.out.2 HJ3.out.1
              rw [HJ2.out] at h1
              exact h1 : Calls Try.prog _ _ _ _)
            have c0 := (B10.cell 0).trans rfl
            have c1 := (B10.cell 1).trans rfl
            have c2 := (B10.cell 2).trans rfl
            have c3 := (B10.cell 3).trans rfl
            have c4 := (B10.cell 4).trans rfl
            have z3 := B10.froz 3
            have HB11 : Hid (Blk (w10.setCell ⟨bb, 3, none⟩ (.slice fa fnn fc)) bb #[.int .i64 3, .int .i64 0, .string ⟨#[]⟩, .slice fa fnn fc, .slice vb 0 vd] 25) := B11
            have HW11 : Hid (Below w7.heap.size w7 (w10.setCell ⟨bb, 3, none⟩ (.slice fa fnn fc))) := hW11
            clear ho hg hvb hbA hbB s1 s2 hJ hbr hRr hT hW11 hfb hnd B10 B11 hfn
            go_wp2_with fail
            generalize (w10.setCell ⟨bb, 3, none⟩ (.slice fa fnn fc)) = w11 at *
            refine Calls.mono HEB.out ?_
            rintro e w12 ⟨r3, rfl, ho3, hb12⟩
            have hb712 : Below w7.heap.size w7 w12 := HW11.out.trans (hb12.mono HW11.out.size)
            have HO1z : Hid (w12.ownsRow w3.heap.size 5 1 (.slice x1 L1 y1) L1 (byteCells ns1)) := own_belowH HO17 hb712
            have HO2z : Hid (w12.ownsRow wr.heap.size 5 1 (.slice x2 L2 y2) L2 (byteCells ns2)) := own_belowH HO27 hb712
            have HTz : Hid (TrIn 14 w12 (.agg #[.int .i64 3, .int .i64 0, .string ⟨#[]⟩, .slice pe 0 ce, .slice pr 0 cr]) a) := HT7.out.below hb712
            have HVz : Hid (TrIn 14 w12 (.agg #[.int .i64 3, .int .i64 0, .string ⟨#[]⟩, .slice fa fnn fc, .slice vb 0 vd]) (mesT (a.es ++ turnE b.es b.es.length))) := TrIn.below (w := w11) ⟨_, rfl, HTB.out.trC⟩ hb12
            have HBz : Hid (Blk w12 bb #[.int .i64 3, .int .i64 0, .string ⟨#[]⟩, .slice fa fnn fc, .slice vb 0 vd] 25) := HB11.out.below hb12
            have HAz : Hid (Blk w12 s #[.int .i64 3, .int .i64 0, .string ⟨#[]⟩, .slice pe 0 ce, .slice pr 0 cr] 25) := BA7.below hb712
            have hbw12 : Below w.heap.size w w12 := hbw7.trans (hb712.mono hbw7.size)
            have HCV : Hid (∀ W, Below w12.heap.size w12 W → (convert 29 9 r3).run Try.prog W = .ok (.string (strN ns1 ++ strN ns2)) W ∧ (convert 29 9 (.slice x1 L1 y1)).run Try.prog W = .ok (.string (strN ns1)) W ∧ (convert 29 9 (.slice x2 L2 y2)).run Try.prog W = .ok (.string (strN ns2)) W) := fun W hW => ⟨by rw [← strN_append]; exact conv_own (own_below ho3 hW), conv_own (own_below HO1z.out hW), conv_own (own_below HO2z.out hW)⟩
            have hs1 : (strN ns1).size ≤ 4096 := by rw [strN_size, HLL.out.1]; exact hl1
            have hs2 : (strN ns2).size ≤ 4096 := by rw [strN_size, HLL.out.2]; exact hl2
            obtain ⟨D1, hD1⟩ : ∃ z, dpN 14 a = z := ⟨_, rfl⟩
            obtain ⟨D2, hD2⟩ : ∃ z, dpN 14 (mesT (a.es ++ turnE b.es b.es.length)) = z := ⟨_, rfl⟩
            have hDD : D1 ≤ D2 := by rw [← hD1, ← hD2]; exact HJ5.out
            have HDA : Hid (∀ W, Below w12.heap.size w12 W → Calls Try.prog 21 #[.agg #[.int .i64 3, .int .i64 0, .string ⟨#[]⟩, .slice pe 0 ce, .slice pr 0 cr]] W fun e w' => e = .returned (.int .i64 (D1 : Int)) ∧ Below W.heap.size W w') := fun W hW => by have h1 := rDepth_any 14 a _ W (HTz.out.below hW) (by decide); rw [hD1] at h1; exact h1
            have HDB : Hid (∀ W, Below w12.heap.size w12 W → Calls Try.prog 21 #[.agg #[.int .i64 3, .int .i64 0, .string ⟨#[]⟩, .slice fa fnn fc, .slice vb 0 vd]] W fun e w' => e = .returned (.int .i64 (D2 : Int)) ∧ Below W.heap.size W w') := fun W hW => by have h1 := rDepth_any 14 _ _ W (HVz.out.below hW) (by decide); rw [hD2] at h1; exact h1
            clear ho3 hb12 HO1z HO2z HTz HVz hb712 HEB HTB HB11 HW11 hD1 hD2 HJ2 HJ3 HJ5 HO17 HO27 HT7 BA7 HCA p0 p1 p2 p3 p4
            generalize strN ns1 = T1 at *
            generalize strN ns2 = T2 at *
            have hTT : ((T1 ++ T2).toList == (T1 ++ T2).toList) = true := by simp
            obtain ⟨T3, hT3⟩ : ∃ z, T1 ++ T2 = z := ⟨_, rfl⟩
            go_wp2_with fail
            have hS : Below w12.heap.size w12 w12.drew := (Below.refl _ _).drew
            refine wp_region_held_drew (S := fun w' => Below w12.heap.size w12 w') (by kernel_rfl) hS (fun hS => ?_)
            refine rg_take 0 124 (.int .i64 0) _ rfl rfl (by kernel_rfl) (by kernel_rfl) (by kernel_rfl) (fun _ _ _ h => h) (by rfl) (fun w' hw' => ?_) hS (listed' := #[true, false, false, false, false, false, false, false, false, false, false, false, false, false, false, false, false, false, false, false, false, false, false]) (by kernel_rfl) rfl ?_
            · go_simp
            simp only [List.setIfInBounds_toArray, List.set_cons_zero, List.set_cons_succ]
            refine rg_take 1 125 (.bool true) _ rfl rfl (by kernel_rfl) (by kernel_rfl) (by kernel_rfl) (fun _ _ _ h => h) (by rfl) (fun w' hw' => ?_) hS (listed' := #[true, true, false, false, false, false, false, false, false, false, false, false, false, false, false, false, false, false, false, false, false, false, false]) (by kernel_rfl) rfl ?_
            · go_simp
            simp only [List.setIfInBounds_toArray, List.set_cons_zero, List.set_cons_succ]
            refine rg_take 2 126 (.bool true) _ rfl rfl (by kernel_rfl) (by kernel_rfl) (by kernel_rfl) (fun _ _ _ h => h) (by rfl) (fun w' hw' => ?_) hS (listed' := #[true, true, true, false, false, false, false, false, false, false, false, false, false, false, false, false, false, false, false, false, false, false, false]) (by kernel_rfl) rfl ?_
            · go_simp
            simp only [List.setIfInBounds_toArray, List.set_cons_zero, List.set_cons_succ]
            refine rg_take 3 127 (r3) _ rfl rfl (by kernel_rfl) (by kernel_rfl) (by kernel_rfl) (fun _ _ _ h => h) (by rfl) (fun w' hw' => ?_) hS (listed' := #[true, true, true, true, false, false, false, false, false, false, false, false, false, false, false, false, false, false, false, false, false, false, false]) (by kernel_rfl) rfl ?_
            · go_simp
            simp only [List.setIfInBounds_toArray, List.set_cons_zero, List.set_cons_succ]
            refine rg_take 4 128 (.string T3) _ rfl rfl (by kernel_rfl) (by kernel_rfl) (by kernel_rfl) (fun _ _ _ h => h) (by rfl) (fun w' hw' => ?_) hS (listed' := #[true, true, true, true, true, false, false, false, false, false, false, false, false, false, false, false, false, false, false, false, false, false, false]) (by kernel_rfl) rfl ?_
            · have f0 := (HCV.out _ hw').1; go_simp
            simp only [List.setIfInBounds_toArray, List.set_cons_zero, List.set_cons_succ]
            refine rg_take 5 129 (.slice x1 L1 y1) _ rfl rfl (by kernel_rfl) (by kernel_rfl) (by kernel_rfl) (fun _ _ _ h => h) (by rfl) (fun w' hw' => ?_) hS (listed' := #[true, true, true, true, true, true, false, false, false, false, false, false, false, false, false, false, false, false, false, false, false, false, false]) (by kernel_rfl) rfl ?_
            · go_simp
            simp only [List.setIfInBounds_toArray, List.set_cons_zero, List.set_cons_succ]
            refine rg_take 6 130 (.string T1) _ rfl rfl (by kernel_rfl) (by kernel_rfl) (by kernel_rfl) (fun _ _ _ h => h) (by rfl) (fun w' hw' => ?_) hS (listed' := #[true, true, true, true, true, true, true, false, false, false, false, false, false, false, false, false, false, false, false, false, false, false, false]) (by kernel_rfl) rfl ?_
            · have f0 := (HCV.out _ hw').2.1; go_simp
            simp only [List.setIfInBounds_toArray, List.set_cons_zero, List.set_cons_succ]
            refine rg_take 7 131 (.slice x2 L2 y2) _ rfl rfl (by kernel_rfl) (by kernel_rfl) (by kernel_rfl) (fun _ _ _ h => h) (by rfl) (fun w' hw' => ?_) hS (listed' := #[true, true, true, true, true, true, true, true, false, false, false, false, false, false, false, false, false, false, false, false, false, false, false]) (by kernel_rfl) rfl ?_
            · go_simp
            simp only [List.setIfInBounds_toArray, List.set_cons_zero, List.set_cons_succ]
            refine rg_take 8 132 (.string T2) _ rfl rfl (by kernel_rfl) (by kernel_rfl) (by kernel_rfl) (fun _ _ _ h => h) (by rfl) (fun w' hw' => ?_) hS (listed' := #[true, true, true, true, true, true, true, true, true, false, false, false, false, false, false, false, false, false, false, false, false, false, false]) (by kernel_rfl) rfl ?_
            · have f0 := (HCV.out _ hw').2.2; go_simp
            simp only [List.setIfInBounds_toArray, List.set_cons_zero, List.set_cons_succ]
            refine rg_take 9 133 (.string T3) _ rfl rfl (by kernel_rfl) (by kernel_rfl) (by kernel_rfl) (fun _ _ _ h => h) (by rfl) (fun w' hw' => ?_) hS (listed' := #[true, true, true, true, true, true, true, true, true, true, false, false, false, false, false, false, false, false, false, false, false, false, false]) (by kernel_rfl) rfl ?_
            · go_simp; omega
            simp only [List.setIfInBounds_toArray, List.set_cons_zero, List.set_cons_succ]
            refine rg_take 10 134 (.bool true) _ rfl rfl (by kernel_rfl) (by kernel_rfl) (by kernel_rfl) (fun _ _ _ h => h) (by rfl) (fun w' hw' => ?_) hS (listed' := #[true, true, true, true, true, true, true, true, true, true, true, false, false, false, false, false, false, false, false, false, false, false, false]) (by kernel_rfl) rfl ?_
            · go_simp <;> simp
            simp only [List.setIfInBounds_toArray, List.set_cons_zero, List.set_cons_succ]
            refine rg_take 11 135 (.bool true) _ rfl rfl (by kernel_rfl) (by kernel_rfl) (by kernel_rfl) (fun _ _ _ h => h) (by rfl) (fun w' hw' => ?_) hS (listed' := #[true, true, true, true, true, true, true, true, true, true, true, true, false, false, false, false, false, false, false, false, false, false, false]) (by kernel_rfl) rfl ?_
            · go_simp
            simp only [List.setIfInBounds_toArray, List.set_cons_zero, List.set_cons_succ]
            refine rg_take 12 136 (.bool true) _ rfl rfl (by kernel_rfl) (by kernel_rfl) (by kernel_rfl) (fun _ _ _ h => h) (by rfl) (fun w' hw' => ?_) hS (listed' := #[true, true, true, true, true, true, true, true, true, true, true, true, true, false, false, false, false, false, false, false, false, false, false]) (by kernel_rfl) rfl ?_
            · go_simp
            simp only [List.setIfInBounds_toArray, List.set_cons_zero, List.set_cons_succ]
            refine rg_take 13 137 (.agg #[.int .i64 3, .int .i64 0, .string ⟨#[]⟩, .slice fa fnn fc, .slice vb 0 vd]) _ rfl rfl (by kernel_rfl) (by kernel_rfl) (by kernel_rfl) (fun _ _ _ h => h) (by rfl) (fun w' hw' => ?_) hS (listed' := #[true, true, true, true, true, true, true, true, true, true, true, true, true, true, false, false, false, false, false, false, false, false, false]) (by kernel_rfl) rfl ?_
            · have f0 := (HBz.out.below hw').cell 0; have f1 := (HBz.out.below hw').cell 1; have f2 := (HBz.out.below hw').cell 2; have f3 := (HBz.out.below hw').cell 3; have f4 := (HBz.out.below hw').cell 4; go_simp
            simp only [List.setIfInBounds_toArray, List.set_cons_zero, List.set_cons_succ]
            refine rg_take 15 139 (.agg #[.int .i64 3, .int .i64 0, .string ⟨#[]⟩, .slice pe 0 ce, .slice pr 0 cr]) _ rfl rfl (by kernel_rfl) (by kernel_rfl) (by kernel_rfl) (fun _ _ _ h => h) (by rfl) (fun w' hw' => ?_) hS (listed' := #[true, true, true, true, true, true, true, true, true, true, true, true, true, true, false, true, false, false, false, false, false, false, false]) (by kernel_rfl) rfl ?_
            · have f0 := (HAz.out.below hw').cell 0; have f1 := (HAz.out.below hw').cell 1; have f2 := (HAz.out.below hw').cell 2; have f3 := (HAz.out.below hw').cell 3; have f4 := (HAz.out.below hw').cell 4; go_simp
            simp only [List.setIfInBounds_toArray, List.set_cons_zero, List.set_cons_succ]
            refine rg_call 14 138 21 #[.agg #[.int .i64 3, .int .i64 0, .string ⟨#[]⟩, .slice fa fnn fc, .slice vb 0 vd]] rfl rfl (by kernel_rfl) (by rfl) (listed' := #[true, true, true, true, true, true, true, true, true, true, true, true, true, true, true, true, false, false, false, false, false, false, false]) (by kernel_rfl) (fun W => by go_simp) ?_
            refine (HDB.out _ hS).mono ?_
            rintro e W1 ⟨rfl, hbW1⟩
            have hS0 := hS
            have hS : Below w12.heap.size w12 W1 := hS0.trans (hbW1.mono hS0.size)
            clear hS0 hbW1
            refine ⟨_, rfl, hS, ?_⟩
            simp only [List.setIfInBounds_toArray, List.set_cons_zero, List.set_cons_succ]
            refine rg_call 16 140 21 #[.agg #[.int .i64 3, .int .i64 0, .string ⟨#[]⟩, .slice pe 0 ce, .slice pr 0 cr]] rfl rfl (by kernel_rfl) (by rfl) (listed' := #[true, true, true, true, true, true, true, true, true, true, true, true, true, true, true, true, true, false, false, false, false, false, false]) (by kernel_rfl) (fun W => by go_simp) ?_
            refine (HDA.out _ hS).mono ?_
            rintro e W2 ⟨rfl, hbW2⟩
            have hS0 := hS
            have hS : Below w12.heap.size w12 W2 := hS0.trans (hbW2.mono hS0.size)
            clear hS0 hbW2
            refine ⟨_, rfl, hS, ?_⟩
            simp only [List.setIfInBounds_toArray, List.set_cons_zero, List.set_cons_succ]
            refine rg_take 17 141 (.bool true) _ rfl rfl (by kernel_rfl) (by kernel_rfl) (by kernel_rfl) (fun _ _ _ h => h) (by rfl) (fun w' hw' => ?_) hS (listed' := #[true, true, true, true, true, true, true, true, true, true, true, true, true, true, true, true, true, true, false, false, false, false, false]) (by kernel_rfl) rfl ?_
            · go_simp <;> (simp; omega)
            simp only [List.setIfInBounds_toArray, List.set_cons_zero, List.set_cons_succ]
            refine rg_take 18 142 (.bool true) _ rfl rfl (by kernel_rfl) (by kernel_rfl) (by kernel_rfl) (fun _ _ _ h => h) (by rfl) (fun w' hw' => ?_) hS (listed' := #[true, true, true, true, true, true, true, true, true, true, true, true, true, true, true, true, true, true, true, false, false, false, false]) (by kernel_rfl) rfl ?_
            · go_simp
            simp only [List.setIfInBounds_toArray, List.set_cons_zero, List.set_cons_succ]
            refine rg_take 19 143 (.bool true) _ rfl rfl (by kernel_rfl) (by kernel_rfl) (by kernel_rfl) (fun _ _ _ h => h) (by rfl) (fun w' hw' => ?_) hS (listed' := #[true, true, true, true, true, true, true, true, true, true, true, true, true, true, true, true, true, true, true, true, false, false, false]) (by kernel_rfl) rfl ?_
            · go_simp
            simp only [List.setIfInBounds_toArray, List.set_cons_zero, List.set_cons_succ]
            refine rg_call 20 144 10 #[] rfl rfl (by kernel_rfl) (by rfl) (listed' := #[true, true, true, true, true, true, true, true, true, true, true, true, true, true, true, true, true, true, true, true, true, false, false]) (by kernel_rfl) (fun W => by go_simp) ?_
            refine (eawake_any _).mono ?_
            rintro e W3 ⟨rfl, hbW3⟩
            have hS0 := hS
            have hS : Below w12.heap.size w12 W3 := hS0.trans (hbW3.mono hS0.size)
            clear hS0 hbW3
            refine ⟨_, rfl, hS, ?_⟩
            simp only [List.setIfInBounds_toArray, List.set_cons_zero, List.set_cons_succ]
            refine rg_take 21 145 (.bool true) _ rfl rfl (by kernel_rfl) (by kernel_rfl) (by kernel_rfl) (fun _ _ _ h => h) (by rfl) (fun w' hw' => ?_) hS (listed' := #[true, true, true, true, true, true, true, true, true, true, true, true, true, true, true, true, true, true, true, true, true, true, false]) (by kernel_rfl) rfl ?_
            · go_simp
            simp only [List.setIfInBounds_toArray, List.set_cons_zero, List.set_cons_succ]
            refine rg_take 22 4 (.bool true) _ rfl rfl (by kernel_rfl) (by kernel_rfl) (by kernel_rfl) (fun _ _ _ h => h) (by rfl) (fun w' hw' => ?_) hS (listed' := #[true, true, true, true, true, true, true, true, true, true, true, true, true, true, true, true, true, true, true, true, true, true, true]) (by kernel_rfl) rfl ?_
            · go_simp
            simp only [List.setIfInBounds_toArray, List.set_cons_zero, List.set_cons_succ]
            refine wpAnyH_done (by kernel_rfl) ?_ _
            have hbe : Below w.heap.size w W3 := hbw12.trans (hS.mono hbw12.size)
            clear hS
            go_wp2_with fail
            go_ret
            exact ⟨rfl, hbe⟩
          · obtain ⟨kq, rfl⟩ : ∃ k, Ke = k + 1 := ⟨Ke - 1, by omega⟩
            obtain ⟨ez, hx⟩ : ∃ r, a.es[kq]? = some r := ⟨_, List.getElem?_eq_getElem (by rw [HLA.out.2.1]; omega)⟩
            obtain ⟨m7, ve7, vr7, -, hv7, -, -, -, -, -, hea⟩ := HT7.out.open
            have hve : ve7 = .slice pe (kq + 1) ce := by simp only [Value.agg.injEq, Array.mk.injEq, List.cons.injEq] at hv7; exact hv7.2.2.2.1.symm
            rw [hve] at hea
            obtain ⟨gx, ox, rfl, hrow⟩ := RowP.get hea hx
            obtain ⟨vt, f0, -, -, -⟩ := ens_at hrow
            obtain ⟨z, ezt⟩ := ez
            have HLZ : Hid (a.es.getLast? = some (z, ezt)) := (by rw [List.getLast?_eq_getElem?, HLA.out.2.1]; exact hx : a.es.getLast? = some (z, ezt))
            have hke2 : (kq : Int) + 1 - 1 = kq := by omega
            simp only at f0
            clear hx hv7 hve hea hrow hke
            by_cases hz : 200 ≤ z
            · clear HLZ
              go_wp2_with fail
              refine (eawake_any _).mono ?_
              rintro e w8 ⟨rfl, hw8⟩
              have hbw8 : Below w.heap.size w w8 := hbw7.trans (hw8.mono hbw7.size)
              go_wp2_with fail
              go_ret
              exact ⟨rfl, hbw8⟩
            · have HLS : Hid (∀ e, a.es.getLast? = some e → e.1 < 200) := fun e he => by
                rw [HLZ.out] at he
                obtain rfl : (z, ezt) = e := by simpa using he
                show z < 200
                omega
              clear HLZ
              by_cases hlen : L1 + L2 ≤ 4096
              rotate_left
              · have d7 : 4096 < L1 + L2 := by omega
                clear hlen HLS
                go_wp2_with fail
                refine (eawake_any _).mono ?_
                rintro e w8 ⟨rfl, hw8⟩
                have hbw8 : Below w.heap.size w w8 := hbw7.trans (hw8.mono hbw7.size)
                go_wp2_with fail
                go_ret
                exact ⟨rfl, hbw8⟩
              have HJ := join_ok (Nb := Nb) (Sb := Sb) HS1.out HS2.out (List.eq_nil_of_length_eq_zero HLA.out.1) (by rw [HE1.out]) (by rw [HE2.out]) HLS.out (by rw [HE1.out, HE2.out]; show ns1.length + ns2.length ≤ 4096; rw [HLL.out.1, HLL.out.2]; exact hlen)
              rw [HE1.out, HE2.out] at HJ
              obtain ⟨j1, j2, j3, j4, j5⟩ := HJ
              obtain rfl : N = 0 := by rw [← HLA.out.2.2.2.1, j1]; rfl
              obtain rfl : S = ⟨#[]⟩ := by rw [← HLA.out.2.2.2.2, j1]; rfl
              have HJ2 : Hid (encA 14 (mesT (a.es ++ turnE b.es b.es.length)) = (ns1 ++ ns2, 0)) := j2
              have HJ3 : Hid (SmN 14 (mesT (a.es ++ turnE b.es b.es.length)) ∧ cntN 14 (mesT (a.es ++ turnE b.es b.es.length)) ≤ 1000) := ⟨j3, j4⟩
              have HJ5 : Hid (dpN 14 a ≤ dpN 14 (mesT (a.es ++ turnE b.es b.es.length))) := j5
              clear HLS j1 j2 j3 j4 j5
              go_wp2_with fail
              refine Calls.mono (HCA.out _ hb27) ?_
              rintro e w8 ⟨bv, bs2, rfl, ⟨br, rfl, hbrO, hap2⟩, hb8⟩
              obtain ⟨va, vn, vc, vb, vm, vd, hbre⟩ := hbrO.open
              rw [HLA.out.2.2.1, HLA.out.2.2.2.1, HLA.out.2.2.2.2] at hbre
              subst hbre
              obtain ⟨-, -, -, hvn, hvm, hv1, hv2, hv3, hv4⟩ := hbrO.parts
              rw [HLA.out.2.1] at hvn
              rw [HLA.out.1] at hvm
              subst hvn hvm
              unfold maxLen at hv2
              obtain ⟨w9, hw9⟩ : ∃ z, z = w8.alloc (Obj.cells #[.int .i64 3, .int .i64 0, .string ⟨#[]⟩, .slice va (kq + 1) vc, .slice vb 0 vd] 25) := ⟨_, rfl⟩
              have al9 : Below w8.heap.size w8 w9 := by rw [hw9]; exact (Below.refl _ _).alloc (Nat.le_refl _) _
              have BV9 : Blk w9 w8.heap.size #[.int .i64 3, .int .i64 0, .string ⟨#[]⟩, .slice va (kq + 1) vc, .slice vb 0 vd] 25 := by rw [hw9]; exact Blk.new w8 _ _
              have hb79 : Below w7.heap.size w7 w9 := hb8.trans (al9.mono hb8.size)
              have BU9 := HBU7.out.below hb79
              have HVO : Hid (TrO 14 w7.heap.size w9 [.int .i64 3, .int .i64 0, .string ⟨#[]⟩, .slice va (kq + 1) vc, .slice vb 0 vd] a bs2) := hbrO.sm (Sm.below al9 fun k hk => (hap2.2 k hk).2)
              have hbs7 : ∀ k ∈ bs, k < w7.heap.size := fun k hk => Nat.lt_trans (HAP.out.2 k hk).2 HBU7.out.lt
              have HUO : Hid (TrO 14 w4.heap.size w9 [.int .i64 3, .int .i64 Nb, .string Sb, .slice ua Eb uc, .slice ub 0 ud] ⟨3, Nb, Sb, turnE b.es b.es.length, []⟩ bs) := HTU7.out.sm (Sm.below hb79 hbs7)
              obtain ⟨veA, vrA, rowsA, bssA, g1, -, -, -, gF, gO, gR, gB⟩ := HVO.out
              simp only [List.cons.injEq, and_true, true_and] at g1
              obtain ⟨-, -, -, rfl, rfl⟩ := g1
              obtain ⟨veB, vrB, rowsB, bssB, g2, -, -, -, -, -, gR2, gB2⟩ := HUO.out
              simp only [List.cons.injEq, and_true, true_and] at g2
              obtain ⟨rfl, rfl⟩ := g2
              have hown : w9.ownsRow w7.heap.size 41 2 (.slice va (kq + 1) vc) ((kq + 1)) rowsA.flatten := by have h1 := gR.own; rw [HLA.out.2.1] at h1; exact h1
              have hrowB : RowG w9 (.slice ua Eb uc) 2 rowsB := (RowG.own gR2.wide (by decide) gR2.own).1
              have hlB : rowsB.length = Eb := by rw [gR2.len]; show (turnE b.es b.es.length).length = Eb; rw [turnE_len, HLB.out.2.1]
              have hEb : Eb ≤ 500 := by rw [← HLB.out.2.1]; exact HS2.out.1.2.2.1
              have hKe : (kq + 1) ≤ 500 := by rw [← HLA.out.2.1]; exact HS1.out.1.2.2.1
              have hoc := ens_one gR2
              have HAP2 : Hid (bs2.Nodup ∧ ∀ k ∈ bs2, w7.heap.size ≤ k ∧ k < w8.heap.size) := hap2
              have h49 : w4.heap.size ≤ w7.heap.size := hb47.size
              have h79 : w7.heap.size ≤ w9.heap.size := hb79.size
              have H1 : Hid (w9.ownsRow w7.heap.size 41 2 (.slice va (kq + 1) vc) ((kq + 1)) rowsA.flatten) := hown
              have H2 : Hid (RowG w9 (.slice ua Eb uc) 2 rowsB ∧ (∀ r ∈ rowsB, r.length = 2) ∧ (∀ u ∈ rowsB.flatten, u.oneCell' = true)) := ⟨hrowB, gR2.wide, hoc⟩
              have HLR : Hid (rowsB.length = Eb) := hlB
              have HRA : Hid (RowO (EtO (TrO 13 w7.heap.size) w7.heap.size) w7.heap.size 41 2 w9 (.slice va (kq + 1) vc) a.es rowsA bssA) := gR
              have HRB : Hid (RowO (EtO (TrO 13 w4.heap.size) w4.heap.size) w4.heap.size 41 2 w9 (.slice ua Eb uc) (turnE b.es b.es.length) rowsB bssB) := gR2
              have HOR : Hid (w9.ownsRow w7.heap.size 46 4 (.slice vb 0 vd) a.rest.length (rawCells a.rest)) := gO
              have HGB : Hid (bs2 = blkOf (.slice vb 0 vd) ++ allB (.slice va (kq + 1) vc) bssA) := gB
              have HGB2 : Hid (bs = blkOf (.slice ub 0 ud) ++ allB (.slice ua Eb uc) bssB) := gB2
              obtain ⟨bb, hbb⟩ : ∃ z, w8.heap.size = z := ⟨_, rfl⟩
              have hbb9 : bb < w9.heap.size := by rw [← hbb]; exact BV9.lt
              have h78 : w7.heap.size ≤ bb := by rw [← hbb]; exact hb8.size
              rw [hbb] at BV9 HAP2
              have u3 := (BU9.cell 3).trans rfl
              have c0 := (BV9.cell 0).trans rfl
              have c1 := (BV9.cell 1).trans rfl
              have c2 := (BV9.cell 2).trans rfl
              have c3 := (BV9.cell 3).trans rfl
              have c4 := (BV9.cell 4).trans rfl
              have z3 := BV9.froz 3
              have HBV9 : Hid (Blk w9 bb #[.int .i64 3, .int .i64 0, .string ⟨#[]⟩, .slice va (kq + 1) vc, .slice vb 0 vd] 25) := BV9
              clear hown hrowB hlB hoc hbrO hap2 hv3 hv4 gR gR2 gO gB gB2 gF hb8 al9 HVO HUO HTU7 HBU7 hbs7 BU9 BV9
              go_upto_region 13 with fail
              rw [← hw9]
              clear hw9 hbb
              go_wp2_with (first
                | (at_builtin; refine wpList_joinG rfl _ _ 22 41 2 32 _ rfl Try.underlying22 infoEn rfl (by decide) w7.heap.size (.slice va (kq + 1) vc) ((kq + 1)) rowsA.flatten rfl H1.out (.slice ua Eb uc) rowsB rfl H2.out.1 H2.out.2.1 H2.out.2.2 ?c1 (by decide) h79 ?_)
                | fail)
              case c1 => have h1 := HLR.out; omega
              intro v' w10 ho hg
              obtain ⟨fnn, hfn⟩ : ∃ z, (kq + 1) + Eb = z := ⟨_, rfl⟩
              replace ho : w10.ownsRow w7.heap.size 41 2 v' fnn (rowsA.flatten ++ rowsB.flatten) := by
                rw [← hfn, ← HLR.out]
                first | exact ho | simpa using ho
              obtain ⟨fa, fc, hv'⟩ := own_form ho
              subst hv'
              have hvb : ∀ k, (Value.slice va (kq + 1) vc).ownBlock = some k → w7.heap.size ≤ k ∧ k < bb := fun k hk => HAP2.out.2 k (by rw [HGB.out]; exact List.mem_append.2 (.inr (List.mem_append.2 (.inl (mem_blkOf.2 hk)))))
              have B10 : Blk w10 bb #[.int .i64 3, .int .i64 0, .string ⟨#[]⟩, .slice va (kq + 1) vc, .slice vb 0 vd] 25 := (hg.block bb hbb9 (fun h => by have := hvb bb h.symm; omega)).trans HBV9.out
              have hfb : (Value.slice fa fnn fc).ownBlock ≠ some bb := own_typeG ho B10 (by decide)
              have hnd := HAP2.out.1
              rw [HGB.out] at hnd
              have hbA : ∀ k ∈ bssA.flatten, w7.heap.size ≤ k ∧ k < bb ∧ k ∉ blkOf (.slice va (kq + 1) vc) := fun k hk => by
                have h1 := HAP2.out.2 k (by rw [HGB.out]; exact List.mem_append.2 (.inr (List.mem_append.2 (.inr hk))))
                refine ⟨h1.1, h1.2, fun h2 => ?_⟩
                have h3 := (List.nodup_append.1 hnd).2.1
                exact (List.nodup_append.1 h3).2.2 k h2 k hk rfl
              have hbB : ∀ k ∈ bssB.flatten, k < w7.heap.size := fun k hk => by
                have h1 := HAP.out.2 k (by rw [HGB2.out]; exact List.mem_append.2 (.inr (List.mem_append.2 (.inr hk))))
                have h2 := HB47.out
                omega
              have s1 : Sm w9 w10 bssA.flatten := grown_sm hg (fun k hk => by have := hbA k hk; omega) (fun k hk => (hbA k hk).2.2)
              have s2 : Sm w9 w10 bssB.flatten := grown_sm hg (fun k hk => by have := hbB k hk; omega) (fun k hk h2 => by have h3 := hvb k (mem_blkOf.1 h2); have := hbB k hk; omega)
              have hJ := RowO.join (w' := w10) (v' := .slice fa fnn fc) HRA.out HRB.out h49 (by rw [HLR.out, HLA.out.2.1]; first | (rw [hfn]; exact ho) | (rw [← hfn] at ho; simpa using ho)) s1 s2
              have hbr : ∀ k, (Value.slice vb 0 vd).ownBlock = some k → k < bb ∧ (Value.slice va (kq + 1) vc).ownBlock ≠ some k := fun k hk => by
                have h1 := HAP2.out.2 k (by rw [HGB.out]; exact List.mem_append.2 (.inl (mem_blkOf.2 hk)))
                refine ⟨h1.2, fun h2 => ?_⟩
                exact (List.nodup_append.1 hnd).2.2 k (mem_blkOf.2 hk) k (List.mem_append.2 (.inl (mem_blkOf.2 h2))) rfl
              have hRr : (w10.setCell ⟨bb, 3, none⟩ (.slice fa fnn fc)).ownsRow w4.heap.size 46 4 (.slice vb 0 vd) 0 (rawCells []) := by
                have h0 := HOR.out
                rw [List.eq_nil_of_length_eq_zero HLA.out.1] at h0
                have h1 := own_below2 (w1 := w10) h0 (fun k hk => hg.block k (by have := (hbr k hk).1; omega) (fun h => (hbr k hk).2 h.symm))
                exact own_baseG (ownsRow_setCell_other h1 (fun h => by have := (hbr bb h).1; omega) _) h49
              have hT : TrO 14 w4.heap.size (w10.setCell ⟨bb, 3, none⟩ (.slice fa fnn fc)) [.int .i64 3, .int .i64 0, .string ⟨#[]⟩, .slice fa fnn fc, .slice vb 0 vd] (mesT (a.es ++ turnE b.es b.es.length)) (blkOf (.slice vb 0 vd) ++ allB (.slice fa fnn fc) (bssA ++ bssB)) :=
                ⟨_, _, _, _, rfl, three64, zero64, Nat.zero_le _, (fun f hf => by cases hf), hRr, hJ.sm (sm_setCell (p := ⟨bb, 3, none⟩) fun hk => by
                  rcases List.mem_append.1 hk with hk | hk
                  · exact hfb (mem_blkOf.1 hk)
                  · rw [List.flatten_append] at hk
                    rcases List.mem_append.1 hk with hk | hk
                    · have := (hbA bb hk).2.1; omega
                    · have := hbB bb hk; omega) (fun r x b hp hs => hp.sm hs), rfl⟩
              have hW11 : Below w7.heap.size w7 (w10.setCell ⟨bb, 3, none⟩ (.slice fa fnn fc)) := (hb79.grown hg hb79.size (fun k hk => (hvb k hk).1)).setCell (p := ⟨bb, 3, none⟩) (by show w7.heap.size ≤ bb; omega) _
              have B11 : Blk (w10.setCell ⟨bb, 3, none⟩ (.slice fa fnn fc)) bb #[.int .i64 3, .int .i64 0, .string ⟨#[]⟩, .slice fa fnn fc, .slice vb 0 vd] 25 := B10.set 3 _ rfl
              have HTB : Hid (TrO 14 w4.heap.size (w10.setCell ⟨bb, 3, none⟩ (.slice fa fnn fc)) [.int .i64 3, .int .i64 0, .string ⟨#[]⟩, .slice fa fnn fc, .slice vb 0 vd] (mesT (a.es ++ turnE b.es b.es.length)) (blkOf (.slice vb 0 vd) ++ allB (.slice fa fnn fc) (bssA ++ bssB))) := hT
              have HEB : Hid (Calls Try.prog 12 #[.agg #[.int .i64 3, .int .i64 0, .string ⟨#[]⟩, .slice fa fnn fc, .slice vb 0 vd]] (w10.setCell ⟨bb, 3, none⟩ (.slice fa fnn fc)) (EncP (ns1 ++ ns2, 0) (w10.setCell ⟨bb, 3, none⟩ (.slice fa fnn fc)))) := (by
                have h1 := encode_any ⟨_, rfl, hT.trR⟩ (by decide) HJ3.out.2 HJ3.out.1
                rw [HJ2.out] at h1
                exact h1 : Calls Try.prog _ _ _ _)
              have c0 := (B10.cell 0).trans rfl
              have c1 := (B10.cell 1).trans rfl
              have c2 := (B10.cell 2).trans rfl
              have c3 := (B10.cell 3).trans rfl
              have c4 := (B10.cell 4).trans rfl
              have z3 := B10.froz 3
              have HB11 : Hid (Blk (w10.setCell ⟨bb, 3, none⟩ (.slice fa fnn fc)) bb #[.int .i64 3, .int .i64 0, .string ⟨#[]⟩, .slice fa fnn fc, .slice vb 0 vd] 25) := B11
              have HW11 : Hid (Below w7.heap.size w7 (w10.setCell ⟨bb, 3, none⟩ (.slice fa fnn fc))) := hW11
              clear ho hg hvb hbA hbB s1 s2 hJ hbr hRr hT hW11 hfb hnd B10 B11 hfn
              go_wp2_with fail
              generalize (w10.setCell ⟨bb, 3, none⟩ (.slice fa fnn fc)) = w11 at *
              refine Calls.mono HEB.out ?_
              rintro e w12 ⟨r3, rfl, ho3, hb12⟩
              have hb712 : Below w7.heap.size w7 w12 := HW11.out.trans (hb12.mono HW11.out.size)
              have HO1z : Hid (w12.ownsRow w3.heap.size 5 1 (.slice x1 L1 y1) L1 (byteCells ns1)) := own_belowH HO17 hb712
              have HO2z : Hid (w12.ownsRow wr.heap.size 5 1 (.slice x2 L2 y2) L2 (byteCells ns2)) := own_belowH HO27 hb712
              have HTz : Hid (TrIn 14 w12 (.agg #[.int .i64 3, .int .i64 0, .string ⟨#[]⟩, .slice (some ⟨gx, ox, none⟩) (kq + 1) ce, .slice pr 0 cr]) a) := HT7.out.below hb712
              have HVz : Hid (TrIn 14 w12 (.agg #[.int .i64 3, .int .i64 0, .string ⟨#[]⟩, .slice fa fnn fc, .slice vb 0 vd]) (mesT (a.es ++ turnE b.es b.es.length))) := TrIn.below (w := w11) ⟨_, rfl, HTB.out.trC⟩ hb12
              have HBz : Hid (Blk w12 bb #[.int .i64 3, .int .i64 0, .string ⟨#[]⟩, .slice fa fnn fc, .slice vb 0 vd] 25) := HB11.out.below hb12
              have HAz : Hid (Blk w12 s #[.int .i64 3, .int .i64 0, .string ⟨#[]⟩, .slice (some ⟨gx, ox, none⟩) (kq + 1) ce, .slice pr 0 cr] 25) := BA7.below hb712
              have hbw12 : Below w.heap.size w w12 := hbw7.trans (hb712.mono hbw7.size)
              have HCV : Hid (∀ W, Below w12.heap.size w12 W → (convert 29 9 r3).run Try.prog W = .ok (.string (strN ns1 ++ strN ns2)) W ∧ (convert 29 9 (.slice x1 L1 y1)).run Try.prog W = .ok (.string (strN ns1)) W ∧ (convert 29 9 (.slice x2 L2 y2)).run Try.prog W = .ok (.string (strN ns2)) W) := fun W hW => ⟨by rw [← strN_append]; exact conv_own (own_below ho3 hW), conv_own (own_below HO1z.out hW), conv_own (own_below HO2z.out hW)⟩
              have hs1 : (strN ns1).size ≤ 4096 := by rw [strN_size, HLL.out.1]; exact hl1
              have hs2 : (strN ns2).size ≤ 4096 := by rw [strN_size, HLL.out.2]; exact hl2
              obtain ⟨D1, hD1⟩ : ∃ z, dpN 14 a = z := ⟨_, rfl⟩
              obtain ⟨D2, hD2⟩ : ∃ z, dpN 14 (mesT (a.es ++ turnE b.es b.es.length)) = z := ⟨_, rfl⟩
              have hDD : D1 ≤ D2 := by rw [← hD1, ← hD2]; exact HJ5.out
              have HDA : Hid (∀ W, Below w12.heap.size w12 W → Calls Try.prog 21 #[.agg #[.int .i64 3, .int .i64 0, .string ⟨#[]⟩, .slice (some ⟨gx, ox, none⟩) (kq + 1) ce, .slice pr 0 cr]] W fun e w' => e = .returned (.int .i64 (D1 : Int)) ∧ Below W.heap.size W w') := fun W hW => by have h1 := rDepth_any 14 a _ W (HTz.out.below hW) (by decide); rw [hD1] at h1; exact h1
              have HDB : Hid (∀ W, Below w12.heap.size w12 W → Calls Try.prog 21 #[.agg #[.int .i64 3, .int .i64 0, .string ⟨#[]⟩, .slice fa fnn fc, .slice vb 0 vd]] W fun e w' => e = .returned (.int .i64 (D2 : Int)) ∧ Below W.heap.size W w') := fun W hW => by have h1 := rDepth_any 14 _ _ W (HVz.out.below hW) (by decide); rw [hD2] at h1; exact h1
              clear ho3 hb12 HO1z HO2z HTz HVz hb712 HEB HTB HB11 HW11 hD1 hD2 HJ2 HJ3 HJ5 HO17 HO27 HT7 BA7 HCA p0 p1 p2 p3 p4
              generalize strN ns1 = T1 at *
              generalize strN ns2 = T2 at *
              have hTT : ((T1 ++ T2).toList == (T1 ++ T2).toList) = true := by simp
              obtain ⟨T3, hT3⟩ : ∃ z, T1 ++ T2 = z := ⟨_, rfl⟩
              go_wp2_with fail
              have hS : Below w12.heap.size w12 w12.drew := (Below.refl _ _).drew
              refine wp_region_held_drew (S := fun w' => Below w12.heap.size w12 w') (by kernel_rfl) hS (fun hS => ?_)
              refine rg_take 0 124 (.int .i64 0) _ rfl rfl (by kernel_rfl) (by kernel_rfl) (by kernel_rfl) (fun _ _ _ h => h) (by rfl) (fun w' hw' => ?_) hS (listed' := #[true, false, false, false, false, false, false, false, false, false, false, false, false, false, false, false, false, false, false, false, false, false, false]) (by kernel_rfl) rfl ?_
              · go_simp
              simp only [List.setIfInBounds_toArray, List.set_cons_zero, List.set_cons_succ]
              refine rg_take 1 125 (.bool true) _ rfl rfl (by kernel_rfl) (by kernel_rfl) (by kernel_rfl) (fun _ _ _ h => h) (by rfl) (fun w' hw' => ?_) hS (listed' := #[true, true, false, false, false, false, false, false, false, false, false, false, false, false, false, false, false, false, false, false, false, false, false]) (by kernel_rfl) rfl ?_
              · go_simp
              simp only [List.setIfInBounds_toArray, List.set_cons_zero, List.set_cons_succ]
              refine rg_take 2 126 (.bool true) _ rfl rfl (by kernel_rfl) (by kernel_rfl) (by kernel_rfl) (fun _ _ _ h => h) (by rfl) (fun w' hw' => ?_) hS (listed' := #[true, true, true, false, false, false, false, false, false, false, false, false, false, false, false, false, false, false, false, false, false, false, false]) (by kernel_rfl) rfl ?_
              · go_simp
              simp only [List.setIfInBounds_toArray, List.set_cons_zero, List.set_cons_succ]
              refine rg_take 3 127 (r3) _ rfl rfl (by kernel_rfl) (by kernel_rfl) (by kernel_rfl) (fun _ _ _ h => h) (by rfl) (fun w' hw' => ?_) hS (listed' := #[true, true, true, true, false, false, false, false, false, false, false, false, false, false, false, false, false, false, false, false, false, false, false]) (by kernel_rfl) rfl ?_
              · go_simp
              simp only [List.setIfInBounds_toArray, List.set_cons_zero, List.set_cons_succ]
              refine rg_take 4 128 (.string T3) _ rfl rfl (by kernel_rfl) (by kernel_rfl) (by kernel_rfl) (fun _ _ _ h => h) (by rfl) (fun w' hw' => ?_) hS (listed' := #[true, true, true, true, true, false, false, false, false, false, false, false, false, false, false, false, false, false, false, false, false, false, false]) (by kernel_rfl) rfl ?_
              · have f0 := (HCV.out _ hw').1; go_simp
              simp only [List.setIfInBounds_toArray, List.set_cons_zero, List.set_cons_succ]
              refine rg_take 5 129 (.slice x1 L1 y1) _ rfl rfl (by kernel_rfl) (by kernel_rfl) (by kernel_rfl) (fun _ _ _ h => h) (by rfl) (fun w' hw' => ?_) hS (listed' := #[true, true, true, true, true, true, false, false, false, false, false, false, false, false, false, false, false, false, false, false, false, false, false]) (by kernel_rfl) rfl ?_
              · go_simp
              simp only [List.setIfInBounds_toArray, List.set_cons_zero, List.set_cons_succ]
              refine rg_take 6 130 (.string T1) _ rfl rfl (by kernel_rfl) (by kernel_rfl) (by kernel_rfl) (fun _ _ _ h => h) (by rfl) (fun w' hw' => ?_) hS (listed' := #[true, true, true, true, true, true, true, false, false, false, false, false, false, false, false, false, false, false, false, false, false, false, false]) (by kernel_rfl) rfl ?_
              · have f0 := (HCV.out _ hw').2.1; go_simp
              simp only [List.setIfInBounds_toArray, List.set_cons_zero, List.set_cons_succ]
              refine rg_take 7 131 (.slice x2 L2 y2) _ rfl rfl (by kernel_rfl) (by kernel_rfl) (by kernel_rfl) (fun _ _ _ h => h) (by rfl) (fun w' hw' => ?_) hS (listed' := #[true, true, true, true, true, true, true, true, false, false, false, false, false, false, false, false, false, false, false, false, false, false, false]) (by kernel_rfl) rfl ?_
              · go_simp
              simp only [List.setIfInBounds_toArray, List.set_cons_zero, List.set_cons_succ]
              refine rg_take 8 132 (.string T2) _ rfl rfl (by kernel_rfl) (by kernel_rfl) (by kernel_rfl) (fun _ _ _ h => h) (by rfl) (fun w' hw' => ?_) hS (listed' := #[true, true, true, true, true, true, true, true, true, false, false, false, false, false, false, false, false, false, false, false, false, false, false]) (by kernel_rfl) rfl ?_
              · have f0 := (HCV.out _ hw').2.2; go_simp
              simp only [List.setIfInBounds_toArray, List.set_cons_zero, List.set_cons_succ]
              refine rg_take 9 133 (.string T3) _ rfl rfl (by kernel_rfl) (by kernel_rfl) (by kernel_rfl) (fun _ _ _ h => h) (by rfl) (fun w' hw' => ?_) hS (listed' := #[true, true, true, true, true, true, true, true, true, true, false, false, false, false, false, false, false, false, false, false, false, false, false]) (by kernel_rfl) rfl ?_
              · go_simp; omega
              simp only [List.setIfInBounds_toArray, List.set_cons_zero, List.set_cons_succ]
              refine rg_take 10 134 (.bool true) _ rfl rfl (by kernel_rfl) (by kernel_rfl) (by kernel_rfl) (fun _ _ _ h => h) (by rfl) (fun w' hw' => ?_) hS (listed' := #[true, true, true, true, true, true, true, true, true, true, true, false, false, false, false, false, false, false, false, false, false, false, false]) (by kernel_rfl) rfl ?_
              · go_simp <;> simp
              simp only [List.setIfInBounds_toArray, List.set_cons_zero, List.set_cons_succ]
              refine rg_take 11 135 (.bool true) _ rfl rfl (by kernel_rfl) (by kernel_rfl) (by kernel_rfl) (fun _ _ _ h => h) (by rfl) (fun w' hw' => ?_) hS (listed' := #[true, true, true, true, true, true, true, true, true, true, true, true, false, false, false, false, false, false, false, false, false, false, false]) (by kernel_rfl) rfl ?_
              · go_simp
              simp only [List.setIfInBounds_toArray, List.set_cons_zero, List.set_cons_succ]
              refine rg_take 12 136 (.bool true) _ rfl rfl (by kernel_rfl) (by kernel_rfl) (by kernel_rfl) (fun _ _ _ h => h) (by rfl) (fun w' hw' => ?_) hS (listed' := #[true, true, true, true, true, true, true, true, true, true, true, true, true, false, false, false, false, false, false, false, false, false, false]) (by kernel_rfl) rfl ?_
              · go_simp
              simp only [List.setIfInBounds_toArray, List.set_cons_zero, List.set_cons_succ]
              refine rg_take 13 137 (.agg #[.int .i64 3, .int .i64 0, .string ⟨#[]⟩, .slice fa fnn fc, .slice vb 0 vd]) _ rfl rfl (by kernel_rfl) (by kernel_rfl) (by kernel_rfl) (fun _ _ _ h => h) (by rfl) (fun w' hw' => ?_) hS (listed' := #[true, true, true, true, true, true, true, true, true, true, true, true, true, true, false, false, false, false, false, false, false, false, false]) (by kernel_rfl) rfl ?_
              · have f0 := (HBz.out.below hw').cell 0; have f1 := (HBz.out.below hw').cell 1; have f2 := (HBz.out.below hw').cell 2; have f3 := (HBz.out.below hw').cell 3; have f4 := (HBz.out.below hw').cell 4; go_simp
              simp only [List.setIfInBounds_toArray, List.set_cons_zero, List.set_cons_succ]
              refine rg_take 15 139 (.agg #[.int .i64 3, .int .i64 0, .string ⟨#[]⟩, .slice (some ⟨gx, ox, none⟩) (kq + 1) ce, .slice pr 0 cr]) _ rfl rfl (by kernel_rfl) (by kernel_rfl) (by kernel_rfl) (fun _ _ _ h => h) (by rfl) (fun w' hw' => ?_) hS (listed' := #[true, true, true, true, true, true, true, true, true, true, true, true, true, true, false, true, false, false, false, false, false, false, false]) (by kernel_rfl) rfl ?_
              · have f0 := (HAz.out.below hw').cell 0; have f1 := (HAz.out.below hw').cell 1; have f2 := (HAz.out.below hw').cell 2; have f3 := (HAz.out.below hw').cell 3; have f4 := (HAz.out.below hw').cell 4; go_simp
              simp only [List.setIfInBounds_toArray, List.set_cons_zero, List.set_cons_succ]
              refine rg_call 14 138 21 #[.agg #[.int .i64 3, .int .i64 0, .string ⟨#[]⟩, .slice fa fnn fc, .slice vb 0 vd]] rfl rfl (by kernel_rfl) (by rfl) (listed' := #[true, true, true, true, true, true, true, true, true, true, true, true, true, true, true, true, false, false, false, false, false, false, false]) (by kernel_rfl) (fun W => by go_simp) ?_
              refine (HDB.out _ hS).mono ?_
              rintro e W1 ⟨rfl, hbW1⟩
              have hS0 := hS
              have hS : Below w12.heap.size w12 W1 := hS0.trans (hbW1.mono hS0.size)
              clear hS0 hbW1
              refine ⟨_, rfl, hS, ?_⟩
              simp only [List.setIfInBounds_toArray, List.set_cons_zero, List.set_cons_succ]
              refine rg_call 16 140 21 #[.agg #[.int .i64 3, .int .i64 0, .string ⟨#[]⟩, .slice (some ⟨gx, ox, none⟩) (kq + 1) ce, .slice pr 0 cr]] rfl rfl (by kernel_rfl) (by rfl) (listed' := #[true, true, true, true, true, true, true, true, true, true, true, true, true, true, true, true, true, false, false, false, false, false, false]) (by kernel_rfl) (fun W => by go_simp) ?_
              refine (HDA.out _ hS).mono ?_
              rintro e W2 ⟨rfl, hbW2⟩
              have hS0 := hS
              have hS : Below w12.heap.size w12 W2 := hS0.trans (hbW2.mono hS0.size)
              clear hS0 hbW2
              refine ⟨_, rfl, hS, ?_⟩
              simp only [List.setIfInBounds_toArray, List.set_cons_zero, List.set_cons_succ]
              refine rg_take 17 141 (.bool true) _ rfl rfl (by kernel_rfl) (by kernel_rfl) (by kernel_rfl) (fun _ _ _ h => h) (by rfl) (fun w' hw' => ?_) hS (listed' := #[true, true, true, true, true, true, true, true, true, true, true, true, true, true, true, true, true, true, false, false, false, false, false]) (by kernel_rfl) rfl ?_
              · go_simp <;> (simp; omega)
              simp only [List.setIfInBounds_toArray, List.set_cons_zero, List.set_cons_succ]
              refine rg_take 18 142 (.bool true) _ rfl rfl (by kernel_rfl) (by kernel_rfl) (by kernel_rfl) (fun _ _ _ h => h) (by rfl) (fun w' hw' => ?_) hS (listed' := #[true, true, true, true, true, true, true, true, true, true, true, true, true, true, true, true, true, true, true, false, false, false, false]) (by kernel_rfl) rfl ?_
              · go_simp
              simp only [List.setIfInBounds_toArray, List.set_cons_zero, List.set_cons_succ]
              refine rg_take 19 143 (.bool true) _ rfl rfl (by kernel_rfl) (by kernel_rfl) (by kernel_rfl) (fun _ _ _ h => h) (by rfl) (fun w' hw' => ?_) hS (listed' := #[true, true, true, true, true, true, true, true, true, true, true, true, true, true, true, true, true, true, true, true, false, false, false]) (by kernel_rfl) rfl ?_
              · go_simp
              simp only [List.setIfInBounds_toArray, List.set_cons_zero, List.set_cons_succ]
              refine rg_call 20 144 10 #[] rfl rfl (by kernel_rfl) (by rfl) (listed' := #[true, true, true, true, true, true, true, true, true, true, true, true, true, true, true, true, true, true, true, true, true, false, false]) (by kernel_rfl) (fun W => by go_simp) ?_
              refine (eawake_any _).mono ?_
              rintro e W3 ⟨rfl, hbW3⟩
              have hS0 := hS
              have hS : Below w12.heap.size w12 W3 := hS0.trans (hbW3.mono hS0.size)
              clear hS0 hbW3
              refine ⟨_, rfl, hS, ?_⟩
              simp only [List.setIfInBounds_toArray, List.set_cons_zero, List.set_cons_succ]
              refine rg_take 21 145 (.bool true) _ rfl rfl (by kernel_rfl) (by kernel_rfl) (by kernel_rfl) (fun _ _ _ h => h) (by rfl) (fun w' hw' => ?_) hS (listed' := #[true, true, true, true, true, true, true, true, true, true, true, true, true, true, true, true, true, true, true, true, true, true, false]) (by kernel_rfl) rfl ?_
              · go_simp
              simp only [List.setIfInBounds_toArray, List.set_cons_zero, List.set_cons_succ]
              refine rg_take 22 4 (.bool true) _ rfl rfl (by kernel_rfl) (by kernel_rfl) (by kernel_rfl) (fun _ _ _ h => h) (by rfl) (fun w' hw' => ?_) hS (listed' := #[true, true, true, true, true, true, true, true, true, true, true, true, true, true, true, true, true, true, true, true, true, true, true]) (by kernel_rfl) rfl ?_
              · go_simp
              simp only [List.setIfInBounds_toArray, List.set_cons_zero, List.set_cons_succ]
              refine wpAnyH_done (by kernel_rfl) ?_ _
              have hbe : Below w.heap.size w W3 := hbw12.trans (hS.mono hbw12.size)
              clear hS
              go_wp2_with fail
              go_ret
              exact ⟨rfl, hbe⟩
end Go.Proofs.Ytkmdaopmmfdpgaa
