/- What Depth answers. -/
import Derived.Test.YtgedelgdjcnogaaTvInside
import Derived.Test.YtgedelgdjcnogaaTvSmall
namespace Go.Proofs.Ytgedelgdjcnogaa
open Go.ChangeShapes Go.WideShapes Go.ChangeAt Go.RowKit
set_option linter.unusedVariables false
set_option linter.unusedSimpArgs false
set_option maxRecDepth 20000

/-- How deep a level's messages are. -/
def dpL (m : Nat) (M : List (List (Int × List Tr))) : Nat := if M = [] then 0 else 1 + ((subsL M).map (dpN m)).foldr max 0
theorem mem_subsL {M : List (List (Int × List Tr))} {x : Tr} : x ∈ subsL M ↔ ∃ m ∈ M, x ∈ subs m := by simp [subsL, List.mem_flatMap]
theorem mem_msgsL {ts : List Tr} {m : List (Int × List Tr)} : m ∈ msgsL ts ↔ ∃ t ∈ ts, t.kind = 3 ∧ t.es = m := by
  simp only [msgsL, List.mem_map, List.mem_filter, beq_iff_eq]
  constructor
  · rintro ⟨t, ⟨h1, h2⟩, h3⟩; exact ⟨t, h1, h2, h3⟩
  · rintro ⟨t, h1, h2, h3⟩; exact ⟨t, ⟨h1, h2⟩, h3⟩
theorem dp_step {m : Nat} {ts : List Tr} {M : List (List (Int × List Tr))} (h : MsgS ts M) : (ts.map (dpN (m + 1))).foldr max 0 = dpL m M := by
  apply Nat.le_antisymm
  · refine foldr_max_le fun d hd => ?_
    obtain ⟨t, ht, rfl⟩ := List.mem_map.1 hd
    simp only [dpN]
    split
    · rename_i hk
      have hm := h.2 t ht hk
      have hne : M ≠ [] := fun e => by rw [e] at hm; cases hm
      rw [dpL, if_neg hne]
      refine Nat.add_le_add_left (foldr_max_le fun d hd => ?_) 1
      obtain ⟨x, hx, rfl⟩ := List.mem_map.1 hd
      exact le_foldr_max (List.mem_map_of_mem (mem_subsL.2 ⟨_, hm, hx⟩))
    · exact Nat.zero_le _
  · unfold dpL
    split
    · exact Nat.zero_le _
    · rename_i hne
      obtain ⟨m0, hm0⟩ := List.exists_mem_of_ne_nil _ hne
      obtain ⟨t0, ht0, hk0, rfl⟩ := mem_msgsL.1 (h.1.subset hm0)
      have hone : 1 ≤ (ts.map (dpN (m + 1))).foldr max 0 := Nat.le_trans (by simp [dpN, hk0]) (le_foldr_max (List.mem_map_of_mem ht0))
      have : ((subsL M).map (dpN m)).foldr max 0 ≤ (ts.map (dpN (m + 1))).foldr max 0 - 1 := foldr_max_le fun d hd => by
        obtain ⟨x, hx, rfl⟩ := List.mem_map.1 hd
        obtain ⟨m1, hm1, hx⟩ := mem_subsL.1 hx
        obtain ⟨t1, ht1, hk1, rfl⟩ := mem_msgsL.1 (h.1.subset hm1)
        have h2 : dpN (m + 1) t1 ≤ (ts.map (dpN (m + 1))).foldr max 0 := le_foldr_max (List.mem_map_of_mem ht1)
        have h3 : dpN m x ≤ ((subs t1.es).map (dpN m)).foldr max 0 := le_foldr_max (List.mem_map_of_mem hx)
        have h4 : dpN (m + 1) t1 = 1 + ((subs t1.es).map (dpN m)).foldr max 0 := by simp [dpN, hk1]
        rw [h4] at h2
        omega
      omega
theorem cntL_zero : ∀ ts : List Tr, cntL 0 ts = 0
  | [] => rfl
  | t :: l => by
    have := cntL_zero l
    simp only [cntL, List.map_cons, List.sum_cons, cntN] at this ⊢
    omega
theorem cntL_append (m : Nat) (a b : List Tr) : cntL m (a ++ b) = cntL m a + cntL m b := by simp [cntL, List.sum_append]
theorem cnt_msgs (m : Nat) : ∀ ts : List Tr, cntL m (subsL (msgsL ts)) ≤ cntL (m + 1) ts
  | [] => by simp [cntL, subsL, msgsL]
  | t :: ts => by
    have ih := cnt_msgs m ts
    have h1 : cntL (m + 1) (t :: ts) = 1 + cntL m (subs t.es) + cntL (m + 1) ts := by simp [cntL, cntN]
    by_cases hk : t.kind = 3
    · have h2 : subsL (msgsL (t :: ts)) = subs t.es ++ subsL (msgsL ts) := by simp [msgsL, hk, subsL]
      rw [h1, h2, cntL_append]
      omega
    · have h2 : msgsL (t :: ts) = msgsL ts := by simp [msgsL, hk]
      rw [h1, h2]
      omega
theorem cnt_sub {m : Nat} {M M' : List (List (Int × List Tr))} (h : M.Sublist M') : cntL m (subsL M) ≤ cntL m (subsL M') := by
  induction h with
  | slnil => simp
  | cons a _ ih => simp only [subsL, List.flatMap_cons, cntL_append] at *; omega
  | cons_cons a _ ih => simp only [subsL, List.flatMap_cons, cntL_append] at *; omega
theorem cnt_step {m : Nat} {ts : List Tr} {M : List (List (Int × List Tr))} (h : MsgS ts M) : cntL m (subsL M) ≤ cntL (m + 1) ts := Nat.le_trans (cnt_sub h.1) (cnt_msgs m ts)
theorem len_cnt {m : Nat} {w : World} {v : Value} {ts : List Tr} (h : TrsQ m w v ts) : ts.length ≤ cntL m ts := by
  cases m with
  | zero =>
    cases ts with
    | nil => simp
    | cons t l =>
      obtain ⟨rows, _, _, h3⟩ := h
      obtain ⟨r, _, hp⟩ := h3 0 t rfl
      exact hp.elim
  | succ m => exact len_le_sum fun x hx => by simp [cntN]
theorem len_subsL {m : Nat} {w : World} {v : Value} {M : List (List (Int × List Tr))} (h : LvQ m w v M) : (subsL M).length ≤ cntL m (subsL M) := by
  cases m with
  | zero =>
    cases hs : subsL M with
    | nil => simp
    | cons t l =>
      have ht : t ∈ subsL M := by rw [hs]; simp
      obtain ⟨m0, hm0, hx⟩ := mem_subsL.1 ht
      obtain ⟨e, he, hx⟩ := mem_subs.1 hx
      obtain ⟨rows, _, _, h3⟩ := h
      obtain ⟨i, hi, ei⟩ := List.getElem_of_mem hm0
      obtain ⟨r, _, ve, rfl, hE, _⟩ := h3 i m0 (by rw [List.getElem?_eq_getElem hi, ei])
      obtain ⟨rows2, _, _, h4⟩ := hE
      obtain ⟨j, hj, ej⟩ := List.getElem_of_mem he
      obtain ⟨r2, _, vt, rfl, _, hT⟩ := h4 j e (by rw [List.getElem?_eq_getElem hj, ej])
      obtain ⟨rows3, _, _, h5⟩ := hT
      obtain ⟨k, hk, ek⟩ := List.getElem_of_mem hx
      obtain ⟨r3, _, hq⟩ := h5 k t (by rw [List.getElem?_eq_getElem hk, ek])
      exact hq.elim
  | succ m => exact len_le_sum fun x hx => by simp [cntN]
theorem messages_any (n : Nat) (v : Value) (ts : List Tr) (w : World) (h : TrsQ n w v ts) (hl : ts.length ≤ 1000) : Calls Try.prog 36 #[v] w (MsgP (n - 1) ts w) := by
  cases n with
  | zero =>
    have : ts = [] := by
      cases ts with
      | nil => rfl
      | cons t l =>
        obtain ⟨rows, _, _, h3⟩ := h
        obtain ⟨r, _, hp⟩ := h3 0 t rfl
        exact hp.elim
    subst this
    exact messages_step 0 v [] w (h.imp fun r x hx => by cases hx) hl
  | succ n => exact messages_step n v ts w h hl
/-- A row of one tree. -/
theorem one_row {n : Nat} {w : World} {g : Nat} {r : List Value} {t : Tr} {ty : TypeId} (hb : Blk w g r.toArray ty) (h : TrQ n w r t) : TrsQ n w (.slice (some ⟨g, 0, none⟩) 1 1) [t] := by
  refine ⟨[r], ⟨some ⟨g, 0, none⟩, 1, rfl, by simp, by unfold maxLen; omega, by simp, fun _ => ⟨g, 0, rfl, fun i c u j hi hj => ?_⟩⟩, rfl, fun i x hx => ?_⟩
  · cases i with
    | zero =>
      obtain rfl : r = c := by simpa using hi
      rw [hb.cell]
      simpa using hj
    | succ i => simp at hi
  · cases i with
    | zero => obtain rfl : t = x := by simpa using hx
              exact ⟨r, rfl, h⟩
    | succ i => simp at hx
/-- A tree's value, its lists in plain blocks. -/
def TrV2 (n : Nat) (w : World) (v : Value) (t : Tr) : Prop := ∃ r, v = .agg r.toArray ∧ TrQ n w r t
theorem TrV2.open {n : Nat} {w : World} {v : Value} {t : Tr} (h : TrV2 n w v t) : ∃ ea el ec ra rl rc, v = .agg #[.int .i64 t.kind, .int .i64 t.n, .string t.s, .slice ea el ec, .slice ra rl rc] ∧ TrQ n w [.int .i64 t.kind, .int .i64 t.n, .string t.s, .slice ea el ec, .slice ra rl rc] t := by
  obtain ⟨r, rfl, h⟩ := h
  cases n with
  | zero => exact h.elim
  | succ n =>
    have h' := h
    obtain ⟨ve, vr, rfl, _, _, _, _, h6, h7, _⟩ := h
    obtain ⟨a1, c1, rfl, _⟩ := RowP.open h7
    obtain ⟨a2, c2, rfl, _⟩ := h6.form2
    exact ⟨_, _, _, _, _, _, rfl, h'⟩
theorem TrV2.below {n : Nat} {w w1 : World} {v : Value} {t : Tr} (h : TrV2 n w v t) (hb : Below w.heap.size w w1) : TrV2 n w1 v t := by
  obtain ⟨r, h1, h2⟩ := h
  exact ⟨r, h1, h2.below hb⟩
set_option maxHeartbeats 4000000 in
theorem depth_any (n : Nat) (t : Tr) (v : Value) (w : World) (h : TrV2 n w v t) (hn : n ≤ 60) (hc : cntN n t ≤ 1000) :
    Calls Try.prog 14 #[v] w fun e w' => e = .returned (.int .i64 (dpN n t : Int)) ∧ Below w.heap.size w w' := by
  obtain ⟨ea, el, ec, ra, rl, rc, rfl, hq⟩ := h.open
  have HQ : Hid (TrQ n w [.int .i64 t.kind, .int .i64 t.n, .string t.s, .slice ea el ec, .slice ra rl rc] t) := hq
  have HC : Hid (cntN n t ≤ 1000) := hc
  obtain ⟨m, rfl⟩ : ∃ m, n = m + 1 := by
    cases n with
    | zero => exact hq.elim
    | succ m => exact ⟨m, rfl⟩
  clear h hq hc
  obtain ⟨D, hD⟩ : ∃ D, dpN (m + 1) t = D := ⟨_, rfl⟩
  have HD : Hid (dpN (m + 1) t = D) := hD
  have hD60 : D ≤ 60 := by have := dpN_le (m + 1) t; omega
  rw [hD]
  clear hD
  generalize t.kind = K at *
  generalize t.n = N at *
  generalize t.s = S at *
  go_enter Try.func14, Try.ntmps14
  go_wp2_with fail
  have hw2 : Below w.heap.size w ((w.alloc (Obj.cells #[.int .i64 K, .int .i64 N, .string S, .slice ea el ec, .slice ra rl rc] 25)).alloc (Obj.cells #[.int .i64 K, .int .i64 N, .string S, .slice ea el ec, .slice ra rl rc] 25)) := ((Below.refl _ _).alloc (Nat.le_refl _) _).alloc (by simp) _
  refine (messages_any (m + 1) _ [t] _ (one_row (blk_new2T w _ _ _) (HQ.out.below hw2)) (by simp)).mono ?_
  rintro e w1 ⟨lv, M, rfl, hM, hS, hb1⟩
  have hb : Below w.heap.size w w1 := hw2.trans (hb1.mono hw2.size)
  have H0 : Hid (LvQ m w1 lv M) := hM
  have hdp : 0 + dpL m M = D := by
    rw [← HD.out, ← dp_step hS]
    simp
  have hcn : cntL m (subsL M) ≤ 1000 := Nat.le_trans (cnt_step hS) (by have := HC.out; simpa [cntL] using this)
  have H1 : Hid (0 + dpL m M = D) := hdp
  obtain ⟨la, lc, rfl, l1, l2, -⟩ := RowP.open hM
  clear hM hS hb1 hw2 hdp HQ HC HD
  go_wp2_with fail
  go_loopw [3, 4] (fun dv lv wr => ∃ (d m : Nat) (M : List (List (Int × List Tr))), dv = .int .i64 (d : Int) ∧ Hid (LvQ m wr lv M) ∧ Hid (d + dpL m M = D) ∧ Hid (cntL m (subsL M) ≤ 1000) ∧ d ≤ D ∧ Below w.heap.size w wr) (fun dv _ _ => 101 - (intOf dv).toNat)
  case atStart => exact ⟨0, m, M, rfl, H0, H1, hcn, by omega, hb⟩
  case round =>
    clear H0 H1 hcn hb l1 l2
    obtain ⟨d, m, M, rfl, HL, HD, HC, hdD, hb⟩ := hrel
    obtain ⟨la, lc, rfl, l1, l2, -⟩ := RowP.open HL.out
    unfold maxLen at l2
    have hd1 : decide ((d : Int) ≤ 100) = true := by simp; omega
    obtain ⟨Ml, hMl⟩ : ∃ k, M.length = k := ⟨_, rfl⟩
    rw [hMl] at l1
    have HL' : Hid (LvQ m wr (.slice la Ml lc) M) := (by rw [← hMl]; exact HL.out : LvQ m wr (.slice la Ml lc) M)
    rw [hMl]
    have HMl : Hid (M.length = Ml) := hMl
    clear hMl HL
    by_cases h0 : Ml = 0
    · subst h0
      have hM0 : M = [] := List.eq_nil_of_length_eq_zero HMl.out
      have hdd : d = D := by have := HD.out; rw [hM0] at this; simpa [dpL] using this
      have HDD : Hid (d = D) := hdd
      clear hM0 hdd
      go_wp2_with fail
      go_ret
      refine ⟨?_, hb⟩
      have := HDD.out
      subst this
      rfl
    · have hpos : 0 < Ml := by omega
      have hd2 : decide (0 < (Ml : Int)) = true := by simp; omega
      have hne : M ≠ [] := fun e => h0 (by rw [← HMl.out, e]; rfl)
      have hdpM : dpL m M = 1 + ((subsL M).map (dpN m)).foldr max 0 := by rw [dpL, if_neg hne]
      have HDP : Hid (d + (1 + ((subsL M).map (dpN m)).foldr max 0) = D) := (by rw [← hdpM]; exact HD.out : d + (1 + ((subsL M).map (dpN m)).foldr max 0) = D)
      have hlen := len_subsL HL'.out
      have hlen2 : (subsL M).length ≤ 1000 := Nat.le_trans hlen HC.out
      have HI : Hid (Calls Try.prog 35 #[.slice la Ml lc] wr (InsP m M wr)) := inside_any m _ M wr HL'.out hlen2
      have HLN : Hid ((subsL M).length ≤ 1000) := hlen2
      clear hlen hlen2 hdpM hne HD
      go_wp2_with fail
      refine HI.out.mono ?_
      rintro e w2 ⟨iv, rfl, hT, hb2⟩
      have HM2 : Hid (Calls Try.prog 36 #[iv] w2 (MsgP (m - 1) (subsL M) w2)) := messages_any m iv (subsL M) w2 hT HLN.out
      have hbw2 : Below w.heap.size w w2 := hb.trans (hb2.mono hb.size)
      obtain ⟨ia, ic, rfl, -⟩ := RowP.open hT
      clear hT hb2 HI hb
      generalize (subsL M).length = Sl at HM2 ⊢
      go_wp2_with fail
      refine HM2.out.mono ?_
      rintro e w3 ⟨lv3, M3, rfl, hL3, hS3, hb3⟩
      have hbw3 : Below w.heap.size w w3 := hbw2.trans (hb3.mono hbw2.size)
      have HD3 : Hid (d + 1 + dpL (m - 1) M3 = D) := by
        show _ = _
        cases m with
        | zero =>
          have h00 : subsL M = [] := by
            have := len_subsL HL'.out
            have h1 : cntL 0 (subsL M) = 0 := cntL_zero _
            exact List.eq_nil_of_length_eq_zero (by omega)
          have hM3 : M3 = [] := by
            have := hS3.1
            rw [h00] at this
            simpa [msgsL] using this
          have := HDP.out
          rw [h00] at this
          rw [hM3]
          simpa [dpL] using this
        | succ m =>
          have h1 := dp_step (m := m) hS3
          have := HDP.out
          simp only [Nat.add_sub_cancel]
          omega
      have HC3 : Hid (cntL (m - 1) (subsL M3) ≤ 1000) := by
        show _ ≤ _
        cases m with
        | zero =>
          have h1 : cntL 0 (subsL M3) = 0 := cntL_zero _
          simp only [Nat.zero_sub]
          omega
        | succ m => exact Nat.le_trans (cnt_step (m := m) hS3) HC.out
      have hdD3 : d + 1 ≤ D := by have := HD3.out; omega
      have HL3 : Hid (LvQ (m - 1) w3 lv3 M3) := hL3
      clear hL3 hS3 hb3 hbw2 HM2 HC HDP HL'
      go_wp2_with fail
      go_roundw
      case rel => exact ⟨d + 1, m - 1, M3, by go_num, HL3, HD3, HC3, hdD3, hbw3⟩
      case measure => simp [intOf]; omega
end Go.Proofs.Ytgedelgdjcnogaa
