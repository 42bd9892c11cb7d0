/- Part 11 of what the proof stands on. -/
import Derived.Test.YtiajaocckkghgabGreatPkDAJ
namespace Go.Proofs.YtiajaocckkghgabGreat
set_option linter.unusedVariables false
set_option linter.unusedSimpArgs false
open Go.ChangeShapes Go.WideShapes Go.ChangeAt Go.RowKit
set_option maxRecDepth 20000
theorem uPlace : Tryz.prog.underlying 173 = some (.map 176 123) := by kernel_rfl
theorem told_pl {w : World} {x : Pl} {L : List Pl} (hx : PlOk w x) (hL : ∀ y ∈ L, PlOk w y) : Told 176 w (plV x) (L.map plV) := by
 intro q hq
 obtain ⟨y, hy, rfl⟩ := List.mem_map.1 hq
 have h := eql_pl w x y hx (hL y hy)
 have inj : plV x = plV y ↔ x = y := by
  obtain ⟨p, m⟩ := x
  obtain ⟨q, n⟩ := y
  simp [plV]
  intro _
  omega
 constructor
 ·intro e
  rw [h, decide_eq_true (inj.1 e)]
 ·intro e
  rw [h, decide_eq_false (fun e' => e (inj.2 e'))]
theorem mem_plV {x : Pl} {L : List Pl} : plV x ∈ L.map plV ↔ x ∈ L := by
 constructor
 ·intro h
  obtain ⟨y, hy, e⟩ := List.mem_map.1 h
  obtain ⟨p, m⟩ := x
  obtain ⟨q, n⟩ := y
  simp [plV] at e
  obtain ⟨rfl, e2⟩ := e
  obtain rfl : n = m := by omega
  exact hy
 ·exact List.mem_map_of_mem
def msgsL (ts : List Tr) : List (List (Int × List Tr)) := (ts.filter fun t => t.kind == 3).map Tr.es
def MsgS (ts : List Tr) (M : List (List (Int × List Tr))) : Prop := M.Sublist (msgsL ts) ∧ ∀ t ∈ ts, t.kind = 3 → t.es ∈ M
def LvC (n : Nat) (w : World) (r : List Value) (m : List (Int × List Tr)) : Prop := ∃ ve, r = [ve] ∧ EnsQ n w ve m ∧ PlnV w ve
abbrev LvQ (n : Nat) (w : World) (v : Value) (M : List (List (Int × List Tr))) : Prop := RowP (LvC n w) w 1 v M
theorem infoSl : (Tryz.prog.info? 36).map (fun i => (i.zero, i.size, i.bytes)) = some (some (.slice none 0 0), 1, 24) := by kernel_rfl
theorem MsgS.skip {ts : List Tr} {M : List (List (Int × List Tr))} {t : Tr} (h : MsgS ts M) (ht : t.kind ≠ 3) : MsgS (ts ++ [t]) M := by
 refine ⟨?_, fun x hx hk => ?_⟩
 ·have : msgsL (ts ++ [t]) = msgsL ts := by simp [msgsL, List.filter_append, ht]
  rw [this]; exact h.1
 ·rcases List.mem_append.1 hx with hx | hx
  ·exact h.2 x hx hk
  ·obtain rfl : x = t := by simpa using hx
   exact absurd hk ht
theorem msgs_snoc {ts : List Tr} {t : Tr} (ht : t.kind = 3) : msgsL (ts ++ [t]) = msgsL ts ++ [t.es] := by simp [msgsL, List.filter_append, ht]
theorem MsgS.old {ts : List Tr} {M : List (List (Int × List Tr))} {t : Tr} (h : MsgS ts M) (ht : t.kind = 3) (hm : t.es ∈ M) : MsgS (ts ++ [t]) M := by
 refine ⟨?_, fun x hx hk => ?_⟩
 ·rw [msgs_snoc ht]; exact h.1.trans (List.sublist_append_left _ _)
 ·rcases List.mem_append.1 hx with hx | hx
  ·exact h.2 x hx hk
  ·obtain rfl : x = t := by simpa using hx
   exact hm
theorem MsgS.new {ts : List Tr} {M : List (List (Int × List Tr))} {t : Tr} (h : MsgS ts M) (ht : t.kind = 3) : MsgS (ts ++ [t]) (M ++ [t.es]) := by
 refine ⟨?_, fun x hx hk => ?_⟩
 ·rw [msgs_snoc ht]; exact h.1.append (List.Sublist.refl _)
 ·rcases List.mem_append.1 hx with hx | hx
  ·exact List.mem_append.2 (.inl (h.2 x hx hk))
  ·obtain rfl : x = t := by simpa using hx
   simp
def Side (n : Nat) (w : World) (ves : List Value) (M : List (List (Int × List Tr))) : Prop := ves.length = M.length ∧ ∀ (i : Nat) (ve : Value) (m : List (Int × List Tr)), ves[i]? = some ve → M[i]? = some m → EnsQ n w ve m ∧ PlnV w ve
theorem Side.nil (n : Nat) (w : World) : Side n w [] [] := ⟨rfl, by simp⟩
theorem Side.snoc {n : Nat} {w : World} {ves : List Value} {M : List (List (Int × List Tr))} (h : Side n w ves M) {ve : Value} {m : List (Int × List Tr)} (h1 : EnsQ n w ve m) (h2 : PlnV w ve) : Side n w (ves ++ [ve]) (M ++ [m]) := by
 refine ⟨by simp [h.1], fun i v m' hv hm => ?_⟩
 by_cases hi : i < ves.length
 ·rw [List.getElem?_append_left hi] at hv
  rw [List.getElem?_append_left (by rw [← h.1]; exact hi)] at hm
  exact h.2 i v m' hv hm
 ·rw [List.getElem?_append_right (by omega)] at hv
  rw [List.getElem?_append_right (by rw [← h.1]; omega)] at hm
  rw [← h.1] at hm
  cases hq : i - ves.length with
  | zero =>
   rw [hq] at hv hm
   obtain rfl : ve = v := by simpa using hv
   obtain rfl : m = m' := by simpa using hm
   exact ⟨h1, h2⟩
  | succ q => rw [hq] at hv; simp at hv
theorem Side.mem {n : Nat} {w : World} {ves : List Value} {M : List (List (Int × List Tr))} (h : Side n w ves M) {ve : Value} (hv : ve ∈ ves) : ∃ m ∈ M, EnsQ n w ve m ∧ PlnV w ve := by
 obtain ⟨i, hi, e⟩ := List.getElem_of_mem hv
 have hm : M[i]? = some (M[i]'(by rw [← h.1]; exact hi)) := List.getElem?_eq_getElem _
 exact ⟨_, List.mem_of_getElem? hm, h.2 i ve _ (by rw [List.getElem?_eq_getElem hi, e]) hm⟩
theorem flat_one : ∀ l : List Value, l = (l.map fun x => [x]).flatten
 | [] => rfl
 | a :: l => by rw [List.map_cons, List.flatten_cons, ← flat_one l]; rfl
theorem Side.row {n : Nat} {w w' : World} {ves : List Value} {M : List (List (Int × List Tr))} (h : Side n w ves M) (hb : Below w.heap.size w w') {B k : Nat} {v : Value} (ho : w'.ownsRow B 36 1 v k ves) : LvQ n w' v M := by
 have hf : ves = (ves.map fun x => [x]).flatten := flat_one ves
 rw [hf] at ho
 have hr := (RowG.own (rs := ves.map fun x => [x]) (by intro r hr; obtain ⟨x, _, rfl⟩ := List.mem_map.1 hr; rfl) (by decide) ho).1
 refine ⟨_, hr, by simp [h.1], fun i m hm => ?_⟩
 obtain ⟨ve, hv⟩ : ∃ ve, ves[i]? = some ve := ⟨_, List.getElem?_eq_getElem (by rw [h.1]; exact (List.getElem?_eq_some_iff.1 hm).1)⟩
 obtain ⟨g1, g2⟩ := h.2 i ve m hv hm
 exact ⟨[ve], by simp [hv], ve, rfl, g1.belowEQ hb, g2.below hb⟩
def MsgP (n : Nat) (ts : List Tr) (w : World) (e : Ending) (w' : World) : Prop := ∃ v M, e = .returned v ∧ LvQ n w' v M ∧ MsgS ts M ∧ Below w.heap.size w w'
set_option maxHeartbeats 4000000 in
theorem messages_step (n : Nat) (v : Value) (ts : List Tr) (w : World) (h : TrsQ (n + 1) w v ts) (hl : ts.length ≤ 5000) :
  Calls Tryz.prog 115 #[v] w (MsgP n ts w) := by
 have hmm := @run_makeMap Tryz.prog
 obtain ⟨a, cap, rfl, h1, h2, h3, -, -⟩ := RowP.open h
 obtain ⟨N, hN⟩ : ∃ N, ts.length = N := ⟨_, rfl⟩
 rw [hN] at h1 hl ⊢
 have HH : Hid (TrsQ (n + 1) w (.slice a N cap) ts) := (by rw [← hN]; exact h : TrsQ (n + 1) w (.slice a N cap) ts)
 have HN : Hid (ts.length = N) := hN
 unfold maxLen at h2
 clear h hN h3
 go_enter Tryz.func115, Tryz.ntmps115
 go_wp2_with fail
 have HS0 : Hid (PlSet (w.alloc (.map #[] 0)) w.heap.size (List.map plV [])) := PlSet.made w
 have HO0 : Hid ((w.alloc (.map #[] 0)).ownsRow (w.heap.size + 1) 36 1 (.slice none 0 0) 0 []) := World.ownsRow_nil _ _ _ _
 have hb0 : Below w.heap.size w (w.alloc (.map #[] 0)) := (Below.refl _ _).alloc (Nat.le_refl _) _
 go_loopw [3, 13] (fun ov iv wr => ∃ (i k : Nat) (oa : Option Addr) (oc : Nat) (ves : List Value) (M : List (List (Int × List Tr))), iv = .int .i64 (i : Int) ∧ ov = .slice oa k oc ∧ i ≤ N ∧ k ≤ i ∧ Hid (Side n w ves M) ∧ Hid (MsgS (ts.take i) M) ∧ Hid (PlSet wr w.heap.size ((ves.map plOf).map plV)) ∧ Hid (wr.ownsRow (w.heap.size + 1) 36 1 (.slice oa k oc) k ves) ∧ Below w.heap.size w wr) (fun _ iv _ => N - (intOf iv).toNat)
 case atStart => exact ⟨0, 0, none, 0, [], [], rfl, rfl, by omega, by omega, Side.nil n w, (⟨by simp, by simp⟩ : MsgS (ts.take 0) []), HS0, HO0, hb0⟩
 case round =>
  clear HS0 HO0 hb0
  obtain ⟨i, k, oa, oc, ves, M, rfl, rfl, hi, hk, HSD, HMS, HST, HO, hbel⟩ := hrel
  by_cases hlt : i < N
  ·obtain ⟨t, ht⟩ : ∃ r, ts[i]? = some r := ⟨_, List.getElem?_eq_getElem (by rw [HN.out]; exact hlt)⟩
   obtain ⟨g, off, rfl, r, hr, hc⟩ := HH.out.get ht
   obtain ⟨ve, vr, rfl, q1, q2, q3, q4, q5, q6, q7⟩ := hr
   obtain ⟨ea, ec, rfl, e1, e2, e3, -, -⟩ := RowP.open q6
   obtain ⟨ra, rc, rfl, -⟩ := rest_holds q5
   have c0 := (hbel.cell (World.block_lt_of_cell? _ _ (hc 0 _ rfl))).trans (hc 0 _ rfl)
   have c1 := (hbel.cell (World.block_lt_of_cell? _ _ (hc 1 _ rfl))).trans (hc 1 _ rfl)
   have c2 := (hbel.cell (World.block_lt_of_cell? _ _ (hc 2 _ rfl))).trans (hc 2 _ rfl)
   have c3 := (hbel.cell (World.block_lt_of_cell? _ _ (hc 3 _ rfl))).trans (hc 3 _ rfl)
   have c4 := (hbel.cell (World.block_lt_of_cell? _ _ (hc 4 _ rfl))).trans (hc 4 _ rfl)
   simp only [Nat.add_zero] at c0
   have HT : Hid (ts[i]? = some t) := ht
   have HTK : Hid (ts.take (i + 1) = ts.take i ++ [t]) := (by obtain ⟨hl', e⟩ := List.getElem?_eq_some_iff.1 ht; rw [List.take_succ_eq_append_getElem hl', e] : ts.take (i + 1) = ts.take i ++ [t])
   have HE : Hid (EnsQ n w (.slice ea t.es.length ec) t.es ∧ PlnV w (.slice ea t.es.length ec)) := ⟨q6, q7⟩
   clear hc ht q1 q2 q3 q4 q5 q6 q7
   generalize hEl : t.es.length = El at *
   generalize t.rest.length = Rl at *
   have HEl : Hid (t.es.length = El) := hEl
   obtain ⟨K, hK⟩ : ∃ K, t.kind = K := ⟨_, rfl⟩
   rw [hK] at c0
   have HK : Hid (t.kind = K) := hK
   clear hK hEl
   generalize t.n = Tn at *
   generalize t.s = Ts at *
   by_cases h3 : K = 3
   ·subst h3
    obtain ⟨⟨p, m⟩, hpm⟩ : ∃ x, plOf (.slice ea El ec) = x := ⟨_, rfl⟩
    have HPM : Hid (plOf (.slice ea El ec) = (p, m)) := hpm
    have HPC : Hid (∀ W, Calls Tryz.prog 127 #[.slice ea El ec] W fun e w' => e = .returned (.agg #[.pointer p, .int .i64 (m : Int)]) ∧ Below W.heap.size W w') := fun W => by
     have := place_any ea El ec W e1 e2 (e3.imp (fun h => by rw [← HEl.out, h]; rfl) id)
     rw [hpm] at this
     exact this
    clear hpm e3
    go_wp2_with fail
    refine (HPC.out _).mono ?_
    rintro e w2 ⟨rfl, hb2⟩
    have BT : Blk w2 wr.heap.size #[.int .i64 3, .int .i64 Tn, .string Ts, .slice ea El ec, .slice ra Rl rc] 39 := (Blk.new wr _ _).below hb2
    have hbr : Below wr.heap.size wr w2 := ((Below.refl _ _).alloc (Nat.le_refl _) _).trans (hb2.mono (by simp))
    have hbw : Below w.heap.size w w2 := hbel.trans (hbr.mono hbel.size)
    have HST2 : Hid (PlSet w2 w.heap.size ((ves.map plOf).map plV)) := HST.out.below hbr
    have HO2 : Hid (w2.ownsRow (w.heap.size + 1) 36 1 (.slice oa k oc) k ves) := own_below HO.out hbr
    generalize wr.heap.size = bt at *
    clear hb2 hbr HPC c0 c1 c2 c3 c4 HST HO hbel
    have HTD : Hid (∀ W, Below w.heap.size w W → Told 176 W (.agg #[.pointer p, .int .i64 (m : Int)]) ((ves.map plOf).map plV)) := fun W hW => by
     have hx : PlOk W (p, m) := by rw [← HPM.out]; exact plOf_ok (HE.out.2.below hW) (HE.out.1.belowEQ hW)
     exact told_pl hx fun y hy => by
      obtain ⟨ve, hve, rfl⟩ := List.mem_map.1 hy
      obtain ⟨m', _, g1, g2⟩ := HSD.out.mem hve
      exact plOf_ok (g2.below hW) (RowP.belowEQ g1 hW)
    obtain ⟨R, hR⟩ : ∃ R : Bool, R = true ↔ (p, m) ∈ ves.map plOf := by
     by_cases hm : (p, m) ∈ ves.map plOf
     ·exact ⟨true, by simp [hm]⟩
     ·exact ⟨false, by simp [hm]⟩
    have HR : Hid (R = true ↔ (p, m) ∈ ves.map plOf) := hR
    clear hR
    have al3 : Below w2.heap.size w2 (w2.alloc (Obj.cells #[.pointer p, .int .i64 (m : Int)] 176)) := (Below.refl _ _).alloc (Nat.le_refl _) _
    have hb3 : Below w.heap.size w (w2.alloc (Obj.cells #[.pointer p, .int .i64 (m : Int)] 176)) := hbw.trans (al3.mono hbw.size)
    have al4 : Below w2.heap.size w2 ((w2.alloc (Obj.cells #[.pointer p, .int .i64 (m : Int)] 176)).alloc (Obj.cells #[] 123)) := al3.alloc (by simp) _
    have hb4 : Below w.heap.size w ((w2.alloc (Obj.cells #[.pointer p, .int .i64 (m : Int)] 176)).alloc (Obj.cells #[] 123)) := hbw.trans (al4.mono hbw.size)
    have HLK : Hid ((Instr.lookup 173 (.map (some w.heap.size)) (.agg #[.pointer p, .int .i64 (m : Int)]) true).run Tryz.prog (w2.alloc (Obj.cells #[.pointer p, .int .i64 (m : Int)] 176)) = .ok (.tuple #[.agg #[], .bool R]) (w2.alloc (Obj.cells #[.pointer p, .int .i64 (m : Int)] 176))) :=
     look_pl uPlace zeroEp Tryz.underlying176 (fun _ _ => rfl) rfl (fun e => check_pl _ e (p, m)) (HST2.out.below al3) (HTD.out _ hb3) R (HR.out.trans mem_plV.symm)
    cases R with
    | true =>
     have hes : t.es ∈ M := by
      obtain ⟨ve, hve, e⟩ := List.mem_map.1 (HR.out.1 rfl)
      obtain ⟨m', hm', g1, g2⟩ := HSD.out.mem hve
      rw [pl_uniq HE.out.1 g1 (by rw [HPM.out, e])]
      exact hm'
     have HES : Hid (t.es ∈ M) := hes
     have q0 := BT.cell 3
     clear hes
     go_wp2_with (first | (at_lookup; refine wpList_lookup_pl rfl _ _ rfl rfl rfl HLK.out ?_) | fail)
     go_roundw
     case rel => exact ⟨i + 1, k, oa, oc, ves, M, by go_num, rfl, by omega, by omega, HSD, (by rw [HTK.out]; exact HMS.out.old HK.out HES.out : MsgS (ts.take (i + 1)) M), HST2.out.below al4, own_below HO2.out al4, hb4⟩
     case measure => simp [intOf]; omega
    | false =>
     obtain ⟨w5, r1, r2, r3, r4⟩ := update_pl (MT := 173) (E := 123) (w := ((w2.alloc (Obj.cells #[.pointer p, .int .i64 (m : Int)] 176)).alloc (Obj.cells #[] 123))) uPlace Tryz.underlying176 (fun _ _ => rfl) rfl (fun e => check_pl _ e (p, m)) (HST2.out.below al4) (HTD.out _ hb4) (fun h => by have := HR.out.2 (mem_plV.1 h); cases this)
     have HUP : Hid _ := r1
     have BT5 : Blk w5 bt #[.int .i64 3, .int .i64 Tn, .string Ts, .slice ea El ec, .slice ra Rl rc] 39 := (BT.below al4).kp r3 (fun e => (HST2.out.below al4).neB (BT.below al4) e)
     have hO5 : w5.ownsRow (w.heap.size + 1) 36 1 (.slice oa k oc) k ves := own_kpV (own_below HO2.out al4) r3 (fun q hq e => by have := (own_lt (own_below HO2.out al4) hq).1; omega)
     have hb5 : Below w.heap.size w w5 := hb4.trans (r3.toBelow hb4.size (fun q e => by omega))
     have HST5 : Hid (PlSet w5 w.heap.size (((ves ++ [Value.slice ea El ec]).map plOf).map plV)) := by
      show PlSet _ _ _
      rw [List.map_append, List.map_append, List.map_cons, List.map_nil, HPM.out]
      exact r2
     have al6 : Below w5.heap.size w5 (w5.alloc (Obj.cells #[.slice ea El ec] 36)) := (Below.refl _ _).alloc (Nat.le_refl _) _
     have BE : Blk (w5.alloc (Obj.cells #[.slice ea El ec] 36)) w5.heap.size #[.slice ea El ec] 36 := Blk.new w5 _ _
     have hb6 : Below w.heap.size w (w5.alloc (Obj.cells #[.slice ea El ec] 36)) := hb5.trans (al6.mono hb5.size)
     have q3 := (BT5.cell 3).trans rfl
     obtain ⟨i0, hi0, hz0, hz1, hz2⟩ := info_parts infoSl
     obtain ⟨v', W7, s1, s2, s3, _, s5⟩ := run_append_own_at (w5.alloc (Obj.cells #[.slice ea El ec] 36)) (w.heap.size + 1) 163 163 36 i0 _ 1 24 Tryz.underlying163 hi0 hz0 hz1 hz2 rfl (by decide) (.slice oa k oc) k _ (own_below hO5 al6) ⟨w5.heap.size, 0, none⟩ 1 1 [.slice ea El ec] rfl (fun j u hu => by
      have := BE.cell j
      rw [Addr.add_lit, Nat.zero_add, this]
      simpa using hu) (fun u hu => by
      simp only [List.mem_cons, List.not_mem_nil, or_false] at hu
      subst hu; rfl) (by unfold maxLen; omega) (by omega) (by have := hb6.size; have := HST5.out.lt; have := al6.size; omega)
     have HRUN : Hid _ := s1
     have HST7 : Hid (PlSet W7 w.heap.size (((ves ++ [Value.slice ea El ec]).map plOf).map plV)) := by
      have h6 := HST5.out.below al6
      have hl6 := h6.lt
      obtain ⟨es, c, g1, g2⟩ := h6
      refine ⟨es, c, (s3.block _ hl6 (fun e => ?_)).trans g1, g2⟩
      have := (own_lt hO5 e.symm).1
      omega
     have hb7 : Below w.heap.size w W7 := hb6.grown s3 hb6.size (fun q hq => by have := (own_lt hO5 hq).1; omega)
     obtain ⟨na, nc, hv'⟩ := own_form s2
     subst hv'
     have HO7 : Hid (W7.ownsRow (w.heap.size + 1) 36 1 (.slice na (k + 1) nc) (k + 1) (ves ++ [Value.slice ea El ec])) := s2
     have HSD7 : Hid (Side n w (ves ++ [Value.slice ea El ec]) (M ++ [t.es])) := HSD.out.snoc HE.out.1 HE.out.2
     have q0 := (BT.cell 3).trans rfl
     clear r1 r2 r3 r4 s1 s2 s3 s5 hO5 BE HTD HR HSD HST2 HO2 HST5 hi0 hz0 hz1 hz2
     go_wp2_with (first | (at_lookup; refine wpList_lookup_pl rfl _ _ rfl rfl rfl HLK.out ?_) | (at_mapUpdate; refine wpList_update_pl rfl _ _ _ rfl rfl rfl rfl HUP.out ?_) | (at_builtin; refine wpList_ran rfl (append_run rfl rfl rfl HRUN.out) ?_) | fail)
     go_roundw
     case rel => exact ⟨i + 1, k + 1, na, nc, _, _, by go_num, rfl, by omega, by omega, HSD7, (by rw [HTK.out]; exact HMS.out.new HK.out : MsgS (ts.take (i + 1)) (M ++ [t.es])), HST7, HO7, hb7⟩
     case measure => simp [intOf]; omega
   ·have hd : (K != 3) = true := by simpa using h3
    go_wp2_with fail
    have hb2 : Below w.heap.size w (wr.alloc (Obj.cells #[.int .i64 K, .int .i64 Tn, .string Ts, .slice ea El ec, .slice ra Rl rc] 39)) := hbel.alloc hbel.size _
    have hal : Below wr.heap.size wr (wr.alloc (Obj.cells #[.int .i64 K, .int .i64 Tn, .string Ts, .slice ea El ec, .slice ra Rl rc] 39)) := (Below.refl _ _).alloc (Nat.le_refl _) _
    go_roundw
    case rel => exact ⟨i + 1, k, oa, oc, ves, M, by go_num, rfl, by omega, by omega, HSD, (by rw [HTK.out]; exact HMS.out.skip (by rw [HK.out]; exact h3) : MsgS (ts.take (i + 1)) M), HST.out.below hal, own_below HO.out hal, hb2⟩
    case measure => simp [intOf]; omega
  ·go_wp2_with fail
   go_ret
   have h5 := HMS.out
   rw [List.take_of_length_le (by rw [HN.out]; omega)] at h5
   exact ⟨_, M, rfl, HSD.out.row hbel HO.out, h5, hbel⟩
theorem infoTq : (Tryz.prog.info? 39).map (fun i => (i.zero, i.size, i.bytes)) = some (some (.agg #[.int .i64 0, .int .i64 0, .string ⟨#[]⟩, .slice none 0 0, .slice none 0 0]), 5, 80) := by kernel_rfl
def SideT (n : Nat) (w : World) (rows : List (List Value)) (ts : List Tr) : Prop := rows.length = ts.length ∧ ∀ (i : Nat) (r : List Value) (t : Tr), rows[i]? = some r → ts[i]? = some t → TrQ n w r t
theorem SideT.append {n : Nat} {w : World} {rows rs : List (List Value)} {ts us : List Tr} (h : SideT n w rows ts) (k : SideT n w rs us) : SideT n w (rows ++ rs) (ts ++ us) := by
 refine ⟨by simp [h.1, k.1], fun i r t hr ht => ?_⟩
 by_cases hi : i < rows.length
 ·rw [List.getElem?_append_left hi] at hr
  rw [List.getElem?_append_left (by rw [← h.1]; exact hi)] at ht
  exact h.2 i r t hr ht
 ·rw [List.getElem?_append_right (by omega)] at hr
  rw [List.getElem?_append_right (by rw [← h.1]; omega), ← h.1] at ht
  exact k.2 _ r t hr ht
theorem SideT.below {n : Nat} {w w1 : World} {rows : List (List Value)} {ts : List Tr} (h : SideT n w rows ts) (hb : Below w.heap.size w w1) : SideT n w1 rows ts := ⟨h.1, fun i r t hr ht => (h.2 i r t hr ht).below hb⟩
theorem TrQ.five {n : Nat} {w : World} {r : List Value} {t : Tr} (h : TrQ n w r t) : r.length = 5 ∧ ∀ u ∈ r, u.oneCell' = true := by
 cases n with
 | zero => exact h.elim
 | succ n =>
  obtain ⟨ve, vr, rfl, _, _, _, _, h6, h7, _⟩ := h
  obtain ⟨a1, c1, rfl, _⟩ := RowP.open h7
  obtain ⟨a2, c2, rfl, _⟩ := h6.form2
  refine ⟨rfl, fun u hu => ?_⟩
  simp only [List.mem_cons, List.not_mem_nil, or_false] at hu
  rcases hu with rfl | rfl | rfl | rfl | rfl <;> rfl
theorem SideT.rows {n : Nat} {w : World} {rows : List (List Value)} {ts : List Tr} (h : SideT n w rows ts) : (∀ r ∈ rows, r.length = 5) ∧ ∀ u ∈ rows.flatten, u.oneCell' = true := by
 have each : ∀ r ∈ rows, r.length = 5 ∧ ∀ u ∈ r, u.oneCell' = true := fun r hr => by
  obtain ⟨i, hi, e⟩ := List.getElem_of_mem hr
  have ht : ts[i]? = some (ts[i]'(by rw [← h.1]; exact hi)) := List.getElem?_eq_getElem _
  exact (h.2 i r _ (by rw [List.getElem?_eq_getElem hi, e]) ht).five
 refine ⟨fun r hr => (each r hr).1, fun u hu => ?_⟩
 obtain ⟨r, hr, hu⟩ := List.mem_flatten.1 hu
 exact (each r hr).2 u hu
theorem TrsQ_side {n : Nat} {w : World} {v : Value} {ts : List Tr} (h : TrsQ n w v ts) : ∃ rows, RowG w v 5 rows ∧ SideT n w rows ts := by
 obtain ⟨rows, h1, h2, h3⟩ := h
 refine ⟨rows, h1, h2, fun i r t hr ht => ?_⟩
 obtain ⟨r', e, hp⟩ := h3 i t ht
 rw [hr] at e
 cases e
 exact hp
theorem SideT.row {n : Nat} {w : World} {rows : List (List Value)} {ts : List Tr} (h : SideT n w rows ts) {B k : Nat} {v : Value} (ho : w.ownsRow B 39 5 v k rows.flatten) : TrsQ n w v ts := by
 refine ⟨rows, (RowG.own h.rows.1 (by decide) ho).1, h.1, fun i t ht => ?_⟩
 obtain ⟨r, hr⟩ : ∃ r, rows[i]? = some r := ⟨_, List.getElem?_eq_getElem (by rw [h.1]; exact (List.getElem?_eq_some_iff.1 ht).1)⟩
 exact ⟨r, hr, h.2 i r t hr ht⟩
def subsL (M : List (List (Int × List Tr))) : List Tr := M.flatMap subs
theorem subs_snoc (es : List (Int × List Tr)) (e : Int × List Tr) : subs (es ++ [e]) = subs es ++ e.2 := by simp [subs, List.flatMap_append]
theorem subsL_snoc (M : List (List (Int × List Tr))) (m : List (Int × List Tr)) : subsL (M ++ [m]) = subsL M ++ subs m := by simp [subsL, List.flatMap_append]
theorem take_atQ {α : Type} {l : List α} {i : Nat} {x : α} (h : l[i]? = some x) : l.take (i + 1) = l.take i ++ [x] := by
 obtain ⟨hl, rfl⟩ := List.getElem?_eq_some_iff.1 h
 rw [List.take_succ_eq_append_getElem hl]
theorem subs_take_le (m : List (Int × List Tr)) (j : Nat) : (subs (m.take j)).length ≤ (subs m).length := by
 have : subs m = subs (m.take j) ++ subs (m.drop j) := by rw [subs, subs, subs, ← List.flatMap_append, List.take_append_drop]
 rw [this, List.length_append]
 omega
theorem subsL_take_le (M : List (List (Int × List Tr))) (j : Nat) : (subsL (M.take j)).length ≤ (subsL M).length := by
 have : subsL M = subsL (M.take j) ++ subsL (M.drop j) := by rw [subsL, subsL, subsL, ← List.flatMap_append, List.take_append_drop]
 rw [this, List.length_append]
 omega
theorem acc_le {M : List (List (Int × List Tr))} {m : List (Int × List Tr)} {i j : Nat} (h : M[i]? = some m) : (subsL (M.take i) ++ subs (m.take j)).length ≤ (subsL M).length := by
 refine Nat.le_trans ?_ (subsL_take_le M (i + 1))
 rw [take_atQ h, subsL_snoc, List.length_append, List.length_append]
 have := subs_take_le m j
 omega
def InsP (n : Nat) (M : List (List (Int × List Tr))) (w : World) (e : Ending) (w' : World) : Prop := ∃ v, e = .returned v ∧ TrsQ n w' v (subsL M) ∧ Below w.heap.size w w'
set_option maxHeartbeats 4000000 in
theorem inside_any (n : Nat) (v : Value) (M : List (List (Int × List Tr))) (w : World) (h : LvQ n w v M) (hl : (subsL M).length ≤ 5000) :
  Calls Tryz.prog 114 #[v] w (InsP n M w) := by
 obtain ⟨a, cap, rfl, h1, h2, -⟩ := RowP.open h
 obtain ⟨N, hN⟩ : ∃ N, M.length = N := ⟨_, rfl⟩
 rw [hN] at h1 ⊢
 have HH : Hid (LvQ n w (.slice a N cap) M) := (by rw [← hN]; exact h : LvQ n w (.slice a N cap) M)
 have HN : Hid (M.length = N) := hN
 have HL : Hid ((subsL M).length ≤ 5000) := hl
 unfold maxLen at h2
 clear h hN hl
 go_enter Tryz.func114, Tryz.ntmps114
 go_wp2_with fail
 go_loopw [3, 10] (fun ov iv wr => ∃ (i k : Nat) (oa : Option Addr) (oc : Nat) (rows : List (List Value)), iv = .int .i64 (i : Int) ∧ ov = .slice oa k oc ∧ i ≤ N ∧ Hid (SideT n w rows (subsL (M.take i))) ∧ Hid (wr.ownsRow w.heap.size 39 5 (.slice oa k oc) k rows.flatten) ∧ Below w.heap.size w wr) (fun _ iv _ => N - (intOf iv).toNat)
 case atStart => exact ⟨0, 0, none, 0, [], rfl, rfl, by omega, (⟨rfl, by simp⟩ : SideT n w [] (subsL (M.take 0))), World.ownsRow_nil _ _ _ _, Below.refl _ _⟩
 case round =>
  obtain ⟨i, k, oa, oc, rows, rfl, rfl, hi, HS, HO, hbel⟩ := hrel
  by_cases hlt : i < N
  ·obtain ⟨m, hm⟩ : ∃ r, M[i]? = some r := ⟨_, List.getElem?_eq_getElem (by rw [HN.out]; exact hlt)⟩
   obtain ⟨g, off, rfl, r, ⟨ve, rfl, he, hp⟩, hc⟩ := HH.out.get hm
   obtain ⟨ea, ec, rfl, e1, e2, -⟩ := RowP.open he
   have c0 := (hbel.cell (World.block_lt_of_cell? _ _ (hc 0 _ rfl))).trans (hc 0 _ rfl)
   simp only [Nat.mul_one, Nat.add_zero] at c0
   obtain ⟨El, hEl⟩ : ∃ N, m.length = N := ⟨_, rfl⟩
   rw [hEl] at e1 c0
   have HE : Hid (EnsQ n w (.slice ea El ec) m) := (by rw [← hEl]; exact he : EnsQ n w (.slice ea El ec) m)
   have HEl : Hid (m.length = El) := hEl
   have HM : Hid (M[i]? = some m) := hm
   unfold maxLen at e2
   clear hc he hp hm hEl
   go_wp2_with fail
   clear c0
   go_loopw [3, 16] (fun ov jv wz => ∃ (j k : Nat) (oa : Option Addr) (oc : Nat) (rows : List (List Value)), jv = .int .i64 (j : Int) ∧ ov = .slice oa k oc ∧ j ≤ El ∧ Hid (SideT n w rows (subsL (M.take i) ++ subs (m.take j))) ∧ Hid (wz.ownsRow w.heap.size 39 5 (.slice oa k oc) k rows.flatten) ∧ Below w.heap.size w wz) (fun _ jv _ => El - (intOf jv).toNat)
   case atStart => exact ⟨0, k, oa, oc, rows, rfl, rfl, by omega, (by simpa [subs] using HS.out : SideT n w rows (subsL (M.take i) ++ subs (m.take 0))), HO, hbel⟩
   case round =>
    clear HS HO hbel
    obtain ⟨j, k, oa, oc, rows, rfl, rfl, hj, HS, HO, hbel⟩ := hrel
    by_cases hlt2 : j < El
    ·obtain ⟨x, hx⟩ : ∃ r, m[j]? = some r := ⟨_, List.getElem?_eq_getElem (by rw [HEl.out]; exact hlt2)⟩
     obtain ⟨ge, offe, rfl, r, ⟨vt, rfl, -, ht⟩, hc⟩ := HE.out.get hx
     obtain ⟨ta, tc, rfl, -⟩ := RowP.open ht
     have c0 := (hbel.cell (World.block_lt_of_cell? _ _ (hc 0 _ rfl))).trans (hc 0 _ rfl)
     have c1 := (hbel.cell (World.block_lt_of_cell? _ _ (hc 1 _ rfl))).trans (hc 1 _ rfl)
     simp only [Nat.add_zero] at c0
     obtain ⟨rs, hrg, hsd⟩ := TrsQ_side ht
     have hal : Below wr.heap.size wr (wr.alloc (Obj.cells #[.int .i64 x.1, .slice ta x.2.length tc] 63)) := (Below.refl _ _).alloc (Nat.le_refl _) _
     have hb2 : Below w.heap.size w (wr.alloc (Obj.cells #[.int .i64 x.1, .slice ta x.2.length tc] 63)) := hbel.trans (hal.mono hbel.size)
     have hlen : k + rs.length ≤ 5000 := by
      have h1 := acc_le (j := j + 1) HM.out
      rw [take_atQ hx, subs_snoc] at h1
      have h2 := HL.out
      have h3 := HS.out.1
      have h4 := hsd.1
      have h5 := (RowG.own HS.out.rows.1 (by decide) HO.out).2
      simp only [List.length_append] at h1 h3
      omega
     obtain ⟨v', W4, r1, r2, r3⟩ := run_joinG (w := wr.alloc (Obj.cells #[.int .i64 x.1, .slice ta x.2.length tc] 63)) 61 61 39 5 80 _ Tryz.underlying61 infoTq rfl (by decide) w.heap.size (.slice oa k oc) k rows.flatten (own_below HO.out hal) (.slice ta x.2.length tc) rs (hrg.below hb2) hsd.rows.1 hsd.rows.2 (by omega) (by decide) hb2.size
     have HRUN : Hid _ := r1
     have HS4 : Hid (SideT n w (rows ++ rs) (subsL (M.take i) ++ subs (m.take (j + 1)))) := (by rw [take_atQ hx, subs_snoc, ← List.append_assoc]; exact HS.out.append hsd : SideT n w (rows ++ rs) (subsL (M.take i) ++ subs (m.take (j + 1))))
     have hb4 : Below w.heap.size w W4 := hb2.grown r3 hb2.size (fun q hq => (own_lt HO.out hq).1)
     rw [← List.flatten_append] at r2
     obtain ⟨na, nc, hv'⟩ := own_form r2
     subst hv'
     have HO4 : Hid (W4.ownsRow w.heap.size 39 5 (.slice na (k + rs.length) nc) (k + rs.length) (rows ++ rs).flatten) := r2
     clear r1 r2 r3 hrg hsd hc ht hx HS HO
     generalize x.2.length = Xl at *
     generalize x.1 = xt at *
     generalize k + rs.length = k2 at *
     go_wp2_with (first | (at_builtin; refine wpList_ran rfl (append_run rfl rfl rfl HRUN.out) ?_) | fail)
     clear HRUN c0 c1 hal hb2 hbel
     go_roundw
     case rel => exact ⟨j + 1, k2, na, nc, _, by go_num, rfl, by omega, HS4, HO4, hb4⟩
     case measure => simp [intOf]; omega
    ·have HS5 : Hid (SideT n w rows (subsL (M.take (i + 1)))) := (by
      have := HS.out
      rw [List.take_of_length_le (l := m) (by rw [HEl.out]; omega)] at this
      rw [take_atQ HM.out, subsL_snoc]
      exact this : SideT n w rows (subsL (M.take (i + 1))))
     clear HS
     go_wp2_with fail
     go_roundw
     case rel => exact ⟨i + 1, k, oa, oc, rows, by go_num, rfl, by omega, HS5, HO, hbel⟩
     case measure => simp [intOf]; omega
  ·go_wp2_with fail
   go_ret
   have h5 := HS.out
   rw [List.take_of_length_le (by rw [HN.out]; omega)] at h5
   exact ⟨_, rfl, (h5.below hbel).row HO.out, hbel⟩
def cntL (m : Nat) (ts : List Tr) : Nat := (ts.map (cntN m)).sum
theorem blk_new2T (w : World) (o : Obj) (cs : Array Value) (t : TypeId) : Blk ((w.alloc o).alloc (.cells cs t)) (w.heap.size + 1) cs t := by
 have := Blk.new (w.alloc o) cs t
 rwa [show (w.alloc o).heap.size = w.heap.size + 1 from by simp] at this
def dpL (m : Nat) (M : List (List (Int × List Tr))) : Nat := if M = [] then 0 else 1 + ((subsL M).map (dpN m)).foldr max 0
theorem mem_subsL {M : List (List (Int × List Tr))} {x : Tr} : x ∈ subsL M ↔ ∃ m ∈ M, x ∈ subs m := by simp [subsL, List.mem_flatMap]
theorem mem_msgsL {ts : List Tr} {m : List (Int × List Tr)} : m ∈ msgsL ts ↔ ∃ t ∈ ts, t.kind = 3 ∧ t.es = m := by
 simp only [msgsL, List.mem_map, List.mem_filter, beq_iff_eq]
 constructor
 ·rintro ⟨t, ⟨h1, h2⟩, h3⟩; exact ⟨t, h1, h2, h3⟩
 ·rintro ⟨t, h1, h2, h3⟩; exact ⟨t, ⟨h1, h2⟩, h3⟩
theorem dp_step {m : Nat} {ts : List Tr} {M : List (List (Int × List Tr))} (h : MsgS ts M) : (ts.map (dpN (m + 1))).foldr max 0 = dpL m M := by
 apply Nat.le_antisymm
 ·refine foldr_max_le fun d hd => ?_
  obtain ⟨t, ht, rfl⟩ := List.mem_map.1 hd
  simp only [dpN]
  split
  ·rename_i hk
   have hm := h.2 t ht hk
   have hne : M ≠ [] := fun e => by rw [e] at hm; cases hm
   rw [dpL, if_neg hne]
   refine Nat.add_le_add_left (foldr_max_le fun d hd => ?_) 1
   obtain ⟨x, hx, rfl⟩ := List.mem_map.1 hd
   exact le_foldr_max (List.mem_map_of_mem (mem_subsL.2 ⟨_, hm, hx⟩))
  ·exact Nat.zero_le _
 ·unfold dpL
  split
  ·exact Nat.zero_le _
  ·rename_i hne
   obtain ⟨m0, hm0⟩ := List.exists_mem_of_ne_nil _ hne
   obtain ⟨t0, ht0, hk0, rfl⟩ := mem_msgsL.1 (h.1.subset hm0)
   have hone : 1 ≤ (ts.map (dpN (m + 1))).foldr max 0 := Nat.le_trans (by simp [dpN, hk0]) (le_foldr_max (List.mem_map_of_mem ht0))
   have : ((subsL M).map (dpN m)).foldr max 0 ≤ (ts.map (dpN (m + 1))).foldr max 0 - 1 := foldr_max_le fun d hd => by
    obtain ⟨x, hx, rfl⟩ := List.mem_map.1 hd
    obtain ⟨m1, hm1, hx⟩ := mem_subsL.1 hx
    obtain ⟨t1, ht1, hk1, rfl⟩ := mem_msgsL.1 (h.1.subset hm1)
    have h2 : dpN (m + 1) t1 ≤ (ts.map (dpN (m + 1))).foldr max 0 := le_foldr_max (List.mem_map_of_mem ht1)
    have h3 : dpN m x ≤ ((subs t1.es).map (dpN m)).foldr max 0 := le_foldr_max (List.mem_map_of_mem hx)
    have h4 : dpN (m + 1) t1 = 1 + ((subs t1.es).map (dpN m)).foldr max 0 := by simp [dpN, hk1]
    rw [h4] at h2
    omega
   omega
theorem cntL_zero : ∀ ts : List Tr, cntL 0 ts = 0
 | [] => rfl
 | t :: l => by
  have := cntL_zero l
  simp only [cntL, List.map_cons, List.sum_cons, cntN] at this ⊢
  omega
theorem cntL_append (m : Nat) (a b : List Tr) : cntL m (a ++ b) = cntL m a + cntL m b := by simp [cntL, List.sum_append]
theorem cnt_msgs (m : Nat) : ∀ ts : List Tr, cntL m (subsL (msgsL ts)) ≤ cntL (m + 1) ts
 | [] => by simp [cntL, subsL, msgsL]
 | t :: ts => by
  have ih := cnt_msgs m ts
  have h1 : cntL (m + 1) (t :: ts) = 1 + cntL m (subs t.es) + cntL (m + 1) ts := by simp [cntL, cntN]
  by_cases hk : t.kind = 3
  ·have h2 : subsL (msgsL (t :: ts)) = subs t.es ++ subsL (msgsL ts) := by simp [msgsL, hk, subsL]
   rw [h1, h2, cntL_append]
   omega
  ·have h2 : msgsL (t :: ts) = msgsL ts := by simp [msgsL, hk]
   rw [h1, h2]
   omega
theorem cnt_sub {m : Nat} {M M' : List (List (Int × List Tr))} (h : M.Sublist M') : cntL m (subsL M) ≤ cntL m (subsL M') := by
 induction h with
 | slnil => simp
 | cons a _ ih => simp only [subsL, List.flatMap_cons, cntL_append] at *; omega
 | cons_cons a _ ih => simp only [subsL, List.flatMap_cons, cntL_append] at *; omega
theorem cnt_step {m : Nat} {ts : List Tr} {M : List (List (Int × List Tr))} (h : MsgS ts M) : cntL m (subsL M) ≤ cntL (m + 1) ts := Nat.le_trans (cnt_sub h.1) (cnt_msgs m ts)
theorem len_cnt {m : Nat} {w : World} {v : Value} {ts : List Tr} (h : TrsQ m w v ts) : ts.length ≤ cntL m ts := by
 cases m with
 | zero =>
  cases ts with
  | nil => simp
  | cons t l =>
   obtain ⟨rows, _, _, h3⟩ := h
   obtain ⟨r, _, hp⟩ := h3 0 t rfl
   exact hp.elim
 | succ m => exact len_le_sum fun x hx => by simp [cntN]
theorem len_subsL {m : Nat} {w : World} {v : Value} {M : List (List (Int × List Tr))} (h : LvQ m w v M) : (subsL M).length ≤ cntL m (subsL M) := by
 cases m with
 | zero =>
  cases hs : subsL M with
  | nil => simp
  | cons t l =>
   have ht : t ∈ subsL M := by rw [hs]; simp
   obtain ⟨m0, hm0, hx⟩ := mem_subsL.1 ht
   obtain ⟨e, he, hx⟩ := mem_subs.1 hx
   obtain ⟨rows, _, _, h3⟩ := h
   obtain ⟨i, hi, ei⟩ := List.getElem_of_mem hm0
   obtain ⟨r, _, ve, rfl, hE, _⟩ := h3 i m0 (by rw [List.getElem?_eq_getElem hi, ei])
   obtain ⟨rows2, _, _, h4⟩ := hE
   obtain ⟨j, hj, ej⟩ := List.getElem_of_mem he
   obtain ⟨r2, _, vt, rfl, _, hT⟩ := h4 j e (by rw [List.getElem?_eq_getElem hj, ej])
   obtain ⟨rows3, _, _, h5⟩ := hT
   obtain ⟨k, hk, ek⟩ := List.getElem_of_mem hx
   obtain ⟨r3, _, hq⟩ := h5 k t (by rw [List.getElem?_eq_getElem hk, ek])
   exact hq.elim
 | succ m => exact len_le_sum fun x hx => by simp [cntN]
theorem messages_any (n : Nat) (v : Value) (ts : List Tr) (w : World) (h : TrsQ n w v ts) (hl : ts.length ≤ 5000) : Calls Tryz.prog 115 #[v] w (MsgP (n - 1) ts w) := by
 cases n with
 | zero =>
  have : ts = [] := by
   cases ts with
   | nil => rfl
   | cons t l =>
    obtain ⟨rows, _, _, h3⟩ := h
    obtain ⟨r, _, hp⟩ := h3 0 t rfl
    exact hp.elim
  subst this
  exact messages_step 0 v [] w (h.imp fun r x hx => by cases hx) hl
 | succ n => exact messages_step n v ts w h hl
theorem one_row {n : Nat} {w : World} {g : Nat} {r : List Value} {t : Tr} {ty : TypeId} (hb : Blk w g r.toArray ty) (h : TrQ n w r t) : TrsQ n w (.slice (some ⟨g, 0, none⟩) 1 1) [t] := by
  refine ⟨[r], ⟨some ⟨g, 0, none⟩, 1, rfl, by simp, by unfold maxLen; omega, by simp, fun _ => ⟨g, 0, rfl, fun i c u j hi hj => ?_⟩⟩, rfl, fun i x hx => ?_⟩
  · cases i with
    | zero =>
      obtain rfl : r = c := by simpa using hi
      rw [hb.cell]
      simpa using hj
    | succ i => simp at hi
  · cases i with
    | zero => obtain rfl : t = x := by simpa using hx
              exact ⟨r, rfl, h⟩
    | succ i => simp at hx
def TrV2 (n : Nat) (w : World) (v : Value) (t : Tr) : Prop := ∃ r, v = .agg r.toArray ∧ TrQ n w r t
theorem TrV2.open {n : Nat} {w : World} {v : Value} {t : Tr} (h : TrV2 n w v t) : ∃ ea el ec ra rl rc, v = .agg #[.int .i64 t.kind, .int .i64 t.n, .string t.s, .slice ea el ec, .slice ra rl rc] ∧ TrQ n w [.int .i64 t.kind, .int .i64 t.n, .string t.s, .slice ea el ec, .slice ra rl rc] t := by
 obtain ⟨r, rfl, h⟩ := h
 cases n with
 | zero => exact h.elim
 | succ n =>
  have h' := h
  obtain ⟨ve, vr, rfl, _, _, _, _, h6, h7, _⟩ := h
  obtain ⟨a1, c1, rfl, _⟩ := RowP.open h7
  obtain ⟨a2, c2, rfl, _⟩ := h6.form2
  exact ⟨_, _, _, _, _, _, rfl, h'⟩
theorem TrV2.below {n : Nat} {w w1 : World} {v : Value} {t : Tr} (h : TrV2 n w v t) (hb : Below w.heap.size w w1) : TrV2 n w1 v t := by
 obtain ⟨r, h1, h2⟩ := h
 exact ⟨r, h1, h2.below hb⟩
set_option maxHeartbeats 4000000 in
theorem depth_any (n : Nat) (t : Tr) (v : Value) (w : World) (h : TrV2 n w v t) (hn : n ≤ 60) (hc : cntN n t ≤ 5000) :
  Calls Tryz.prog 113 #[v] w fun e w' => e = .returned (.int .i64 (dpN n t : Int)) ∧ Below w.heap.size w w' := by
 obtain ⟨ea, el, ec, ra, rl, rc, rfl, hq⟩ := h.open
 have HQ : Hid (TrQ n w [.int .i64 t.kind, .int .i64 t.n, .string t.s, .slice ea el ec, .slice ra rl rc] t) := hq
 have HC : Hid (cntN n t ≤ 5000) := hc
 obtain ⟨m, rfl⟩ : ∃ m, n = m + 1 := by
  cases n with
  | zero => exact hq.elim
  | succ m => exact ⟨m, rfl⟩
 clear h hq hc
 obtain ⟨D, hD⟩ : ∃ D, dpN (m + 1) t = D := ⟨_, rfl⟩
 have HD : Hid (dpN (m + 1) t = D) := hD
 have hD60 : D ≤ 60 := by have := dpN_le (m + 1) t; omega
 rw [hD]
 clear hD
 generalize t.kind = K at *
 generalize t.n = N at *
 generalize t.s = S at *
 go_enter Tryz.func113, Tryz.ntmps113
 go_wp2_with fail
 have hw2 : Below w.heap.size w ((w.alloc (Obj.cells #[.int .i64 K, .int .i64 N, .string S, .slice ea el ec, .slice ra rl rc] 39)).alloc (Obj.cells #[.int .i64 K, .int .i64 N, .string S, .slice ea el ec, .slice ra rl rc] 39)) := ((Below.refl _ _).alloc (Nat.le_refl _) _).alloc (by simp) _
 refine (messages_any (m + 1) _ [t] _ (one_row (blk_new2T w _ _ _) (HQ.out.below hw2)) (by simp)).mono ?_
 rintro e w1 ⟨lv, M, rfl, hM, hS, hb1⟩
 have hb : Below w.heap.size w w1 := hw2.trans (hb1.mono hw2.size)
 have H0 : Hid (LvQ m w1 lv M) := hM
 have hdp : 0 + dpL m M = D := by
  rw [← HD.out, ← dp_step hS]
  simp
 have hcn : cntL m (subsL M) ≤ 5000 := Nat.le_trans (cnt_step hS) (by have := HC.out; simpa [cntL] using this)
 have H1 : Hid (0 + dpL m M = D) := hdp
 obtain ⟨la, lc, rfl, l1, l2, -⟩ := RowP.open hM
 clear hM hS hb1 hw2 hdp HQ HC HD
 go_wp2_with fail
 go_loopw [3, 4] (fun dv lv wr => ∃ (d m : Nat) (M : List (List (Int × List Tr))), dv = .int .i64 (d : Int) ∧ Hid (LvQ m wr lv M) ∧ Hid (d + dpL m M = D) ∧ Hid (cntL m (subsL M) ≤ 5000) ∧ d ≤ D ∧ Below w.heap.size w wr) (fun dv _ _ => 101 - (intOf dv).toNat)
 case atStart => exact ⟨0, m, M, rfl, H0, H1, hcn, by omega, hb⟩
 case round =>
  clear H0 H1 hcn hb l1 l2
  obtain ⟨d, m, M, rfl, HL, HD, HC, hdD, hb⟩ := hrel
  obtain ⟨la, lc, rfl, l1, l2, -⟩ := RowP.open HL.out
  unfold maxLen at l2
  have hd1 : decide ((d : Int) ≤ 100) = true := by simp; omega
  obtain ⟨Ml, hMl⟩ : ∃ k, M.length = k := ⟨_, rfl⟩
  rw [hMl] at l1
  have HL' : Hid (LvQ m wr (.slice la Ml lc) M) := (by rw [← hMl]; exact HL.out : LvQ m wr (.slice la Ml lc) M)
  rw [hMl]
  have HMl : Hid (M.length = Ml) := hMl
  clear hMl HL
  by_cases h0 : Ml = 0
  ·subst h0
   have hM0 : M = [] := List.eq_nil_of_length_eq_zero HMl.out
   have hdd : d = D := by have := HD.out; rw [hM0] at this; simpa [dpL] using this
   have HDD : Hid (d = D) := hdd
   clear hM0 hdd
   go_wp2_with fail
   go_ret
   refine ⟨?_, hb⟩
   have := HDD.out
   subst this
   rfl
  ·have hpos : 0 < Ml := by omega
   have hd2 : decide (0 < (Ml : Int)) = true := by simp; omega
   have hne : M ≠ [] := fun e => h0 (by rw [← HMl.out, e]; rfl)
   have hdpM : dpL m M = 1 + ((subsL M).map (dpN m)).foldr max 0 := by rw [dpL, if_neg hne]
   have HDP : Hid (d + (1 + ((subsL M).map (dpN m)).foldr max 0) = D) := (by rw [← hdpM]; exact HD.out : d + (1 + ((subsL M).map (dpN m)).foldr max 0) = D)
   have hlen := len_subsL HL'.out
   have hlen2 : (subsL M).length ≤ 5000 := Nat.le_trans hlen HC.out
   have HI : Hid (Calls Tryz.prog 114 #[.slice la Ml lc] wr (InsP m M wr)) := inside_any m _ M wr HL'.out hlen2
   have HLN : Hid ((subsL M).length ≤ 5000) := hlen2
   clear hlen hlen2 hdpM hne HD
   go_wp2_with fail
   refine HI.out.mono ?_
   rintro e w2 ⟨iv, rfl, hT, hb2⟩
   have HM2 : Hid (Calls Tryz.prog 115 #[iv] w2 (MsgP (m - 1) (subsL M) w2)) := messages_any m iv (subsL M) w2 hT HLN.out
   have hbw2 : Below w.heap.size w w2 := hb.trans (hb2.mono hb.size)
   obtain ⟨ia, ic, rfl, -⟩ := RowP.open hT
   clear hT hb2 HI hb
   generalize (subsL M).length = Sl at HM2 ⊢
   go_wp2_with fail
   refine HM2.out.mono ?_
   rintro e w3 ⟨lv3, M3, rfl, hL3, hS3, hb3⟩
   have hbw3 : Below w.heap.size w w3 := hbw2.trans (hb3.mono hbw2.size)
   have HD3 : Hid (d + 1 + dpL (m - 1) M3 = D) := by
    show _ = _
    cases m with
    | zero =>
     have h00 : subsL M = [] := by
      have := len_subsL HL'.out
      have h1 : cntL 0 (subsL M) = 0 := cntL_zero _
      exact List.eq_nil_of_length_eq_zero (by omega)
     have hM3 : M3 = [] := by
      have := hS3.1
      rw [h00] at this
      simpa [msgsL] using this
     have := HDP.out
     rw [h00] at this
     rw [hM3]
     simpa [dpL] using this
    | succ m =>
     have h1 := dp_step (m := m) hS3
     have := HDP.out
     simp only [Nat.add_sub_cancel]
     omega
   have HC3 : Hid (cntL (m - 1) (subsL M3) ≤ 5000) := by
    show _ ≤ _
    cases m with
    | zero =>
     have h1 : cntL 0 (subsL M3) = 0 := cntL_zero _
     simp only [Nat.zero_sub]
     omega
    | succ m => exact Nat.le_trans (cnt_step (m := m) hS3) HC.out
   have hdD3 : d + 1 ≤ D := by have := HD3.out; omega
   have HL3 : Hid (LvQ (m - 1) w3 lv3 M3) := hL3
   clear hL3 hS3 hb3 hbw2 HM2 HC HDP HL'
   go_wp2_with fail
   go_roundw
   case rel => exact ⟨d + 1, m - 1, M3, by go_num, HL3, HD3, HC3, hdD3, hbw3⟩
   case measure => simp [intOf]; omega
def FunP (n : Nat) (w : World) (ts : List Tr) (f : FuncId) (caps : List Value) (p : Tr → Bool) : Prop :=
 ∀ W x r, Below w.heap.size w W → x ∈ ts → TrQ n W r x → Calls Tryz.prog f (.agg r.toArray :: caps).toArray W fun e w' => e = .returned (.bool (p x)) ∧ Below W.heap.size W w'
set_option maxHeartbeats 2000000 in
theorem indexW_any (n : Nat) (v : Value) (ts : List Tr) (w : World) (p : Tr → Bool) (h : TrsQ n w v ts) (hf : FunP n w ts 117 [] p) :
  Calls Tryz.prog 128 #[v, .func (.func 117) #[] #[]] w fun e w' => (∃ k : Int, e = .returned (.int .i64 k) ∧ (0 ≤ k ↔ ts.any p = true)) ∧ Below w.heap.size w w' := by
 obtain ⟨a, cap, rfl, h1, h2, -⟩ := RowP.open h
 obtain ⟨N, hN⟩ : ∃ N, ts.length = N := ⟨_, rfl⟩
 rw [hN] at h1 ⊢
 have HH : Hid (TrsQ n w (.slice a N cap) ts) := (by rw [← hN]; exact h : TrsQ n w (.slice a N cap) ts)
 have HN : Hid (ts.length = N) := hN
 have HF : Hid (FunP n w ts 117 [] p) := hf
 unfold maxLen at h2
 clear h hN hf
 go_enter Tryz.func128, Tryz.ntmps128
 go_wp2_with fail
 go_loopw [8] (fun iv wr => ∃ i : Nat, iv = .int .i64 (i : Int) ∧ i ≤ N ∧ Hid (∀ x ∈ ts.take i, p x = false) ∧ Below w.heap.size w wr) (fun iv _ => N - (intOf iv).toNat)
 case atStart => exact ⟨0, rfl, by omega, (by simp : ∀ x ∈ ts.take 0, p x = false), Below.refl _ _⟩
 case round =>
  obtain ⟨i, rfl, hi, HI, hbel⟩ := hrel
  by_cases hlt : i < N
  ·obtain ⟨t, ht⟩ : ∃ r, ts[i]? = some r := ⟨_, List.getElem?_eq_getElem (by rw [HN.out]; exact hlt)⟩
   obtain ⟨g, off, rfl, r, hr, hc⟩ := (HH.out.belowTQ hbel).get ht
   have h5 := hr.five
   obtain ⟨r0, r1, r2, r3, r4, rfl⟩ : ∃ a b c d e, r = [a, b, c, d, e] := by
    match r, h5.1 with
    | [a, b, c, d, e], _ => exact ⟨a, b, c, d, e, rfl⟩
   have o0 := h5.2 r0 (by simp)
   have o1 := h5.2 r1 (by simp)
   have o2 := h5.2 r2 (by simp)
   have o3 := h5.2 r3 (by simp)
   have o4 := h5.2 r4 (by simp)
   obtain ⟨ea, el, ec, ra, rl, rc, e1, -⟩ := TrV2.open ⟨_, rfl, hr⟩
   simp only [Value.agg.injEq, Array.mk.injEq, List.cons.injEq, and_true] at e1
   obtain ⟨rfl, rfl, rfl, rfl, rfl⟩ := e1
   have c0 := hc 0 _ rfl
   have c1 := hc 1 _ rfl
   have c2 := hc 2 _ rfl
   have c3 := hc 3 _ rfl
   have c4 := hc 4 _ rfl
   simp only [Nat.add_zero] at c0
   have HC := HF.out wr t _ hbel (List.mem_of_getElem? ht) hr
   have HCC : Hid _ := HC
   have HT : Hid (ts.take (i + 1) = ts.take i ++ [t]) := take_atQ ht
   have HTM : Hid (t ∈ ts) := List.mem_of_getElem? ht
   clear hc h5 o0 o1 o2 o3 o4 HC ht hr
   obtain ⟨R, hR⟩ : ∃ R, p t = R := ⟨_, rfl⟩
   have HR : Hid (p t = R) := hR
   clear hR
   go_wp2_with fail
   refine Calls.mono HCC.out ?_
   rintro e w2 ⟨rfl, hb2⟩
   rw [HR.out]
   have hbw : Below w.heap.size w w2 := hbel.trans (hb2.mono hbel.size)
   clear HCC hb2 c0 c1 c2 c3 c4 hbel
   cases R with
   | true =>
    go_wp2_with fail
    go_ret
    exact ⟨⟨_, rfl, by simp only [Int.natCast_nonneg, true_iff]; exact List.any_eq_true.2 ⟨t, HTM.out, HR.out⟩⟩, hbw⟩
   | false =>
    go_wp2_with fail
    go_roundw
    case rel => exact ⟨i + 1, by go_num, by omega, (by
     rw [HT.out]
     intro x hx
     rcases List.mem_append.1 hx with hx | hx
     ·exact HI.out x hx
     ·obtain rfl : x = t := by simpa using hx
      exact HR.out : ∀ x ∈ ts.take (i + 1), p x = false), hbw⟩
    case measure => simp [intOf]; omega
  ·go_wp2_with fail
   go_ret
   have h5 := HI.out
   rw [List.take_of_length_le (by rw [HN.out]; omega)] at h5
   refine ⟨⟨-1, rfl, ?_⟩, hbel⟩
   have : ts.any p = false := by rw [List.any_eq_false]; intro x hx; rw [h5 x hx]; simp
   rw [this]
   simp
theorem containsW_any (n : Nat) (v : Value) (ts : List Tr) (w : World) (p : Tr → Bool) (h : TrsQ n w v ts) (hf : FunP n w ts 117 [] p) :
  Calls Tryz.prog 116 #[v, .func (.func 117) #[] #[]] w fun e w' => e = .returned (.bool (ts.any p)) ∧ Below w.heap.size w w' := by
 have HI : Hid _ := indexW_any n v ts w p h hf
 obtain ⟨a, cap, rfl, h1, h2, -⟩ := RowP.open h
 clear h hf
 generalize ts.length = N at *
 obtain ⟨R, hR⟩ : ∃ R, ts.any p = R := ⟨_, rfl⟩
 rw [hR] at HI ⊢
 clear hR
 go_enter Tryz.func116, Tryz.ntmps116
 go_wp2_with fail
 refine Calls.mono HI.out ?_
 rintro e w2 ⟨⟨k, rfl, hk⟩, hb⟩
 clear HI
 have hd : decide (0 ≤ k) = R := by
  cases R
  ·simpa using hk
  ·simpa using hk
 clear hk
 go_wp2_with fail
 go_ret
 exact ⟨rfl, hb⟩
set_option maxHeartbeats 2000000 in
theorem indexK_any (b : Nat) (n : Nat) (v : Value) (ts : List Tr) (w : World) (p : Tr → Bool) (h : TrsQ n w v ts) (hf : FunP n w ts 154 [.pointer (some ⟨b, 0, none⟩)] p) :
  Calls Tryz.prog 128 #[v, .func (.func 154) #[] #[.pointer (some ⟨b, 0, none⟩)]] w fun e w' => (∃ k : Int, e = .returned (.int .i64 k) ∧ (0 ≤ k ↔ ts.any p = true)) ∧ Below w.heap.size w w' := by
 obtain ⟨a, cap, rfl, h1, h2, -⟩ := RowP.open h
 obtain ⟨N, hN⟩ : ∃ N, ts.length = N := ⟨_, rfl⟩
 rw [hN] at h1 ⊢
 have HH : Hid (TrsQ n w (.slice a N cap) ts) := (by rw [← hN]; exact h : TrsQ n w (.slice a N cap) ts)
 have HN : Hid (ts.length = N) := hN
 have HF : Hid (FunP n w ts 154 [.pointer (some ⟨b, 0, none⟩)] p) := hf
 unfold maxLen at h2
 clear h hN hf
 go_enter Tryz.func128, Tryz.ntmps128
 go_wp2_with fail
 go_loopw [8] (fun iv wr => ∃ i : Nat, iv = .int .i64 (i : Int) ∧ i ≤ N ∧ Hid (∀ x ∈ ts.take i, p x = false) ∧ Below w.heap.size w wr) (fun iv _ => N - (intOf iv).toNat)
 case atStart => exact ⟨0, rfl, by omega, (by simp : ∀ x ∈ ts.take 0, p x = false), Below.refl _ _⟩
 case round =>
  obtain ⟨i, rfl, hi, HI, hbel⟩ := hrel
  by_cases hlt : i < N
  ·obtain ⟨t, ht⟩ : ∃ r, ts[i]? = some r := ⟨_, List.getElem?_eq_getElem (by rw [HN.out]; exact hlt)⟩
   obtain ⟨g, off, rfl, r, hr, hc⟩ := (HH.out.belowTQ hbel).get ht
   have h5 := hr.five
   obtain ⟨r0, r1, r2, r3, r4, rfl⟩ : ∃ a b c d e, r = [a, b, c, d, e] := by
    match r, h5.1 with
    | [a, b, c, d, e], _ => exact ⟨a, b, c, d, e, rfl⟩
   have o0 := h5.2 r0 (by simp)
   have o1 := h5.2 r1 (by simp)
   have o2 := h5.2 r2 (by simp)
   have o3 := h5.2 r3 (by simp)
   have o4 := h5.2 r4 (by simp)
   obtain ⟨ea, el, ec, ra, rl, rc, e1, -⟩ := TrV2.open ⟨_, rfl, hr⟩
   simp only [Value.agg.injEq, Array.mk.injEq, List.cons.injEq, and_true] at e1
   obtain ⟨rfl, rfl, rfl, rfl, rfl⟩ := e1
   have c0 := hc 0 _ rfl
   have c1 := hc 1 _ rfl
   have c2 := hc 2 _ rfl
   have c3 := hc 3 _ rfl
   have c4 := hc 4 _ rfl
   simp only [Nat.add_zero] at c0
   have HC := HF.out wr t _ hbel (List.mem_of_getElem? ht) hr
   have HCC : Hid _ := HC
   have HT : Hid (ts.take (i + 1) = ts.take i ++ [t]) := take_atQ ht
   have HTM : Hid (t ∈ ts) := List.mem_of_getElem? ht
   clear hc h5 o0 o1 o2 o3 o4 HC ht hr
   obtain ⟨R, hR⟩ : ∃ R, p t = R := ⟨_, rfl⟩
   have HR : Hid (p t = R) := hR
   clear hR
   go_wp2_with fail
   refine Calls.mono HCC.out ?_
   rintro e w2 ⟨rfl, hb2⟩
   rw [HR.out]
   have hbw : Below w.heap.size w w2 := hbel.trans (hb2.mono hbel.size)
   clear HCC hb2 c0 c1 c2 c3 c4 hbel
   cases R with
   | true =>
    go_wp2_with fail
    go_ret
    exact ⟨⟨_, rfl, by simp only [Int.natCast_nonneg, true_iff]; exact List.any_eq_true.2 ⟨t, HTM.out, HR.out⟩⟩, hbw⟩
   | false =>
    go_wp2_with fail
    go_roundw
    case rel => exact ⟨i + 1, by go_num, by omega, (by
     rw [HT.out]
     intro x hx
     rcases List.mem_append.1 hx with hx | hx
     ·exact HI.out x hx
     ·obtain rfl : x = t := by simpa using hx
      exact HR.out : ∀ x ∈ ts.take (i + 1), p x = false), hbw⟩
    case measure => simp [intOf]; omega
  ·go_wp2_with fail
   go_ret
   have h5 := HI.out
   rw [List.take_of_length_le (by rw [HN.out]; omega)] at h5
   refine ⟨⟨-1, rfl, ?_⟩, hbel⟩
   have : ts.any p = false := by rw [List.any_eq_false]; intro x hx; rw [h5 x hx]; simp
   rw [this]
   simp
theorem containsK_any (b : Nat) (n : Nat) (v : Value) (ts : List Tr) (w : World) (p : Tr → Bool) (h : TrsQ n w v ts) (hf : FunP n w ts 154 [.pointer (some ⟨b, 0, none⟩)] p) :
  Calls Tryz.prog 116 #[v, .func (.func 154) #[] #[.pointer (some ⟨b, 0, none⟩)]] w fun e w' => e = .returned (.bool (ts.any p)) ∧ Below w.heap.size w w' := by
 have HI : Hid _ := indexK_any b n v ts w p h hf
 obtain ⟨a, cap, rfl, h1, h2, -⟩ := RowP.open h
 clear h hf
 generalize ts.length = N at *
 obtain ⟨R, hR⟩ : ∃ R, ts.any p = R := ⟨_, rfl⟩
 rw [hR] at HI ⊢
 clear hR
 go_enter Tryz.func116, Tryz.ntmps116
 go_wp2_with fail
 refine Calls.mono HI.out ?_
 rintro e w2 ⟨⟨k, rfl, hk⟩, hb⟩
 clear HI
 have hd : decide (0 ≤ k) = R := by
  cases R
  ·simpa using hk
  ·simpa using hk
 clear hk
 go_wp2_with fail
 go_ret
 exact ⟨rfl, hb⟩
def cmpI (a b : Int) : Int := if a < b then -1 else if b < a then 1 else 0
theorem nan_any (a : Int) (w : World) : Calls Tryz.prog 153 #[.int .i64 a] w fun e w' => e = .returned (.bool false) ∧ w' = w := by
 go_enter Tryz.func153, Tryz.ntmps153
 go_wp2
 go_ret
 exact ⟨rfl, rfl⟩
theorem compare_any (a b : Int) (w : World) : Calls Tryz.prog 157 #[.int .i64 a, .int .i64 b] w fun e w' => e = .returned (.int .i64 (cmpI a b)) ∧ w' = w := by
 by_cases h1 : a < b
 ·go_enter Tryz.func157, Tryz.ntmps157
  go_wp2_with (first | (go_at_call 153; refine (nan_any _ _).mono ?_; rintro e w' ⟨rfl, rfl⟩) | fail)
  go_ret
  exact ⟨by simp [cmpI, h1], rfl⟩
 ·by_cases h2 : b < a
  ·go_enter Tryz.func157, Tryz.ntmps157
   go_wp2_with (first | (go_at_call 153; refine (nan_any _ _).mono ?_; rintro e w' ⟨rfl, rfl⟩) | fail)
   go_ret
   exact ⟨by simp [cmpI, h1, h2], rfl⟩
  ·have HC : Hid (cmpI a b = 0) := (by simp [cmpI, h1, h2] : cmpI a b = 0)
   rw [HC.out]
   go_enter Tryz.func157, Tryz.ntmps157
   go_wp2_with (first | (go_at_call 153; refine (nan_any _ _).mono ?_; rintro e w' ⟨rfl, rfl⟩) | fail)
   go_ret
   exact ⟨rfl, rfl⟩
theorem tagc_any (a b : Int) (p : Option Addr) (n c : Nat) (w : World) : Calls Tryz.prog 156 #[.agg #[.int .i64 a, .slice p n c], .int .i64 b] w fun e w' => e = .returned (.int .i64 (cmpI a b)) ∧ Below w.heap.size w w' := by
 go_enter Tryz.func156, Tryz.ntmps156
 go_wp2_with (first | (go_at_call 157; refine (compare_any _ _ _).mono ?_; rintro e w' ⟨rfl, rfl⟩) | fail)
 go_ret
 exact ⟨rfl, (Below.refl _ _).alloc (Nat.le_refl _) _⟩
def RisT (es : List (Int × List Tr)) : Prop := ∀ (i j : Nat) (x y : Int × List Tr), i < j → es[i]? = some x → es[j]? = some y → x.1 < y.1
theorem cmp_lt (a b : Int) : cmpI a b < 0 ↔ a < b := by
 unfold cmpI
 by_cases h1 : a < b
 ·simp [h1]
 ·by_cases h2 : b < a
  ·simp [h1, h2]
  ·simp [h1, h2]
theorem cmp_eq (a b : Int) : cmpI a b = 0 ↔ a = b := by
 unfold cmpI
 by_cases h1 : a < b
 ·simp [h1]; omega
 ·by_cases h2 : b < a
  ·simp [h1, h2]; omega
  ·simp [h1, h2]; omega
theorem ents_low : ∀ (es : List (Int × List Tr)) (last : Int), entsB last es = true → ∀ x ∈ es, last < x.1
 | [], _, _, x, hx => by cases hx
 | e :: l, last, h, x, hx => by
  simp only [entsB, Bool.and_eq_true, decide_eq_true_eq] at h
  rcases List.mem_cons.1 hx with rfl | hx
  ·exact h.1.1.1.1.1
  ·exact Int.lt_trans h.1.1.1.1.1 (ents_low l e.1 h.2 x hx)
theorem ents_ris : ∀ (es : List (Int × List Tr)) (last : Int), entsB last es = true → RisT es
 | [], _, _ => by intro i j x y _ h; simp at h
 | e :: l, last, h => by
  simp only [entsB, Bool.and_eq_true, decide_eq_true_eq] at h
  intro i j x y hij hx hy
  cases j with
  | zero => omega
  | succ j =>
   simp only [List.getElem?_cons_succ] at hy
   cases i with
   | zero =>
    obtain rfl : e = x := by simpa using hx
    exact ents_low l e.1 h.2 y (List.mem_of_getElem? hy)
   | succ i => exact ents_ris l e.1 h.2 i j x y (by omega) (by simpa using hx) hy
set_option maxHeartbeats 2000000 in
theorem bin_any (n : Nat) (v : Value) (es : List (Int × List Tr)) (tag : Int) (w : World) (h : EnsQ n w v es) (hr : RisT es) (hl : es.length ≤ 1000000) :
  Calls Tryz.prog 155 #[v, .int .i64 tag, .func (.func 156) #[] #[]] w fun e w' => (∃ k : Int, e = .returned (.tuple #[.int .i64 k, .bool (hasB es tag)])) ∧ Below w.heap.size w w' := by
 obtain ⟨a, cap, rfl, h1, h2, -⟩ := RowP.open h
 obtain ⟨N, hN⟩ : ∃ N, es.length = N := ⟨_, rfl⟩
 rw [hN] at h1 hl ⊢
 have HH : Hid (EnsQ n w (.slice a N cap) es) := (by rw [← hN]; exact h : EnsQ n w (.slice a N cap) es)
 have HN : Hid (es.length = N) := hN
 have HR : Hid (RisT es) := hr
 unfold maxLen at h2
 obtain ⟨R0, hR0⟩ : ∃ R0, hasB es tag = R0 := ⟨_, rfl⟩
 have HR0 : Hid (hasB es tag = R0) := hR0
 rw [hR0]
 clear h hN hr hR0
 go_enter Tryz.func155, Tryz.ntmps155
 go_wp2_with fail
 go_loopw [9, 10] (fun iv jv wr => ∃ i j : Nat, iv = .int .i64 (i : Int) ∧ jv = .int .i64 (j : Int) ∧ i ≤ j ∧ j ≤ N ∧ Hid (∀ (k : Nat) (x : Int × List Tr), k < i → es[k]? = some x → x.1 < tag) ∧ Hid (∀ (k : Nat) (x : Int × List Tr), j ≤ k → es[k]? = some x → tag ≤ x.1) ∧ Below w.heap.size w wr) (fun iv jv _ => (intOf jv - intOf iv).toNat)
 case atStart => exact ⟨0, N, rfl, rfl, by omega, by omega, (fun k x hk => absurd hk (by omega) : ∀ (k : Nat) (x : Int × List Tr), k < 0 → es[k]? = some x → x.1 < tag), (fun k x hk hx => by have := (List.getElem?_eq_some_iff.1 hx).1; rw [HN.out] at this; omega : ∀ (k : Nat) (x : Int × List Tr), N ≤ k → es[k]? = some x → tag ≤ x.1), Below.refl _ _⟩
 case round =>
  obtain ⟨i, j, rfl, rfl, hij, hjN, HI, HJ, hbel⟩ := hrel
  by_cases hlt : i < j
  ·obtain ⟨q, hq⟩ : ∃ q : Nat, q = (i + j) / 2 := ⟨_, rfl⟩
   have hq1 : i ≤ q := by omega
   have hq2 : q < j := by omega
   obtain ⟨x, hx⟩ : ∃ r, es[q]? = some r := ⟨_, List.getElem?_eq_getElem (by rw [HN.out]; omega)⟩
   obtain ⟨g, off, rfl, r, ⟨vt, rfl, -, ht⟩, hc⟩ := (HH.out.belowEQ hbel).get hx
   obtain ⟨ta, tc, rfl, -⟩ := RowP.open ht
   have c0 := hc 0 _ rfl
   have c1 := hc 1 _ rfl
   simp only [Nat.add_zero] at c0
   have hqi : ((i : Int) + (j : Int)) / 2 = (q : Int) := by omega
   have HX : Hid (es[q]? = some x) := hx
   clear hc ht hx
   generalize x.2.length = Xl at *
   obtain ⟨xt, hxt⟩ : ∃ z, x.1 = z := ⟨_, rfl⟩
   rw [hxt] at c0
   have HXT : Hid (x.1 = xt) := hxt
   clear hxt hq
   obtain ⟨c, hcc⟩ : ∃ c, cmpI xt tag = c := ⟨_, rfl⟩
   have HCA : Hid (∀ W, Calls Tryz.prog 156 #[.agg #[.int .i64 xt, .slice ta Xl tc], .int .i64 tag] W fun e w' => e = .returned (.int .i64 c) ∧ Below W.heap.size W w') := fun W => by
    rw [← hcc]; exact tagc_any xt tag ta Xl tc W
   have hc0 : c < 0 ↔ xt < tag := by rw [← hcc]; exact cmp_lt xt tag
   clear hcc
   by_cases hxl : xt < tag
   ·have hdc : decide (c < 0) = true := by simp [hc0, hxl]
    clear hc0
    go_wp2_with fail
    refine (HCA.out _).mono ?_
    rintro e w2 ⟨rfl, hb2⟩
    have hbw : Below w.heap.size w w2 := hbel.trans (hb2.mono hbel.size)
    clear hb2 hbel c0 c1 HCA
    go_wp2_with fail
    go_roundw
    case rel => exact ⟨q + 1, j, by go_num, rfl, by omega, hjN, (fun k y hk hy => by
     rcases Nat.lt_or_eq_of_le (Nat.le_of_lt_succ hk) with h | h
     ·exact Int.lt_trans (HR.out k q y x h hy HX.out) (by rw [HXT.out]; exact hxl)
     ·subst h; rw [HX.out] at hy; cases hy; rw [HXT.out]; exact hxl : ∀ (k : Nat) (x : Int × List Tr), k < q + 1 → es[k]? = some x → x.1 < tag), HJ, hbw⟩
    case measure => simp [intOf]; omega
   ·have hdc : decide (c < 0) = false := by simp; exact Int.not_lt.1 (fun h => hxl (hc0.1 h))
    clear hc0
    go_wp2_with fail
    refine (HCA.out _).mono ?_
    rintro e w2 ⟨rfl, hb2⟩
    have hbw : Below w.heap.size w w2 := hbel.trans (hb2.mono hbel.size)
    clear hb2 hbel c0 c1 HCA
    go_wp2_with fail
    go_roundw
    case rel => exact ⟨i, q, rfl, rfl, by omega, by omega, HI, (fun k y hk hy => by
     rcases Nat.lt_or_eq_of_le hk with h | h
     ·have := HR.out q k x y h HX.out hy
      rw [HXT.out] at this
      omega
     ·subst h; rw [HX.out] at hy; cases hy; rw [HXT.out]; omega : ∀ (k : Nat) (x : Int × List Tr), q ≤ k → es[k]? = some x → tag ≤ x.1), hbw⟩
    case measure => simp [intOf]; omega
  ·obtain rfl : i = j := by omega
   by_cases hiN : i < N
   ·obtain ⟨x, hx⟩ : ∃ r, es[i]? = some r := ⟨_, List.getElem?_eq_getElem (by rw [HN.out]; omega)⟩
    obtain ⟨g, off, rfl, r, ⟨vt, rfl, -, ht⟩, hc⟩ := (HH.out.belowEQ hbel).get hx
    obtain ⟨ta, tc, rfl, -⟩ := RowP.open ht
    have c0 := hc 0 _ rfl
    have c1 := hc 1 _ rfl
    simp only [Nat.add_zero] at c0
    have HX : Hid (es[i]? = some x) := hx
    clear hc ht hx
    generalize x.2.length = Xl at *
    obtain ⟨xt, hxt⟩ : ∃ z, x.1 = z := ⟨_, rfl⟩
    rw [hxt] at c0
    have HXT : Hid (x.1 = xt) := hxt
    clear hxt
    obtain ⟨c, hcc⟩ : ∃ c, cmpI xt tag = c := ⟨_, rfl⟩
    have HCA : Hid (∀ W, Calls Tryz.prog 156 #[.agg #[.int .i64 xt, .slice ta Xl tc], .int .i64 tag] W fun e w' => e = .returned (.int .i64 c) ∧ Below W.heap.size W w') := fun W => by
     rw [← hcc]; exact tagc_any xt tag ta Xl tc W
    have hc0 : c = 0 ↔ xt = tag := by rw [← hcc]; exact cmp_eq xt tag
    have hB : hasB es tag = decide (xt = tag) := by
     by_cases he : xt = tag
     ·rw [decide_eq_true he]
      exact List.any_eq_true.2 ⟨x, List.mem_of_getElem? HX.out, by rw [HXT.out, he]; simp⟩
     ·rw [decide_eq_false he]
      refine List.any_eq_false.2 fun y hy => ?_
      obtain ⟨k, hk, ek⟩ := List.getElem_of_mem hy
      have hyk : es[k]? = some y := by rw [List.getElem?_eq_getElem hk, ek]
      have hge := HJ.out i x (Nat.le_refl _) HX.out
      rw [HXT.out] at hge
      rcases Nat.lt_trichotomy k i with h | h | h
      ·have := HI.out k y h hyk; simp; omega
      ·subst h; rw [HX.out] at hyk; cases hyk; rw [HXT.out]; simp; omega
      ·have := HR.out i k x y h HX.out hyk; rw [HXT.out] at this; simp; omega
    have hdc : (c == 0) = R0 := by
     rw [← HR0.out, hB, Bool.eq_iff_iff]; simp [hc0]
    clear hcc hc0 hB
    go_wp2_with fail
    refine (HCA.out _).mono ?_
    rintro e w2 ⟨rfl, hb2⟩
    have hbw : Below w.heap.size w w2 := hbel.trans (hb2.mono hbel.size)
    clear hb2 hbel c0 c1 HCA
    go_wp2_with fail
    go_ret2
    exact ⟨⟨_, rfl⟩, hbw⟩
   ·have hB : hasB es tag = false := by
     refine List.any_eq_false.2 fun y hy => ?_
     obtain ⟨k, hk, ek⟩ := List.getElem_of_mem hy
     have hyk : es[k]? = some y := by rw [List.getElem?_eq_getElem hk, ek]
     have := HI.out k y (by rw [HN.out] at hk; omega) hyk
     simp; omega
    obtain rfl : R0 = false := by rw [← HR0.out, hB]
    clear hB
    go_wp2_with fail
    go_ret2
    exact ⟨⟨_, rfl⟩, hbel⟩
theorem hasTag_any (n : Nat) (v : Value) (es : List (Int × List Tr)) (tag : Int) (w : World) (h : EnsQ n w v es) (hr : RisT es) (hl : es.length ≤ 1000000) :
  Calls Tryz.prog 146 #[v, .int .i64 tag] w fun e w' => e = .returned (.bool (hasB es tag)) ∧ Below w.heap.size w w' := by
 have HI : Hid _ := bin_any n v es tag w h hr hl
 obtain ⟨a, cap, rfl, -⟩ := RowP.open h
 clear h hr hl
 generalize es.length = N at *
 generalize hasB es tag = R at *
 go_enter Tryz.func146, Tryz.ntmps146
 go_wp2_with fail
 refine Calls.mono HI.out ?_
 rintro e w2 ⟨⟨k, rfl⟩, hb⟩
 clear HI
 go_wp2_with fail
 go_ret
 exact ⟨rfl, hb⟩
set_option maxHeartbeats 1000000 in
theorem kindc_any (n : Nat) (x : Tr) (r : List Value) (b g off Kt tc : Nat) (k0 : Int) (W : World) (h : TrQ n W r x) (hB : Blk W b #[.slice (some ⟨g, off, none⟩) Kt tc] 61) (hc : W.cell? ⟨g, off, none⟩ = some (.int .i64 k0)) (hk : 0 < Kt) :
  Calls Tryz.prog 154 #[.agg r.toArray, .pointer (some ⟨b, 0, none⟩)] W fun e w' => e = .returned (.bool (x.kind != k0)) ∧ Below W.heap.size W w' := by
 obtain ⟨ea, el, ec, ra, rl, rc, e1, -⟩ := TrV2.open ⟨_, rfl, h⟩
 rw [e1]
 clear e1 h
 have q0 := (hB.cell 0).trans rfl
 have hb := hB.lt
 have hg : g < W.heap.size := World.block_lt_of_cell? _ _ hc
 clear hB
 generalize x.kind = K at *
 generalize x.n = N at *
 generalize x.s = S at *
 go_enter Tryz.func154, Tryz.ntmps154
 go_wp2_with fail
 go_quiet (fail)
 go_wp2_with fail
 go_ret
 exact ⟨rfl, below_drewN nq ((Below.refl _ _).alloc (Nat.le_refl _) _)⟩
def okB (ts : List Tr) : Bool := decide (1 ≤ ts.length) && decide (ts.length ≤ 64) && (ts.all fun x => x.kind == (ts.head?.map Tr.kind).getD 0)
set_option maxHeartbeats 1000000 in
theorem oneKind_any (n : Nat) (v : Value) (ts : List Tr) (w : World) (h : TrsQ n w v ts) :
  Calls Tryz.prog 145 #[v] w fun e w' => e = .returned (.bool (okB ts)) ∧ Below w.heap.size w w' := by
 have hmf : ∀ (fn : Fn) (first cap : Array Value) (w : World), (Instr.makeFunc fn first cap).run Tryz.prog w = .ok (.func fn first cap) w := fun _ _ _ _ => rfl
 obtain ⟨a, cap, rfl, h1, h2, h3, -, -⟩ := RowP.open h
 obtain ⟨N, hN⟩ : ∃ N, ts.length = N := ⟨_, rfl⟩
 obtain ⟨R, hR⟩ : ∃ R, okB ts = R := ⟨_, rfl⟩
 rw [hR]
 rw [hN] at h1 ⊢
 have HH : Hid (TrsQ n w (.slice a N cap) ts) := (by rw [← hN]; exact h : TrsQ n w (.slice a N cap) ts)
 have HN : Hid (ts.length = N) := hN
 have HR : Hid (okB ts = R) := hR
 unfold maxLen at h2
 clear h hN hR h3
 by_cases l1 : 1 ≤ N
 ·have d1 : decide ((N : Int) < 1) = false := by simp; omega
  by_cases l2 : N ≤ 64
  ·have d2 : decide (64 < (N : Int)) = false := by simp; omega
   obtain ⟨t0, ht0⟩ : ∃ t, ts[0]? = some t := ⟨_, List.getElem?_eq_getElem (by rw [HN.out]; omega)⟩
   obtain ⟨g, off, rfl, r, hr, hc⟩ := HH.out.get ht0
   obtain ⟨ea, el, ec, ra, rl, rc, e1, -⟩ := TrV2.open ⟨_, rfl, hr⟩
   have hcell : w.cell? ⟨g, off, none⟩ = some (.int .i64 t0.kind) := by
    have := hc 0 (.int .i64 t0.kind) (by
     have h9 : r.toArray = #[.int .i64 t0.kind, .int .i64 t0.n, .string t0.s, .slice ea el ec, .slice ra rl rc] := by simpa using e1
     have h8 : r = [.int .i64 t0.kind, .int .i64 t0.n, .string t0.s, .slice ea el ec, .slice ra rl rc] := by simpa using congrArg Array.toList h9
     rw [h8]; rfl)
    simpa using this
   have hw1 : Below w.heap.size w (w.alloc (Obj.cells #[.slice (some ⟨g, off, none⟩) N cap] 61)) := (Below.refl _ _).alloc (Nat.le_refl _) _
   have BX : Blk (w.alloc (Obj.cells #[.slice (some ⟨g, off, none⟩) N cap] 61)) w.heap.size #[.slice (some ⟨g, off, none⟩) N cap] 61 := Blk.new w _ _
   have HC : Hid (Calls Tryz.prog 116 #[.slice (some ⟨g, off, none⟩) N cap, .func (.func 154) #[] #[.pointer (some ⟨w.heap.size, 0, none⟩)]] (w.alloc (Obj.cells #[.slice (some ⟨g, off, none⟩) N cap] 61)) fun e w' => e = .returned (.bool (!R)) ∧ Below (w.alloc (Obj.cells #[.slice (some ⟨g, off, none⟩) N cap] 61)).heap.size (w.alloc (Obj.cells #[.slice (some ⟨g, off, none⟩) N cap] 61)) w') := by
    have hh : ts.head? = some t0 := by rw [List.head?_eq_getElem?]; exact ht0
    have hb : (!R) = ts.any (fun x => x.kind != t0.kind) := by
     rw [← HR.out, okB, HN.out, decide_eq_true l1, decide_eq_true l2, hh]
     simp only [Option.map_some, Option.getD_some, Bool.true_and, List.not_all_eq_any_not]
     rfl
    rw [hb]
    refine containsK_any w.heap.size n _ ts _ (fun x => x.kind != t0.kind) (HH.out.belowTQ hw1) fun W x r' hW hx hr' => ?_
    exact kindc_any n x r' w.heap.size g off N cap t0.kind W hr' (BX.below hW) ((hW.cell (by have hg9 : g < w.heap.size := World.block_lt_of_cell? _ _ hcell; simp; omega)).trans ((hw1.cell (World.block_lt_of_cell? _ _ hcell)).trans hcell)) (by omega)
   clear hcell hc e1 hr ht0 HH HR BX
   go_enter Tryz.func145, Tryz.ntmps145
   go_wp2_with fail
   refine HC.out.mono ?_
   rintro e w2 ⟨rfl, hb2⟩
   have hbw : Below w.heap.size w w2 := hw1.trans (hb2.mono hw1.size)
   clear HC hb2 hw1
   go_wp2_with fail
   go_ret
   exact ⟨by simp, hbw⟩
  ·have d2 : decide (64 < (N : Int)) = true := by simp; omega
   obtain rfl : R = false := by rw [← HR.out, okB, HN.out]; simp; omega
   go_enter Tryz.func145, Tryz.ntmps145
   go_wp2_with fail
   go_ret
   exact ⟨rfl, (Below.refl _ _).alloc (Nat.le_refl _) _⟩
 ·have d1 : decide ((N : Int) < 1) = true := by simp; omega
  obtain rfl : R = false := by rw [← HR.out, okB, HN.out]; simp; omega
  go_enter Tryz.func145, Tryz.ntmps145
  go_wp2_with fail
  go_ret
  exact ⟨rfl, (Below.refl _ _).alloc (Nat.le_refl _) _⟩
theorem ents_cons (last : Int) (e : Int × List Tr) (l : List (Int × List Tr)) : entsB last (e :: l) = (decide (last < e.1) && decide (e.1 ≤ 500) && okB e.2 && entsB e.1 l) := by
 simp only [entsB, okB, Bool.and_assoc]
set_option maxHeartbeats 2000000 in
theorem entries_any (n : Nat) (v : Value) (es : List (Int × List Tr)) (w : World) (h : EnsQ n w v es) :
  Calls Tryz.prog 129 #[v] w fun e w' => e = .returned (.bool (entsB 0 es)) ∧ Below w.heap.size w w' := by
 obtain ⟨a, cap, rfl, h1, h2, -⟩ := RowP.open h
 obtain ⟨N, hN⟩ : ∃ N, es.length = N := ⟨_, rfl⟩
 obtain ⟨R, hR⟩ : ∃ R, entsB 0 es = R := ⟨_, rfl⟩
 rw [hR]
 rw [hN] at h1 ⊢
 have HH : Hid (EnsQ n w (.slice a N cap) es) := (by rw [← hN]; exact h : EnsQ n w (.slice a N cap) es)
 have HN : Hid (es.length = N) := hN
 have HR0 : Hid (entsB 0 (es.drop 0) = R) := hR
 unfold maxLen at h2
 clear h hN hR
 go_enter Tryz.func129, Tryz.ntmps129
 go_wp2_with fail
 go_loopw [3, 8] (fun av iv wr => ∃ (i : Nat) (last : Int), iv = .int .i64 (i : Int) ∧ av = .int .i64 last ∧ i ≤ N ∧ Hid (entsB last (es.drop i) = R) ∧ Below w.heap.size w wr) (fun _ iv _ => N - (intOf iv).toNat)
 case atStart => exact ⟨0, 0, rfl, rfl, by omega, HR0, Below.refl _ _⟩
 case round =>
  clear HR0
  obtain ⟨i, last, rfl, rfl, hi, HR, hbel⟩ := hrel
  by_cases hlt : i < N
  ·obtain ⟨x, hx⟩ : ∃ r, es[i]? = some r := ⟨_, List.getElem?_eq_getElem (by rw [HN.out]; exact hlt)⟩
   obtain ⟨g, off, rfl, r, ⟨vt, rfl, -, ht⟩, hc⟩ := (HH.out.belowEQ hbel).get hx
   obtain ⟨ta, tc, rfl, -⟩ := RowP.open ht
   have c0 := hc 0 _ rfl
   have c1 := hc 1 _ rfl
   simp only [Nat.add_zero] at c0
   have hdr : es.drop i = x :: es.drop (i + 1) := by
    obtain ⟨hl', e⟩ := List.getElem?_eq_some_iff.1 hx
    rw [List.drop_eq_getElem_cons hl', e]
   have HR1 : Hid ((decide (last < x.1) && decide (x.1 ≤ 500) && okB x.2 && entsB x.1 (es.drop (i + 1))) = R) := (by rw [← ents_cons, ← hdr]; exact HR.out : (decide (last < x.1) && decide (x.1 ≤ 500) && okB x.2 && entsB x.1 (es.drop (i + 1))) = R)
   have HOK : Hid (∀ W, Below wr.heap.size wr W → Calls Tryz.prog 145 #[.slice ta x.2.length tc] W fun e w' => e = .returned (.bool (okB x.2)) ∧ Below W.heap.size W w') := fun W hW => oneKind_any n _ x.2 W (RowP.belowTQ ht hW)
   clear hc ht hx hdr HR
   generalize x.2.length = Xl at *
   generalize okB x.2 = O at *
   generalize x.1 = xt at *
   by_cases k1 : last < xt
   ·by_cases k2 : xt ≤ 500
    ·have d1 : decide (xt ≤ last) = false := by simp; omega
     have d2 : decide (500 < xt) = false := by simp; omega
     have hal : Below wr.heap.size wr (wr.alloc (Obj.cells #[.int .i64 xt, .slice ta Xl tc] 63)) := (Below.refl _ _).alloc (Nat.le_refl _) _
     have BE : Blk (wr.alloc (Obj.cells #[.int .i64 xt, .slice ta Xl tc] 63)) wr.heap.size #[.int .i64 xt, .slice ta Xl tc] 63 := Blk.new wr _ _
     go_wp2_with fail
     refine (HOK.out _ hal).mono ?_
     rintro e w2 ⟨rfl, hb2⟩
     have hb3 : Below wr.heap.size wr w2 := hal.trans (hb2.mono hal.size)
     have hbw : Below w.heap.size w w2 := hbel.trans (hb3.mono hbel.size)
     have q0 := ((BE.below hb2).cell 0).trans rfl
     generalize wr.heap.size = bw at *
     clear hb2 hb3 hbel c0 c1 HOK hal BE
     cases O with
     | true =>
      go_wp2_with fail
      go_roundw
      case rel => exact ⟨i + 1, xt, by go_num, rfl, by omega, (by have := HR1.out; rw [decide_eq_true k1, decide_eq_true k2] at this; simpa using this : entsB xt (es.drop (i + 1)) = R), hbw⟩
      case measure => simp [intOf]; omega
     | false =>
      obtain rfl : R = false := by rw [← HR1.out]; simp
      go_wp2_with fail
      go_ret
      exact ⟨rfl, hbw⟩
    ·have d1 : decide (xt ≤ last) = false := by simp; omega
     have d2 : decide (500 < xt) = true := by simp; omega
     obtain rfl : R = false := by rw [← HR1.out, decide_eq_false k2]; simp
     go_wp2_with fail
     go_ret
     exact ⟨rfl, hbel.alloc hbel.size _⟩
   ·have d1 : decide (xt ≤ last) = true := by simp; omega
    obtain rfl : R = false := by rw [← HR1.out, decide_eq_false k1]; simp
    go_wp2_with fail
    go_ret
    exact ⟨rfl, hbel.alloc hbel.size _⟩
  ·obtain rfl : R = true := by rw [← HR.out, List.drop_eq_nil_of_le (by rw [HN.out]; omega)]; rfl
   go_wp2_with fail
   go_ret
   exact ⟨rfl, hbel⟩
theorem rowG_holdsR {w : World} {a : Option Addr} {N cap : Nat} {l : List Fd} (h : RowG w (.slice a N cap) 4 (fdRows l)) : HoldsR w a l := by
 obtain ⟨a', cap', e, _, _, _, h4⟩ := h.form
 simp only [Value.slice.injEq] at e
 obtain ⟨rfl, _, _⟩ := e
 intro b hb j u hu
 rw [rawCells_flat] at hu
 obtain ⟨i, c, k, h1, h2, rfl⟩ := flat_inv (fdRows l) (fdr_len l) j u hu
 obtain ⟨g, off, e, hc⟩ := h4 (by intro e; rw [e] at h1; simp at h1)
 rw [hb] at e
 cases e
 have := hc i c u k h1 h2
 rw [Nat.add_assoc] at this
 rw [Addr.add_lit]
 exact this
theorem rest_all {l : List Fd} {p : Fd → Bool} {i : Nat} {f : Fd} (h : ∀ x ∈ l.take i, p x = true) (hf : l[i]? = some f) (hp : p f = true) : ∀ x ∈ l.take (i + 1), p x = true := by
 rw [take_atQ hf]
 intro x hx
 rcases List.mem_append.1 hx with hx | hx
 ·exact h x hx
 ·obtain rfl : x = f := by simpa using hx
  exact hp
set_option maxHeartbeats 2000000 in
theorem restMayBe_any (n : Nat) (v ve : Value) (l : List Fd) (es : List (Int × List Tr)) (w : World) (h : RowG w v 4 (fdRows l)) (he : EnsQ n w ve es) (hr : RisT es) (hl : es.length ≤ 1000000) :
  Calls Tryz.prog 130 #[v, ve] w fun e w' => e = .returned (.bool (restB l es)) ∧ Below w.heap.size w w' := by
 obtain ⟨a, cap, rfl, h1, h2, h3, -, -⟩ := rest_holds h
 obtain ⟨N, hN⟩ : ∃ N, l.length = N := ⟨_, rfl⟩
 obtain ⟨R, hR⟩ : ∃ R, restB l es = R := ⟨_, rfl⟩
 rw [hR]
 rw [hN] at h1 ⊢
 have HH : Hid (RowG w (.slice a N cap) 4 (fdRows l)) := (by rw [← hN]; exact h : RowG w (.slice a N cap) 4 (fdRows l))
 have HN : Hid (l.length = N) := hN
 have HR : Hid (restB l es = R) := hR
 have HT : Hid (∀ W tag, Below w.heap.size w W → Calls Tryz.prog 146 #[ve, .int .i64 tag] W fun e w' => e = .returned (.bool (hasB es tag)) ∧ Below W.heap.size W w') := fun W tag hW => hasTag_any n ve es tag W (he.belowEQ hW) hr hl
 have HRS : Hid (∀ W, Below w.heap.size w W → Calls Tryz.prog 88 #[.slice a N cap] W fun e w' => e = .returned (.bool (risesB l)) ∧ Below W.heap.size W w') := fun W hW => rising_any a l N cap W hN h3 h1 h2 (rowG_holdsR (HH.out.below hW))
 obtain ⟨pe, ce, rfl, -⟩ := RowP.open he
 unfold maxLen at h2
 generalize es.length = El at *
 clear h hN hR h3 he hr
 go_enter Tryz.func130, Tryz.ntmps130
 go_wp2_with fail
 go_loopw [9] (fun iv wr => ∃ i : Nat, iv = .int .i64 (i : Int) ∧ i ≤ N ∧ Hid (∀ f ∈ l.take i, (okF f && !hasB es f.tag) = true) ∧ Below w.heap.size w wr) (fun iv _ => N - (intOf iv).toNat)
 case atStart => exact ⟨0, rfl, by omega, (by simp : ∀ f ∈ l.take 0, (okF f && !hasB es f.tag) = true), Below.refl _ _⟩
 case round =>
  obtain ⟨i, rfl, hi, HI, hbel⟩ := hrel
  by_cases hlt : i < N
  ·obtain ⟨f, hf⟩ : ∃ r, l[i]? = some r := ⟨_, List.getElem?_eq_getElem (by rw [HN.out]; exact hlt)⟩
   obtain ⟨g, off, rfl, cc⟩ := (HH.out.below hbel).get (show (fdRows l)[i]? = some f.cells by simp [fdRows, hf])
   have p0 := cc 0 _ rfl
   have p1 := cc 1 _ rfl
   have p2 := cc 2 _ rfl
   have p3 := cc 3 _ rfl
   simp only [Nat.add_zero] at p0
   have HF : Hid (l[i]? = some f) := hf
   have HM : Hid (f ∈ l) := List.mem_of_getElem? hf
   have HFO : Hid (okF f = okV f.tag f.wire f.n f.b) := (rfl : okF f = okV f.tag f.wire f.n f.b)
   have HTG : Hid (∀ W, Below w.heap.size w W → Calls Tryz.prog 146 #[.slice pe El ce, .int .i64 f.tag] W fun e w' => e = .returned (.bool (hasB es f.tag)) ∧ Below W.heap.size W w') := fun W hW => HT.out W f.tag hW
   clear cc hf
   obtain ⟨O, hO⟩ : ∃ O, okV f.tag f.wire f.n f.b = O := ⟨_, rfl⟩
   obtain ⟨B, hB⟩ : ∃ B, hasB es f.tag = B := ⟨_, rfl⟩
   have HO : Hid (okV f.tag f.wire f.n f.b = O) := hO
   have HB : Hid (hasB es f.tag = B) := hB
   have HCK : Hid (∀ W, Calls Tryz.prog 26 #[.agg #[.int .i64 f.tag, .int .i64 f.wire, .int .i64 f.n, .string f.b]] W fun e w' => e = .returned (.bool O) ∧ Below W.heap.size W w') := fun W => by rw [← hO]; exact checkV_any f.tag f.wire f.n f.b W
   rw [hB] at HTG
   clear hO hB
   generalize hft : f.tag = ft at *
   generalize hfw : f.wire = fw at *
   generalize hfn : f.n = fn at *
   generalize hfb : f.b = fb at *
   have HE : Hid (f.tag = ft ∧ f.wire = fw ∧ f.n = fn ∧ f.b = fb) := ⟨hft, hfw, hfn, hfb⟩
   clear hft hfw hfn hfb
   have hal : Below wr.heap.size wr (wr.alloc (Obj.cells #[.int .i64 ft, .int .i64 fw, .int .i64 fn, .string fb] 44)) := (Below.refl _ _).alloc (Nat.le_refl _) _
   have BE : Blk (wr.alloc (Obj.cells #[.int .i64 ft, .int .i64 fw, .int .i64 fn, .string fb] 44)) wr.heap.size #[.int .i64 ft, .int .i64 fw, .int .i64 fn, .string fb] 44 := Blk.new wr _ _
   go_wp2_with fail
   refine (HCK.out _).mono ?_
   rintro e w2 ⟨rfl, hb2⟩
   have hb3 : Below wr.heap.size wr w2 := hal.trans (hb2.mono hal.size)
   have hbw : Below w.heap.size w w2 := hbel.trans (hb3.mono hbel.size)
   have q0 := ((BE.below hb2).cell 0).trans rfl
   generalize wr.heap.size = bw at *
   clear hb2 hb3 hbel hal BE p0 p1 p2 p3 HCK
   cases O with
   | false =>
    obtain rfl : R = false := by
     rw [← HR.out, restB, Bool.and_eq_false_iff]
     left
     rw [List.all_eq_false]
     exact ⟨f, HM.out, by rw [HFO.out, HE.out.1, HO.out]; simp⟩
    go_wp2_with fail
    go_ret
    exact ⟨rfl, hbw⟩
   | true =>
    go_wp2_with fail
    refine (HTG.out _ hbw).mono ?_
    rintro e w4 ⟨rfl, hb4⟩
    have hbw4 : Below w.heap.size w w4 := hbw.trans (hb4.mono hbw.size)
    clear hb4 hbw HTG
    cases B with
    | true =>
     obtain rfl : R = false := by
      rw [← HR.out, restB, Bool.and_eq_false_iff]
      left
      rw [List.all_eq_false]
      exact ⟨f, HM.out, by rw [HE.out.1, HB.out]; simp⟩
     go_wp2_with fail
     go_ret
     exact ⟨rfl, hbw4⟩
    | false =>
     have HI2 : Hid (∀ f ∈ l.take (i + 1), (okF f && !hasB es f.tag) = true) := rest_all HI.out HF.out (by rw [HFO.out, HE.out.1, HO.out, HB.out]; rfl)
     go_wp2_with fail
     go_roundw
     case rel => exact ⟨i + 1, by go_num, by omega, HI2, hbw4⟩
     case measure => simp [intOf]; omega
  ·have hall : R = risesB l := by
    have h5 := HI.out
    rw [List.take_of_length_le (by rw [HN.out]; omega)] at h5
    rw [← HR.out, restB, List.all_eq_true.2 h5]
    rfl
   have HRX : Hid (Calls Tryz.prog 88 #[.slice a N cap] wr fun e w' => e = .returned (.bool R) ∧ Below wr.heap.size wr w') := by
    rw [hall]; exact HRS.out wr hbel
   clear hall
   go_wp2_with fail
   refine HRX.out.mono ?_
   rintro e w2 ⟨rfl, hb2⟩
   have hbw : Below w.heap.size w w2 := hbel.trans (hb2.mono hbel.size)
   go_wp2_with fail
   go_ret
   exact ⟨rfl, hbw⟩
end Go.Proofs.YtiajaocckkghgabGreat
