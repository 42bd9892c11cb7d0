/- A level of trees: its messages' lists, each place once; all trees in them. -/
import Derived.Test.YtgedelgdjcnogaaTvPl
import Derived.Test.YtgedelgdjcnogaaTvPush
import Derived.Test.YtgedelgdjcnogaaJoinR
import Derived.Test.YtgedelgdjcnogaaRg
import Derived.Maps.AppendAt
import Derived.Test.YtgedelgdjcnogaaTvPlc
namespace Go.Proofs.Ytgedelgdjcnogaa
open Go.ChangeShapes Go.WideShapes Go.ChangeAt Go.RowKit
set_option linter.unusedVariables false
set_option linter.unusedSimpArgs false
set_option maxRecDepth 20000

theorem uPlace : Try.prog.underlying 97 = some (.map 75 78) := by kernel_rfl
theorem told_pl {w : World} {x : Pl} {L : List Pl} (hx : PlOk w x) (hL : ∀ y ∈ L, PlOk w y) : Told 75 w (plV x) (L.map plV) := by
  intro q hq
  obtain ⟨y, hy, rfl⟩ := List.mem_map.1 hq
  have h := eql_pl w x y hx (hL y hy)
  have inj : plV x = plV y ↔ x = y := by
    obtain ⟨p, m⟩ := x
    obtain ⟨q, n⟩ := y
    simp [plV]
    intro _
    omega
  constructor
  · intro e
    rw [h, decide_eq_true (inj.1 e)]
  · intro e
    rw [h, decide_eq_false (fun e' => e (inj.2 e'))]
theorem mem_plV {x : Pl} {L : List Pl} : plV x ∈ L.map plV ↔ x ∈ L := by
  constructor
  · intro h
    obtain ⟨y, hy, e⟩ := List.mem_map.1 h
    obtain ⟨p, m⟩ := x
    obtain ⟨q, n⟩ := y
    simp [plV] at e
    obtain ⟨rfl, e2⟩ := e
    obtain rfl : n = m := by omega
    exact hy
  · exact List.mem_map_of_mem
/-- What is said of the messages' lists. -/
def msgsL (ts : List Tr) : List (List (Int × List Tr)) := (ts.filter fun t => t.kind == 3).map Tr.es
def MsgS (ts : List Tr) (M : List (List (Int × List Tr))) : Prop := M.Sublist (msgsL ts) ∧ ∀ t ∈ ts, t.kind = 3 → t.es ∈ M
/-- A row of lists of entries. -/
def LvC (n : Nat) (w : World) (r : List Value) (m : List (Int × List Tr)) : Prop := ∃ ve, r = [ve] ∧ EnsQ n w ve m ∧ PlnV w ve
abbrev LvQ (n : Nat) (w : World) (v : Value) (M : List (List (Int × List Tr))) : Prop := RowP (LvC n w) w 1 v M
theorem infoSl : (Try.prog.info? 22).map (fun i => (i.zero, i.size, i.bytes)) = some (some (.slice none 0 0), 1, 24) := by kernel_rfl
theorem MsgS.skip {ts : List Tr} {M : List (List (Int × List Tr))} {t : Tr} (h : MsgS ts M) (ht : t.kind ≠ 3) : MsgS (ts ++ [t]) M := by
  refine ⟨?_, fun x hx hk => ?_⟩
  · have : msgsL (ts ++ [t]) = msgsL ts := by simp [msgsL, List.filter_append, ht]
    rw [this]; exact h.1
  · rcases List.mem_append.1 hx with hx | hx
    · exact h.2 x hx hk
    · obtain rfl : x = t := by simpa using hx
      exact absurd hk ht
theorem msgs_snoc {ts : List Tr} {t : Tr} (ht : t.kind = 3) : msgsL (ts ++ [t]) = msgsL ts ++ [t.es] := by simp [msgsL, List.filter_append, ht]
theorem MsgS.old {ts : List Tr} {M : List (List (Int × List Tr))} {t : Tr} (h : MsgS ts M) (ht : t.kind = 3) (hm : t.es ∈ M) : MsgS (ts ++ [t]) M := by
  refine ⟨?_, fun x hx hk => ?_⟩
  · rw [msgs_snoc ht]; exact h.1.trans (List.sublist_append_left _ _)
  · rcases List.mem_append.1 hx with hx | hx
    · exact h.2 x hx hk
    · obtain rfl : x = t := by simpa using hx
      exact hm
theorem MsgS.new {ts : List Tr} {M : List (List (Int × List Tr))} {t : Tr} (h : MsgS ts M) (ht : t.kind = 3) : MsgS (ts ++ [t]) (M ++ [t.es]) := by
  refine ⟨?_, fun x hx hk => ?_⟩
  · rw [msgs_snoc ht]; exact h.1.append (List.Sublist.refl _)
  · rcases List.mem_append.1 hx with hx | hx
    · exact List.mem_append.2 (.inl (h.2 x hx hk))
    · obtain rfl : x = t := by simpa using hx
      simp
/-- Lists side by side with what they hold. -/
def Side (n : Nat) (w : World) (ves : List Value) (M : List (List (Int × List Tr))) : Prop := ves.length = M.length ∧ ∀ (i : Nat) (ve : Value) (m : List (Int × List Tr)), ves[i]? = some ve → M[i]? = some m → EnsQ n w ve m ∧ PlnV w ve
theorem Side.nil (n : Nat) (w : World) : Side n w [] [] := ⟨rfl, by simp⟩
theorem Side.snoc {n : Nat} {w : World} {ves : List Value} {M : List (List (Int × List Tr))} (h : Side n w ves M) {ve : Value} {m : List (Int × List Tr)} (h1 : EnsQ n w ve m) (h2 : PlnV w ve) : Side n w (ves ++ [ve]) (M ++ [m]) := by
  refine ⟨by simp [h.1], fun i v m' hv hm => ?_⟩
  by_cases hi : i < ves.length
  · rw [List.getElem?_append_left hi] at hv
    rw [List.getElem?_append_left (by rw [← h.1]; exact hi)] at hm
    exact h.2 i v m' hv hm
  · rw [List.getElem?_append_right (by omega)] at hv
    rw [List.getElem?_append_right (by rw [← h.1]; omega)] at hm
    rw [← h.1] at hm
    cases hq : i - ves.length with
    | zero =>
      rw [hq] at hv hm
      obtain rfl : ve = v := by simpa using hv
      obtain rfl : m = m' := by simpa using hm
      exact ⟨h1, h2⟩
    | succ q => rw [hq] at hv; simp at hv
theorem Side.mem {n : Nat} {w : World} {ves : List Value} {M : List (List (Int × List Tr))} (h : Side n w ves M) {ve : Value} (hv : ve ∈ ves) : ∃ m ∈ M, EnsQ n w ve m ∧ PlnV w ve := by
  obtain ⟨i, hi, e⟩ := List.getElem_of_mem hv
  have hm : M[i]? = some (M[i]'(by rw [← h.1]; exact hi)) := List.getElem?_eq_getElem _
  exact ⟨_, List.mem_of_getElem? hm, h.2 i ve _ (by rw [List.getElem?_eq_getElem hi, e]) hm⟩
theorem flat_one : ∀ l : List Value, l = (l.map fun x => [x]).flatten
  | [] => rfl
  | a :: l => by rw [List.map_cons, List.flatten_cons, ← flat_one l]; rfl
theorem Side.row {n : Nat} {w w' : World} {ves : List Value} {M : List (List (Int × List Tr))} (h : Side n w ves M) (hb : Below w.heap.size w w') {B k : Nat} {v : Value} (ho : w'.ownsRow B 22 1 v k ves) : LvQ n w' v M := by
  have hf : ves = (ves.map fun x => [x]).flatten := flat_one ves
  rw [hf] at ho
  have hr := (RowG.own (rs := ves.map fun x => [x]) (by intro r hr; obtain ⟨x, _, rfl⟩ := List.mem_map.1 hr; rfl) (by decide) ho).1
  refine ⟨_, hr, by simp [h.1], fun i m hm => ?_⟩
  obtain ⟨ve, hv⟩ : ∃ ve, ves[i]? = some ve := ⟨_, List.getElem?_eq_getElem (by rw [h.1]; exact (List.getElem?_eq_some_iff.1 hm).1)⟩
  obtain ⟨g1, g2⟩ := h.2 i ve m hv hm
  exact ⟨[ve], by simp [hv], ve, rfl, g1.belowEQ hb, g2.below hb⟩
/-- What messages answers. -/
def MsgP (n : Nat) (ts : List Tr) (w : World) (e : Ending) (w' : World) : Prop := ∃ v M, e = .returned v ∧ LvQ n w' v M ∧ MsgS ts M ∧ Below w.heap.size w w'
set_option maxHeartbeats 4000000 in
theorem messages_step (n : Nat) (v : Value) (ts : List Tr) (w : World) (h : TrsQ (n + 1) w v ts) (hl : ts.length ≤ 1000) :
    Calls Try.prog 36 #[v] w (MsgP n ts w) := by
  have hmm := @run_makeMap Try.prog
  obtain ⟨a, cap, rfl, h1, h2, h3, -, -⟩ := RowP.open h
  obtain ⟨N, hN⟩ : ∃ N, ts.length = N := ⟨_, rfl⟩
  rw [hN] at h1 hl ⊢
  have HH : Hid (TrsQ (n + 1) w (.slice a N cap) ts) := (by rw [← hN]; exact h : TrsQ (n + 1) w (.slice a N cap) ts)
  have HN : Hid (ts.length = N) := hN
  unfold maxLen at h2
  clear h hN h3
  go_enter Try.func36, Try.ntmps36
  go_wp2_with fail
  have HS0 : Hid (PlSet (w.alloc (.map #[] 0)) w.heap.size (List.map plV [])) := PlSet.made w
  have HO0 : Hid ((w.alloc (.map #[] 0)).ownsRow (w.heap.size + 1) 22 1 (.slice none 0 0) 0 []) := World.ownsRow_nil _ _ _ _
  have hb0 : Below w.heap.size w (w.alloc (.map #[] 0)) := (Below.refl _ _).alloc (Nat.le_refl _) _
  go_loopw [3, 13] (fun ov iv wr => ∃ (i k : Nat) (oa : Option Addr) (oc : Nat) (ves : List Value) (M : List (List (Int × List Tr))), iv = .int .i64 (i : Int) ∧ ov = .slice oa k oc ∧ i ≤ N ∧ k ≤ i ∧ Hid (Side n w ves M) ∧ Hid (MsgS (ts.take i) M) ∧ Hid (PlSet wr w.heap.size ((ves.map plOf).map plV)) ∧ Hid (wr.ownsRow (w.heap.size + 1) 22 1 (.slice oa k oc) k ves) ∧ Below w.heap.size w wr) (fun _ iv _ => N - (intOf iv).toNat)
  case atStart => exact ⟨0, 0, none, 0, [], [], rfl, rfl, by omega, by omega, Side.nil n w, (⟨by simp, by simp⟩ : MsgS (ts.take 0) []), HS0, HO0, hb0⟩
  case round =>
    clear HS0 HO0 hb0
    obtain ⟨i, k, oa, oc, ves, M, rfl, rfl, hi, hk, HSD, HMS, HST, HO, hbel⟩ := hrel
    by_cases hlt : i < N
    · obtain ⟨t, ht⟩ : ∃ r, ts[i]? = some r := ⟨_, List.getElem?_eq_getElem (by rw [HN.out]; exact hlt)⟩
      obtain ⟨g, off, rfl, r, hr, hc⟩ := HH.out.get ht
      obtain ⟨ve, vr, rfl, q1, q2, q3, q4, q5, q6, q7⟩ := hr
      obtain ⟨ea, ec, rfl, e1, e2, e3, -, -⟩ := RowP.open q6
      obtain ⟨ra, rc, rfl, -⟩ := rest_holds q5
      have c0 := (hbel.cell (World.block_lt_of_cell? _ _ (hc 0 _ rfl))).trans (hc 0 _ rfl)
      have c1 := (hbel.cell (World.block_lt_of_cell? _ _ (hc 1 _ rfl))).trans (hc 1 _ rfl)
      have c2 := (hbel.cell (World.block_lt_of_cell? _ _ (hc 2 _ rfl))).trans (hc 2 _ rfl)
      have c3 := (hbel.cell (World.block_lt_of_cell? _ _ (hc 3 _ rfl))).trans (hc 3 _ rfl)
      have c4 := (hbel.cell (World.block_lt_of_cell? _ _ (hc 4 _ rfl))).trans (hc 4 _ rfl)
      simp only [Nat.add_zero] at c0
      have HT : Hid (ts[i]? = some t) := ht
      have HTK : Hid (ts.take (i + 1) = ts.take i ++ [t]) := (by obtain ⟨hl', e⟩ := List.getElem?_eq_some_iff.1 ht; rw [List.take_succ_eq_append_getElem hl', e] : ts.take (i + 1) = ts.take i ++ [t])
      have HE : Hid (EnsQ n w (.slice ea t.es.length ec) t.es ∧ PlnV w (.slice ea t.es.length ec)) := ⟨q6, q7⟩
      clear hc ht q1 q2 q3 q4 q5 q6 q7
      generalize hEl : t.es.length = El at *
      generalize t.rest.length = Rl at *
      have HEl : Hid (t.es.length = El) := hEl
      obtain ⟨K, hK⟩ : ∃ K, t.kind = K := ⟨_, rfl⟩
      rw [hK] at c0
      have HK : Hid (t.kind = K) := hK
      clear hK hEl
      generalize t.n = Tn at *
      generalize t.s = Ts at *
      by_cases h3 : K = 3
      · subst h3
        obtain ⟨⟨p, m⟩, hpm⟩ : ∃ x, plOf (.slice ea El ec) = x := ⟨_, rfl⟩
        have HPM : Hid (plOf (.slice ea El ec) = (p, m)) := hpm
        have HPC : Hid (∀ W, Calls Try.prog 42 #[.slice ea El ec] W fun e w' => e = .returned (.agg #[.pointer p, .int .i64 (m : Int)]) ∧ Below W.heap.size W w') := fun W => by
          have := place_any ea El ec W e1 e2 (e3.imp (fun h => by rw [← HEl.out, h]; rfl) id)
          rw [hpm] at this
          exact this
        clear hpm e3
        go_wp2_with fail
        refine (HPC.out _).mono ?_
        rintro e w2 ⟨rfl, hb2⟩
        have BT : Blk w2 wr.heap.size #[.int .i64 3, .int .i64 Tn, .string Ts, .slice ea El ec, .slice ra Rl rc] 25 := (Blk.new wr _ _).below hb2
        have hbr : Below wr.heap.size wr w2 := ((Below.refl _ _).alloc (Nat.le_refl _) _).trans (hb2.mono (by simp))
        have hbw : Below w.heap.size w w2 := hbel.trans (hbr.mono hbel.size)
        have HST2 : Hid (PlSet w2 w.heap.size ((ves.map plOf).map plV)) := HST.out.below hbr
        have HO2 : Hid (w2.ownsRow (w.heap.size + 1) 22 1 (.slice oa k oc) k ves) := own_below HO.out hbr
        generalize wr.heap.size = bt at *
        clear hb2 hbr HPC c0 c1 c2 c3 c4 HST HO hbel
        have HTD : Hid (∀ W, Below w.heap.size w W → Told 75 W (.agg #[.pointer p, .int .i64 (m : Int)]) ((ves.map plOf).map plV)) := fun W hW => by
          have hx : PlOk W (p, m) := by rw [← HPM.out]; exact plOf_ok (HE.out.2.below hW) (HE.out.1.belowEQ hW)
          exact told_pl hx fun y hy => by
            obtain ⟨ve, hve, rfl⟩ := List.mem_map.1 hy
            obtain ⟨m', _, g1, g2⟩ := HSD.out.mem hve
            exact plOf_ok (g2.below hW) (RowP.belowEQ g1 hW)
        obtain ⟨R, hR⟩ : ∃ R : Bool, R = true ↔ (p, m) ∈ ves.map plOf := by
          by_cases hm : (p, m) ∈ ves.map plOf
          · exact ⟨true, by simp [hm]⟩
          · exact ⟨false, by simp [hm]⟩
        have HR : Hid (R = true ↔ (p, m) ∈ ves.map plOf) := hR
        clear hR
        have al3 : Below w2.heap.size w2 (w2.alloc (Obj.cells #[.pointer p, .int .i64 (m : Int)] 75)) := (Below.refl _ _).alloc (Nat.le_refl _) _
        have hb3 : Below w.heap.size w (w2.alloc (Obj.cells #[.pointer p, .int .i64 (m : Int)] 75)) := hbw.trans (al3.mono hbw.size)
        have al4 : Below w2.heap.size w2 ((w2.alloc (Obj.cells #[.pointer p, .int .i64 (m : Int)] 75)).alloc (Obj.cells #[] 78)) := al3.alloc (by simp) _
        have hb4 : Below w.heap.size w ((w2.alloc (Obj.cells #[.pointer p, .int .i64 (m : Int)] 75)).alloc (Obj.cells #[] 78)) := hbw.trans (al4.mono hbw.size)
        have HLK : Hid ((Instr.lookup 97 (.map (some w.heap.size)) (.agg #[.pointer p, .int .i64 (m : Int)]) true).run Try.prog (w2.alloc (Obj.cells #[.pointer p, .int .i64 (m : Int)] 75)) = .ok (.tuple #[.agg #[], .bool R]) (w2.alloc (Obj.cells #[.pointer p, .int .i64 (m : Int)] 75))) :=
          look_pl uPlace zeroEp Try.underlying75 (fun _ _ => rfl) rfl (fun e => check_pl _ e (p, m)) (HST2.out.below al3) (HTD.out _ hb3) R (HR.out.trans mem_plV.symm)
        cases R with
        | true =>
          have hes : t.es ∈ M := by
            obtain ⟨ve, hve, e⟩ := List.mem_map.1 (HR.out.1 rfl)
            obtain ⟨m', hm', g1, g2⟩ := HSD.out.mem hve
            rw [pl_uniq HE.out.1 g1 (by rw [HPM.out, e])]
            exact hm'
          have HES : Hid (t.es ∈ M) := hes
          have q0 := BT.cell 3
          clear hes
          go_wp2_with (first | (at_lookup; refine wpList_lookup_pl rfl _ _ rfl rfl rfl HLK.out ?_) | fail)
          go_roundw
          case rel => exact ⟨i + 1, k, oa, oc, ves, M, by go_num, rfl, by omega, by omega, HSD, (by rw [HTK.out]; exact HMS.out.old HK.out HES.out : MsgS (ts.take (i + 1)) M), HST2.out.below al4, own_below HO2.out al4, hb4⟩
          case measure => simp [intOf]; omega
        | false =>
          obtain ⟨w5, r1, r2, r3, r4⟩ := update_pl (MT := 97) (E := 78) (w := ((w2.alloc (Obj.cells #[.pointer p, .int .i64 (m : Int)] 75)).alloc (Obj.cells #[] 78))) uPlace Try.underlying75 (fun _ _ => rfl) rfl (fun e => check_pl _ e (p, m)) (HST2.out.below al4) (HTD.out _ hb4) (fun h => by have := HR.out.2 (mem_plV.1 h); cases this)
          have HUP : Hid _ := r1
          have BT5 : Blk w5 bt #[.int .i64 3, .int .i64 Tn, .string Ts, .slice ea El ec, .slice ra Rl rc] 25 := (BT.below al4).kp r3 (fun e => (HST2.out.below al4).neB (BT.below al4) e)
          have hO5 : w5.ownsRow (w.heap.size + 1) 22 1 (.slice oa k oc) k ves := own_kpV (own_below HO2.out al4) r3 (fun q hq e => by have := (own_lt (own_below HO2.out al4) hq).1; omega)
          have hb5 : Below w.heap.size w w5 := hb4.trans (r3.toBelow hb4.size (fun q e => by omega))
          have HST5 : Hid (PlSet w5 w.heap.size (((ves ++ [Value.slice ea El ec]).map plOf).map plV)) := by
            show PlSet _ _ _
            rw [List.map_append, List.map_append, List.map_cons, List.map_nil, HPM.out]
            exact r2
          have al6 : Below w5.heap.size w5 (w5.alloc (Obj.cells #[.slice ea El ec] 22)) := (Below.refl _ _).alloc (Nat.le_refl _) _
          have BE : Blk (w5.alloc (Obj.cells #[.slice ea El ec] 22)) w5.heap.size #[.slice ea El ec] 22 := Blk.new w5 _ _
          have hb6 : Below w.heap.size w (w5.alloc (Obj.cells #[.slice ea El ec] 22)) := hb5.trans (al6.mono hb5.size)
          have q3 := (BT5.cell 3).trans rfl
          obtain ⟨i0, hi0, hz0, hz1, hz2⟩ := info_parts infoSl
          obtain ⟨v', W7, s1, s2, s3, _, s5⟩ := run_append_own_at (w5.alloc (Obj.cells #[.slice ea El ec] 22)) (w.heap.size + 1) 65 65 22 i0 _ 1 24 Try.underlying65 hi0 hz0 hz1 hz2 rfl (by decide) (.slice oa k oc) k _ (own_below hO5 al6) ⟨w5.heap.size, 0, none⟩ 1 1 [.slice ea El ec] rfl (fun j u hu => by
            have := BE.cell j
            rw [Addr.add_lit, Nat.zero_add, this]
            simpa using hu) (fun u hu => by
            simp only [List.mem_cons, List.not_mem_nil, or_false] at hu
            subst hu; rfl) (by unfold maxLen; omega) (by omega) (by have := hb6.size; have := HST5.out.lt; have := al6.size; omega)
          have HRUN : Hid _ := s1
          have HST7 : Hid (PlSet W7 w.heap.size (((ves ++ [Value.slice ea El ec]).map plOf).map plV)) := by
            have h6 := HST5.out.below al6
            have hl6 := h6.lt
            obtain ⟨es, c, g1, g2⟩ := h6
            refine ⟨es, c, (s3.block _ hl6 (fun e => ?_)).trans g1, g2⟩
            have := (own_lt hO5 e.symm).1
            omega
          have hb7 : Below w.heap.size w W7 := hb6.grown s3 hb6.size (fun q hq => by have := (own_lt hO5 hq).1; omega)
          obtain ⟨na, nc, hv'⟩ := own_form s2
          subst hv'
          have HO7 : Hid (W7.ownsRow (w.heap.size + 1) 22 1 (.slice na (k + 1) nc) (k + 1) (ves ++ [Value.slice ea El ec])) := s2
          have HSD7 : Hid (Side n w (ves ++ [Value.slice ea El ec]) (M ++ [t.es])) := HSD.out.snoc HE.out.1 HE.out.2
          have q0 := (BT.cell 3).trans rfl
          clear r1 r2 r3 r4 s1 s2 s3 s5 hO5 BE HTD HR HSD HST2 HO2 HST5 hi0 hz0 hz1 hz2
          go_wp2_with (first | (at_lookup; refine wpList_lookup_pl rfl _ _ rfl rfl rfl HLK.out ?_) | (at_mapUpdate; refine wpList_update_pl rfl _ _ _ rfl rfl rfl rfl HUP.out ?_) | (at_builtin; refine wpList_ran rfl (append_run rfl rfl rfl HRUN.out) ?_) | fail)
          go_roundw
          case rel => exact ⟨i + 1, k + 1, na, nc, _, _, by go_num, rfl, by omega, by omega, HSD7, (by rw [HTK.out]; exact HMS.out.new HK.out : MsgS (ts.take (i + 1)) (M ++ [t.es])), HST7, HO7, hb7⟩
          case measure => simp [intOf]; omega
      · have hd : (K != 3) = true := by simpa using h3
        go_wp2_with fail
        have hb2 : Below w.heap.size w (wr.alloc (Obj.cells #[.int .i64 K, .int .i64 Tn, .string Ts, .slice ea El ec, .slice ra Rl rc] 25)) := hbel.alloc hbel.size _
        have hal : Below wr.heap.size wr (wr.alloc (Obj.cells #[.int .i64 K, .int .i64 Tn, .string Ts, .slice ea El ec, .slice ra Rl rc] 25)) := (Below.refl _ _).alloc (Nat.le_refl _) _
        go_roundw
        case rel => exact ⟨i + 1, k, oa, oc, ves, M, by go_num, rfl, by omega, by omega, HSD, (by rw [HTK.out]; exact HMS.out.skip (by rw [HK.out]; exact h3) : MsgS (ts.take (i + 1)) M), HST.out.below hal, own_below HO.out hal, hb2⟩
        case measure => simp [intOf]; omega
    · go_wp2_with fail
      go_ret
      have h5 := HMS.out
      rw [List.take_of_length_le (by rw [HN.out]; omega)] at h5
      exact ⟨_, M, rfl, HSD.out.row hbel HO.out, h5, hbel⟩
end Go.Proofs.Ytgedelgdjcnogaa
