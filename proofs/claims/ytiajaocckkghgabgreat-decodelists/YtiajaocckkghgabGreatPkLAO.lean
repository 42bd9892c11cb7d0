/- Part 15 of what the proof stands on. -/
import Derived.Test.YtiajaocckkghgabGreatPkLAN
namespace Go.Proofs.YtiajaocckkghgabGreat
set_option linter.unusedVariables false
set_option linter.unusedSimpArgs false
open Go.ChangeShapes Go.WideShapes Go.ChangeAt Go.RowKit
set_option maxRecDepth 20000
def numF (n : Int) : Fd := ⟨2, 0, n, ⟨#[]⟩⟩
def numT (n : Int) : Tr := ⟨1, n, ⟨#[]⟩, [], []⟩
theorem lists_s : checkA (s1A 2 3 2 ⟨#[]⟩) = 0 := by decide +kernel
theorem numF_ok (ns : List Int) : (ns.map numF).all okF = true := List.all_eq_true.2 fun r hr => by
 obtain ⟨n, _, rfl⟩ := List.mem_map.1 hr
 show okF ⟨2, 0, n, ⟨#[]⟩⟩ = true
 simp only [okF, okV, Bool.and_eq_true, Bool.or_eq_true, decide_eq_true_eq, beq_iff_eq, toList_empty]
 exact ⟨by omega, .inl ⟨trivial, trivial⟩⟩
theorem numF_64 {ns : List Int} (h : ∀ n ∈ ns, Is64 n) : ∀ r ∈ ns.map numF, Is64 r.n := fun r hr => by
 obtain ⟨n, hn, rfl⟩ := List.mem_map.1 hr
 exact h n hn
theorem num_len (a : Int) (h : Is64 a) : (fieldN (numF a)).length ≤ 20 := by
 have hz := zigN_bd a h.1 h.2
 have l1 := digs_len64 (2 * 2) (by omega)
 have l2 := digs_len64 (zigN a).toNat (by omega)
 have e : fieldN (numF a) = digs (2 * 2) ++ digs (zigN a).toNat := fieldN_num 2 a ⟨#[]⟩
 rw [e, List.length_append]
 omega
theorem numF_len {ns : List Int} (h : ∀ n ∈ ns, Is64 n) (hl : ns.length ≤ 100) : (flatN (ns.map numF)).length ≤ 4096 := by
 have : ∀ l : List Int, (∀ n ∈ l, Is64 n) → (flatN (l.map numF)).length ≤ 20 * l.length := fun l => by
  induction l with
  | nil => intro _; simp [flatN]
  | cons a l ih =>
   intro h
   have h1 := ih fun n hn => h n (List.mem_cons_of_mem _ hn)
   have h2 := h a (List.mem_cons_self ..)
   rw [List.map_cons, flatN_cons, List.length_append, List.length_cons]
   have h3 : (fieldN (numF a)).length ≤ 20 := num_len a h2
   omega
 have := this ns h
 omega
theorem lists_A {ns : List Int} (h : ∀ n ∈ ns, Is64 n) (hl : ns.length ≤ 100) : decA (s1A 2 3 2 ⟨#[]⟩) ⟨#[109]⟩ (flatN (ns.map numF)) = if 64 < ns.length then (tr0, 4) else (⟨3, 0, ⟨#[]⟩, if ns = [] then [] else [(2, ns.map numT)], []⟩, 0) := by
 unfold decA
 rw [lists_s, if_neg (by simp)]
 exact lists_dec (s1_msg 2 3 2 ⟨#[]⟩) rfl rfl rfl rfl ns h (numF_len h hl)
set_option maxHeartbeats 4000000 in
theorem decodeLists_walk (la : Option Addr) (L1 lc : Nat) (zs : List Int) (lb : Option Addr) (L2 ld : Nat) (zt : List Int) (w : World) (hI1 : IsRow .i64 w la L1 lc zs) (hc1 : lc * Tryz.prog.bytesOf 3 ≤ 140737488351232) (hI2 : IsRow .i64 w lb L2 ld zt) (hc2 : ld * Tryz.prog.bytesOf 3 ≤ 140737488351232) :
  Calls Tryz.prog 5 #[.slice la L1 lc, .slice lb L2 ld] w fun e w' => e = .returned (.bool true) ∧ Below w.heap.size w w' := by
 rw [show Tryz.prog.bytesOf 3 = 8 from by kernel_rfl] at hc1 hc2
 have HX : Hid (RowG w (.slice la L1 lc) 1 (inRows (zs.take L1)) ∧ (zs.take L1).length = L1) := hI1.rowG
 have HY : Hid (RowG w (.slice lb L2 ld) 1 (inRows (zt.take L2)) ∧ (zt.take L2).length = L2) := hI2.rowG
 have q1 := hI1.len.1
 have q2 := hI2.len.1
 have g1 : L1 ≤ 17592186043904 := by omega
 have g2 : L2 ≤ 17592186043904 := by omega
 obtain ⟨NS, hNS⟩ : ∃ z, zs.take L1 ++ zt.take L2 = z := ⟨_, rfl⟩
 have HNS : Hid (zs.take L1 ++ zt.take L2 = NS) := hNS
 have H64 : Hid (∀ n ∈ NS, Is64 n) := fun n hn => by
  rw [← hNS] at hn
  exact (List.mem_append.1 hn).elim (hI1.i64 n) (hI2.i64 n)
 have HNL : Hid (NS.length = L1 + L2) := (by rw [← hNS, List.length_append, HX.out.2, HY.out.2] : NS.length = L1 + L2)
 clear hI1 hI2 hc1 hc2 q1 q2 hNS
 obtain ⟨b0, hb0⟩ : ∃ z, w.heap.size = z := ⟨_, rfl⟩
 obtain ⟨BF, BM, BS, hbw⟩ := dblk3 w #[.string ⟨#[120]⟩, .int .i64 2, .int .i64 3, .int .i64 2, .string ⟨#[]⟩] #[.string ⟨#[109]⟩, .slice (some ⟨b0, 0, none⟩) 1 1, .slice none 0 0] #[.string ⟨#[97]⟩, .slice (some ⟨b0 + 1, 0, none⟩) 1 1, .slice none 0 0, .slice none 0 0] 56 34 26
 rw [hb0] at BF BM BS
 go_enter Tryz.func5, Tryz.ntmps5
 by_cases hN : 100 < L1 + L2
 ·have d : decide (100 < (L1 : Int) + (L2 : Int)) = true := by simp; omega
  clear BF BM BS hN
  go_wp2_with fail
  refine (dcawake_any _).mono ?_
  rintro e wz ⟨rfl, hbz⟩
  have hbwz : Below w.heap.size w wz := hbw.trans (hbz.mono hbw.size)
  clear hbz
  go_wp2_with fail
  go_ret
  exact ⟨rfl, hbwz⟩
 have d : decide (100 < (L1 : Int) + (L2 : Int)) = false := by simp; omega
 go_wp2_with fail
 generalize (((w.alloc (Obj.cells #[.string ⟨#[120]⟩, .int .i64 2, .int .i64 3, .int .i64 2, .string ⟨#[]⟩] 56)).alloc (Obj.cells #[.string ⟨#[109]⟩, .slice (some ⟨b0, 0, none⟩) 1 1, .slice none 0 0] 34)).alloc (Obj.cells #[.string ⟨#[97]⟩, .slice (some ⟨b0 + 1, 0, none⟩) 1 1, .slice none 0 0, .slice none 0 0] 26)) = W0 at *
 have HBW : Hid (Below w.heap.size w W0) := hbw
 have HBS : Hid (Blk W0 (b0 + 2) #[.string ⟨#[97]⟩, .slice (some ⟨b0 + 1, 0, none⟩) 1 1, .slice none 0 0, .slice none 0 0] 26) := BS
 have HSI : Hid (ScIn W0 (.agg #[.string ⟨#[97]⟩, .slice (some ⟨b0 + 1, 0, none⟩) 1 1, .slice none 0 0, .slice none 0 0]) (s1A 2 3 2 ⟨#[]⟩)) := s1_in BF BM
 clear BF BM BS hbw hb0 d
 have HO0 : Hid (W0.ownsRow W0.heap.size 44 4 (.slice none 0 0) ((NS.take 0).map numF).length (rawCells ((NS.take 0).map numF))) := World.ownsRow_nil _ _ _ _
 go_wp2_with fail
 go_loopw [6, 7] (fun ov iv wr => ∃ (i : Nat) (out : Value), iv = .int .i64 (i : Int) ∧ ov = out ∧ i ≤ L1 + L2 ∧ Hid (wr.ownsRow W0.heap.size 44 4 out ((NS.take i).map numF).length (rawCells ((NS.take i).map numF))) ∧ Below W0.heap.size W0 wr) (fun _ iv _ => L1 + L2 - (intOf iv).toNat)
 case atStart => exact ⟨0, _, rfl, rfl, by omega, HO0, Below.refl _ _⟩
 case round =>
  obtain ⟨i, out, rfl, rfl, hi, HO, hbr⟩ := hrel
  have HIL : Hid (((NS.take i).map numF).length = i) := (by rw [List.length_map, List.length_take, HNL.out]; omega : _ = _)
  obtain ⟨oa, oc, hov⟩ := own_form HO.out
  rw [HIL.out] at hov
  subst hov
  by_cases hlt : i < L1 + L2
  ·have d1 : decide ((i : Int) < (L1 : Int) + (L2 : Int)) = true := by simp; omega
   obtain ⟨x, hx⟩ : ∃ x, NS[i]? = some x := ⟨_, List.getElem?_eq_getElem (by rw [HNL.out]; exact hlt)⟩
   have HTK : Hid ((NS.take (i + 1)).map numF = (NS.take i).map numF ++ [numF x]) := (by
    obtain ⟨h1, h2⟩ := List.getElem?_eq_some_iff.1 hx
    rw [List.take_succ_eq_append_getElem h1, List.map_append, h2]; rfl : _ = _)
   have al2 : Below wr.heap.size wr ((wr.alloc (Obj.cells #[.int .i64 2, .int .i64 0, .int .i64 x, .string ⟨#[]⟩] 44)).alloc (Obj.cells #[.int .i64 2, .int .i64 0, .int .i64 x, .string ⟨#[]⟩] 44)) := ((Below.refl _ _).alloc (Nat.le_refl _) _).alloc (by simp) _
   have BZ : Blk ((wr.alloc (Obj.cells #[.int .i64 2, .int .i64 0, .int .i64 x, .string ⟨#[]⟩] 44)).alloc (Obj.cells #[.int .i64 2, .int .i64 0, .int .i64 x, .string ⟨#[]⟩] 44)) (wr.heap.size + 1) (numF x).cells.toArray 44 := (by
    have h1 := Blk.new (wr.alloc (Obj.cells #[.int .i64 2, .int .i64 0, .int .i64 x, .string ⟨#[]⟩] 44)) #[.int .i64 2, .int .i64 0, .int .i64 x, .string ⟨#[]⟩] 44
    rw [World.size_alloc] at h1
    exact h1 : Blk _ _ _ _)
   obtain ⟨pa, pc, W', r1, r2, r3⟩ := pushRaw (own_below HO.out al2) (Nat.le_trans hbr.size al2.size) (numF x) (by rw [HIL.out]; omega) BZ
   rw [HIL.out] at r1 r2
   have HAP : Hid ((Builtin.append_ #[37, 37] 37 #[.slice oa i oc, .slice (some ⟨wr.heap.size + 1, 0, none⟩) 1 1]).run Tryz.prog ((wr.alloc (Obj.cells #[.int .i64 2, .int .i64 0, .int .i64 x, .string ⟨#[]⟩] 44)).alloc (Obj.cells #[.int .i64 2, .int .i64 0, .int .i64 x, .string ⟨#[]⟩] 44)) = .ok (.slice pa (i + 1) pc) W') := r1
   have HO1 : Hid (W'.ownsRow W0.heap.size 44 4 (.slice pa (i + 1) pc) ((NS.take (i + 1)).map numF).length (rawCells ((NS.take (i + 1)).map numF))) := (by rw [HTK.out]; exact r2 : World.ownsRow _ _ _ _ _ _ _)
   have hbr1 : Below W0.heap.size W0 W' := (hbr.trans (al2.mono hbr.size)).trans r3
   clear r1 r2 r3 BZ al2
   by_cases h1 : i < L1
   ·have hxx : (zs.take L1)[i]? = some x := by
     have := hx
     rw [← HNS.out, List.getElem?_append_left (by rw [HX.out.2]; exact h1)] at this
     exact this
    obtain ⟨g, off, rfl, c1⟩ := (HX.out.1.below (HBW.out.trans (hbr.mono HBW.out.size))).get (i := i) (c := [.int .i64 x]) (by rw [inRows, List.getElem?_map, hxx]; rfl)
    have p0 : wr.cell? ⟨g, off + i * 1 + 0, none⟩ = some (.int .i64 x) := c1 0 _ rfl
    rw [Nat.mul_one, Nat.add_zero] at p0
    have ltg : g < wr.heap.size := World.block_lt_of_cell? _ _ p0
    clear c1 hxx hx HO HIL HTK
    go_wp2_with (first | (at_builtin; refine wpList_app rfl _ _ rfl rfl rfl HAP.out ?_) | fail)
    go_roundw
    case rel => exact ⟨i + 1, _, by go_num, rfl, by omega, HO1, hbr1⟩
    case measure => simp [intOf]; omega
   ·obtain ⟨j, hj0⟩ : ∃ j, i = L1 + j := ⟨i - L1, by omega⟩
    have hj : (i : Int) - (L1 : Int) = (j : Int) := by omega
    have hj2 : j < L2 := by omega
    have hxx : (zt.take L2)[j]? = some x := by
     have := hx
     rw [← HNS.out, List.getElem?_append_right (by rw [HX.out.2]; omega), HX.out.2, hj0, Nat.add_sub_cancel_left] at this
     exact this
    obtain ⟨g, off, rfl, c1⟩ := (HY.out.1.below (HBW.out.trans (hbr.mono HBW.out.size))).get (i := j) (c := [.int .i64 x]) (by rw [inRows, List.getElem?_map, hxx]; rfl)
    have p0 : wr.cell? ⟨g, off + j * 1 + 0, none⟩ = some (.int .i64 x) := c1 0 _ rfl
    rw [Nat.mul_one, Nat.add_zero] at p0
    have ltg : g < wr.heap.size := World.block_lt_of_cell? _ _ p0
    have HI0 : Hid (i = L1 + j) := hj0
    clear c1 hxx hx HO HIL HTK hj0
    go_wp2_with (first | (at_builtin; refine wpList_app rfl _ _ rfl rfl rfl HAP.out ?_) | fail)
    go_roundw
    case rel => exact ⟨i + 1, _, by go_num, rfl, by omega, HO1, hbr1⟩
    case measure => simp [intOf]; omega
  ·have hiN : i = L1 + L2 := by omega
   have HIN : Hid (i = L1 + L2) := hiN
   have e1 : NS.take i = NS := List.take_of_length_le (by rw [HNL.out]; omega)
   have hO := HO.out
   rw [e1] at hO
   obtain ⟨qa, qc, hq, -, hqb, hqc1, hqc2, hqh⟩ := own_openR hO
   simp only [Value.slice.injEq] at hq
   obtain ⟨rfl, hqn, rfl⟩ := hq
   have HLH : Hid (HoldsR wr oa (NS.map numF) ∧ (NS.map numF = [] ∨ ∃ g off, oa = some ⟨g, off, none⟩)) := ⟨hqh, own_adrR hqb⟩
   have hN1 : NS.length = i := by rw [HNL.out]; omega
   have HN1 : Hid (NS.length = i) := hN1
   have hpl : putL (NS.map numF) = (flatN (NS.map numF), 0) := by
    unfold putL
    rw [if_pos (numF_ok NS), if_pos (numF_len H64.out (by omega))]
   have HPA : Hid (Calls Tryz.prog 12 #[.slice oa i oc] wr fun e w' => ∃ v, e = .returned (.tuple #[v, .int .i64 0]) ∧ w'.ownsRow wr.heap.size 5 1 v (flatN (NS.map numF)).length (byteCells (flatN (NS.map numF))) ∧ Below wr.heap.size wr w') := (by
    have h1 := wputall_any oa (NS.map numF) i oc wr hqn.symm (own_adrR hqb) (by omega) hqc2 (by omega) hqh (numF_64 H64.out)
    rw [hpl] at h1
    simpa using h1 : Calls Tryz.prog _ _ _ _)
   have d0 : decide ((i : Int) < (L1 : Int) + (L2 : Int)) = false := by simp; omega
   have hi100 : i ≤ 100 := by omega
   clear e1 hO hqn hqb hqc1 hqc2 hqh hpl HO HIL hN1 hiN hlt hi
   go_wp2_with fail
   refine HPA.out.mono ?_
   rintro e w3 ⟨v, rfl, hown, hb3⟩
   have hbr3 : Below W0.heap.size W0 w3 := hbr.trans (hb3.mono hbr.size)
   have HL3 : Hid (HoldsR w3 oa (NS.map numF)) := HLH.out.1.below hb3
   obtain ⟨R, hR⟩ : ∃ R : Tr × Int, (if 64 < NS.length then (tr0, 4) else (⟨3, 0, ⟨#[]⟩, if NS = [] then [] else [(2, NS.map numT)], []⟩, 0)) = R := ⟨_, rfl⟩
   have HRR : Hid ((if 64 < NS.length then (tr0, 4) else (⟨3, 0, ⟨#[]⟩, if NS = [] then [] else [(2, NS.map numT)], []⟩, 0)) = R) := hR
   have HDE : Hid (Calls Tryz.prog 13 #[.agg #[.string ⟨#[97]⟩, .slice (some ⟨b0 + 1, 0, none⟩) 1 1, .slice none 0 0, .slice none 0 0], .string ⟨#[109]⟩, v] w3 (DtrP 11 R w3)) := (by
    have h1 := decode_any (HSI.out.below hbr3) (s1_w 2 3 2 ⟨#[]⟩ (by unfold I64; omega) (by unfold I64; omega) (by unfold I64; omega) (by decide)) (s1_few 2 3 2 ⟨#[]⟩) (ByS.own hown (flatN_lt _)) (nm := ⟨#[109]⟩)
    rw [lists_A H64.out (by rw [HN1.out]; omega), hR] at h1
    exact h1 : Calls Tryz.prog _ _ _ _)
   have BS3 := HBS.out.below hbr3
   have s0 := (BS3.cell 0).trans rfl
   have s1 := (BS3.cell 1).trans rfl
   have s2 := (BS3.cell 2).trans rfl
   have s3 := (BS3.cell 3).trans rfl
   clear BS3 hown hR HPA hb3 hbr
   go_wp2_with fail
   refine HDE.out.mono ?_
   rintro e w4 ⟨r, bs, rfl, ht, hap, hb4⟩
   have hbr4 : Below W0.heap.size W0 w4 := hbr3.trans (hb4.mono hbr3.size)
   have hbw4 : Below w.heap.size w w4 := HBW.out.trans (hbr4.mono HBW.out.size)
   have HL4 : Hid (HoldsR w4 oa (NS.map numF)) := HL3.out.below hb4
   have hTI := ht.trIn
   obtain ⟨a1, n1, c1, a2, n2, c2, rfl⟩ := ht.open
   clear HDE s0 s1 s2 s3 hap hb4 ht hbr3 HL3
   by_cases h64 : 64 < i
   ·have hR1 : R = (tr0, 4) := by rw [← HRR.out, if_pos (by rw [HN1.out]; exact h64)]
    subst hR1
    simp only [tr0] at hTI ⊢
    have d2 : decide ((64 : Int) < (i : Int)) = true := by simp; omega
    have hbw5 : Below w.heap.size w (w4.alloc (Obj.cells #[.int .i64 0, .int .i64 0, .string ⟨#[]⟩, .slice a1 n1 c1, .slice a2 n2 c2] 39)) := hbw4.alloc hbw4.size _
    clear hTI d0
    go_wp2_with fail
    refine (dcawake_any _).mono ?_
    rintro e wz ⟨rfl, hbz⟩
    have hbwz : Below w.heap.size w wz := hbw5.trans (hbz.mono hbw5.size)
    clear hbz
    go_wp2_with fail
    go_ret
    exact ⟨rfl, hbwz⟩
   ·have hR1 : R = (⟨3, 0, ⟨#[]⟩, if NS = [] then [] else [(2, NS.map numT)], []⟩, 0) := by rw [← HRR.out, if_neg (by rw [HN1.out]; exact h64)]
    subst hR1
    have d2 : decide ((64 : Int) < (i : Int)) = false := by simp; omega
    simp only at hTI ⊢
    obtain ⟨m', ve, vr, hm', hrr, -, -, -, -, ra, ea⟩ := hTI.open
    obtain rfl : m' = 10 := by omega
    simp only [Value.agg.injEq, Array.mk.injEq, List.cons.injEq, and_true, true_and] at hrr
    obtain ⟨rfl, rfl⟩ := hrr
    obtain ⟨qa, qc, hq, -⟩ := rest_holds ra
    simp only [Value.slice.injEq] at hq
    obtain ⟨rfl, rfl, rfl⟩ := hq
    clear ra hm'
    have hbw5 : ∀ x : Value, Below w.heap.size w (w4.alloc (Obj.cells #[.int .i64 3, .int .i64 0, .string ⟨#[]⟩, x, .slice a2 0 c2] 39)) := fun x => hbw4.alloc hbw4.size _
    have hmin1 : min (i : Int) 1 = if i = 0 then 0 else 1 := by split <;> omega
    by_cases hz : NS = []
    ·have hi0 : i = 0 := by rw [← HN1.out, hz]; rfl
     subst hi0
     rw [if_pos hz] at ea
     obtain ⟨ga, gc, hg, -⟩ := ea.open
     simp only [Value.slice.injEq, List.length_nil] at hg
     obtain ⟨rfl, rfl, rfl⟩ := hg
     have hbw6 := hbw5 (.slice a1 0 c1)
     clear ea hz hbw5
     simp only [List.length_nil]
     go_wp2_with fail
     go_loopw [13] (fun iv wy => iv = .int .i64 0 ∧ Below w.heap.size w wy) (fun _ _ => 0)
     case atStart => exact ⟨rfl, hbw6⟩
     case round =>
      obtain ⟨rfl, hby⟩ := hrel
      go_wp2_with fail
      refine (dcawake_any _).mono ?_
      rintro e wz ⟨rfl, hbz⟩
      have hbwz : Below w.heap.size w wz := hby.trans (hbz.mono hby.size)
      clear hbz
      go_wp2_with fail
      go_ret
      exact ⟨rfl, hbwz⟩
    ·have hi0 : i ≠ 0 := fun e => hz (List.eq_nil_of_length_eq_zero (by rw [HN1.out]; exact e))
     rw [if_neg hz] at ea
     rw [if_neg hi0] at hmin1
     obtain ⟨ga, gc, hg, -⟩ := ea.open
     simp only [Value.slice.injEq, List.length_singleton] at hg
     obtain ⟨rfl, rfl, rfl⟩ := hg
     obtain ⟨ge, oe, rfl, hen⟩ := ea.get (i := 0) rfl
     obtain ⟨vt, -, hc1, -, hts⟩ := ens_at hen
     simp only at hts
     obtain ⟨ta, tc, rfl, -⟩ := hts.open
     rw [List.length_map, HN1.out] at hts hc1
     rw [Nat.zero_mul, Nat.add_zero] at hc1
     have al6 : Below w4.heap.size w4 (w4.alloc (Obj.cells #[.int .i64 3, .int .i64 0, .string ⟨#[]⟩, .slice (some ⟨ge, oe, none⟩) 1 c1, .slice a2 0 c2] 39)) := (Below.refl _ _).alloc (Nat.le_refl _) _
     have BT6 : Blk (w4.alloc (Obj.cells #[.int .i64 3, .int .i64 0, .string ⟨#[]⟩, .slice (some ⟨ge, oe, none⟩) 1 c1, .slice a2 0 c2] 39)) w4.heap.size #[.int .i64 3, .int .i64 0, .string ⟨#[]⟩, .slice (some ⟨ge, oe, none⟩) 1 c1, .slice a2 0 c2] 39 := Blk.new w4 _ _
     have hbw6 := hbw5 (.slice (some ⟨ge, oe, none⟩) 1 c1)
     have HTS : Hid (TrsIn 10 (w4.alloc (Obj.cells #[.int .i64 3, .int .i64 0, .string ⟨#[]⟩, .slice (some ⟨ge, oe, none⟩) 1 c1, .slice a2 0 c2] 39)) (.slice ta i tc) (NS.map numT)) := hts.belowT al6
     have HC1 : Hid ((w4.alloc (Obj.cells #[.int .i64 3, .int .i64 0, .string ⟨#[]⟩, .slice (some ⟨ge, oe, none⟩) 1 c1, .slice a2 0 c2] 39)).cell? ⟨ge, oe + 1, none⟩ = some (.slice ta i tc)) := ((al6.cell (World.block_lt_of_cell? _ _ hc1)).trans hc1 : _ = _)
     have HL6 : Hid (HoldsR (w4.alloc (Obj.cells #[.int .i64 3, .int .i64 0, .string ⟨#[]⟩, .slice (some ⟨ge, oe, none⟩) 1 c1, .slice a2 0 c2] 39)) oa (NS.map numF)) := HL4.out.below al6
     have HW6 : Hid (Below w.heap.size w (w4.alloc (Obj.cells #[.int .i64 3, .int .i64 0, .string ⟨#[]⟩, .slice (some ⟨ge, oe, none⟩) 1 c1, .slice a2 0 c2] 39))) := hbw6
     have hfalse : ((1 : Int) != 1) = false := rfl
     clear hen hts hc1 al6 ea hbw5 hbw6 hz
     try simp only [List.length_singleton]
     go_wp2_with fail
     obtain ⟨b4, hb4⟩ : ∃ z, w4.heap.size = z := ⟨_, rfl⟩
     rw [hb4] at BT6
     simp only [hb4]
     clear hb4
     generalize (w4.alloc (Obj.cells #[.int .i64 3, .int .i64 0, .string ⟨#[]⟩, .slice (some ⟨ge, oe, none⟩) 1 c1, .slice a2 0 c2] 39)) = W6 at *
     have HB6 : Hid (Blk W6 b4 #[.int .i64 3, .int .i64 0, .string ⟨#[]⟩, .slice (some ⟨ge, oe, none⟩) 1 c1, .slice a2 0 c2] 39) := BT6
     clear BT6
     go_loopw [13] (fun iv wy => ∃ k : Nat, iv = .int .i64 (k : Int) ∧ k ≤ i ∧ Below W6.heap.size W6 wy) (fun iv _ => i - (intOf iv).toNat)
     case atStart => exact ⟨0, rfl, by omega, Below.refl _ _⟩
     case round =>
      obtain ⟨k, rfl, hk, hby⟩ := hrel
      by_cases hki : k < i
      ·obtain ⟨x, hx⟩ : ∃ x, NS[k]? = some x := ⟨_, List.getElem?_eq_getElem (by rw [HN1.out]; exact hki)⟩
       obtain ⟨gt, ot, rfl, htr⟩ := (HTS.out.belowT hby).get (i := k) (x := numT x) (by rw [List.getElem?_map, hx]; rfl)
       obtain ⟨_, _, -, tc1, -, -, -, -, -, -⟩ := trs_at (n := 9) htr
       obtain ⟨gl, ol, rfl⟩ : ∃ g off, oa = some ⟨g, off, none⟩ := by
        rcases HLH.out.2 with h0 | h0
        ·have : NS = [] := List.map_eq_nil_iff.1 h0
         rw [this] at hx; simp at hx
        ·exact h0
       have hl := ((HL6.out.below hby).at (i := k) (r := numF x) (by rw [List.getElem?_map, hx]; rfl)).2.2.1
       have l2 : wr.cell? ⟨gl, ol + k * 4 + 2, none⟩ = some (.int .i64 x) := hl
       have t1 : wr.cell? ⟨gt, ot + k * 5 + 1, none⟩ = some (.int .i64 x) := tc1
       have c1' : wr.cell? ⟨ge, oe + 1, none⟩ = some (.slice (some ⟨gt, ot, none⟩) i tc) := (hby.cell (World.block_lt_of_cell? _ _ HC1.out)).trans HC1.out
       have b3 : wr.cell? ⟨b4, 3, none⟩ = some (.slice (some ⟨ge, oe, none⟩) 1 c1) := ((HB6.out.below hby).cell 3).trans rfl
       clear hl tc1 htr hx
       go_upto_region 24 with fail
       go_quiet (fail)
       have hby2 : Below W6.heap.size W6 (wr.drewN nq) := below_drewN nq hby
       clear l2 t1 c1' b3
       go_wp2_with fail
       go_roundw
       case rel => exact ⟨k + 1, by go_num, by omega, hby2⟩
       case measure => simp [intOf]; omega
      ·obtain rfl : k = i := by omega
       have hbwy : Below w.heap.size w wr := HW6.out.trans (hby.mono HW6.out.size)
       go_wp2_with fail
       refine (dcawake_any _).mono ?_
       rintro e wz ⟨rfl, hbz⟩
       have hbwz : Below w.heap.size w wz := hbwy.trans (hbz.mono hbwy.size)
       clear hbz
       go_wp2_with fail
       go_ret
       exact ⟨rfl, hbwz⟩
end Go.Proofs.YtiajaocckkghgabGreat
