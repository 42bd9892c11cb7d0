/- Part 16 of what the proof stands on. -/
import Derived.Test.YtiajaocckkghgaaGreatPkUAO
namespace Go.Proofs.YtiajaocckkghgaaGreat
set_option linter.unusedVariables false
set_option linter.unusedSimpArgs false
open Go.ChangeShapes Go.WideShapes Go.ChangeAt Go.RowKit
set_option maxRecDepth 20000
theorem sort_twice (l : List Fd) : sortF (sortF l) = sortF l := by
 refine rises_uniq _ _ (sortF_all _ _ (Nat.le_refl _)).1 (sortF_all _ _ (Nat.le_refl _)).1 fun t => ?_
 exact (sortF_all _ _ (Nat.le_refl _)).2.2.2 t
theorem sort_ok {l : List Fd} (h : (putL l).2 = 0) : putL (sortF l) = (flatN (sortF l), 0) ∧ (flatN (sortF l)).length ≤ 4096 ∧ (sortF l).all okF = true := by
 obtain ⟨ho, hl, _⟩ := putL_inv h
 have h1 : (sortF l).all okF = true := List.all_eq_true.2 fun r hr => List.all_eq_true.1 ho r ((sortF_perm l).mem_iff.1 hr)
 have h2 : (flatN (sortF l)).length = (flatN l).length := by rw [wid_flat, wid_flat, wid_perm (sortF_perm l)]
 have h3 : (flatN (sortF l)).length ≤ 4096 := by omega
 refine ⟨?_, h3, h1⟩
 unfold putL
 rw [if_pos h1, if_pos h3]
def unkT (l : List Fd) : Tr := ⟨3, 0, ⟨#[]⟩, [], sortF l⟩
theorem unk_dec {l : List Fd} (h : (putL l).2 = 0) (h64 : ∀ r ∈ l, Is64 r.n) : decA s0A ⟨#[109]⟩ (flatN l) = (unkT l, 0) := by
 obtain ⟨ho, hl, _⟩ := putL_inv h
 exact s0_dec ho h64 hl
theorem unk_enc {l : List Fd} (h : (putL l).2 = 0) (h64 : ∀ r ∈ l, Is64 r.n) : encA 11 (unkT l) = (flatN (sortF l), 0) := by
 obtain ⟨h1, h2, h3⟩ := sort_ok h
 have hd := unk_dec h h64
 have hOK : OkS s0A := (checkA_ok _).1 s0_ok
 have h0 : decM 10 s0A ⟨#[109]⟩ (flatN l) = (unkT l, 0) := by
  have := hd
  unfold decA at this
  rwa [s0_ok, if_neg (by simp)] at this
 have hf := (dec_fit 10 s0A ⟨#[109]⟩ (flatN l) (flatN_lt l) (by rw [h0])).1
 rw [h0] at hf
 have hc : chkN 11 (unkT l) = true := hf.chk hOK (by decide)
 have hr : rawsA 11 (unkT l) = (sortF l, 0) := by
  unfold rawsA
  rw [if_pos ⟨rfl, hc⟩]
  have he : errE (fsE (bytE (11 - 1)) (unkT l).es) = 0 := rfl
  rw [rwE_ok he]
  show (sortF ([] ++ sortF l), 0) = _
  rw [List.nil_append, sort_twice]
 unfold encA
 rw [hr]
 unfold ofR
 rw [if_neg (by simp)]
 exact h1
theorem unk_can {l : List Fd} (h : (putL l).2 = 0) (h64 : ∀ r ∈ l, Is64 r.n) : canA s0A ⟨#[109]⟩ (flatN (sortF l)) = true := by
 obtain ⟨h1, h2, h3⟩ := sort_ok h
 have h5 : ∀ r ∈ sortF l, Is64 r.n := fun r hr => h64 r ((sortF_perm l).mem_iff.1 hr)
 have h4 := unk_dec (l := sortF l) (by rw [h1]) h5
 have e1 : unkT (sortF l) = unkT l := by unfold unkT; rw [sort_twice]
 rw [e1] at h4
 unfold canA
 rw [h4]
 simp only
 rw [unk_enc h h64]
 simp
set_option maxHeartbeats 4000000 in
theorem decodeUnknown_walk (la : Option Addr) (N lc : Nat) (rs : List Fd) (w : World) (hC : CameR w la N lc rs) :
  Calls Tryz.prog 8 #[.slice la N lc] w fun e w' => e = .returned (.bool true) ∧ Below w.heap.size w w' := by
 have HC : Hid (CameR w la N lc rs) := hC
 have hN1 : N ≤ lc := hC.le
 have hN2 : lc ≤ maxLen := hC.max
 unfold maxLen at hN2
 clear hC
 obtain ⟨b0, hb0⟩ : ∃ z, w.heap.size = z := ⟨_, rfl⟩
 obtain ⟨BM, BS, hbw⟩ := dblk2 w #[.string ⟨#[109]⟩, .slice none 0 0, .slice none 0 0] #[.string ⟨#[97]⟩, .slice (some ⟨b0, 0, none⟩) 1 1, .slice none 0 0, .slice none 0 0] 50 26
 rw [hb0] at BM BS
 go_enter Tryz.func8, Tryz.ntmps8
 go_wp2_with fail
 generalize ((w.alloc (Obj.cells #[.string ⟨#[109]⟩, .slice none 0 0, .slice none 0 0] 50)).alloc (Obj.cells #[.string ⟨#[97]⟩, .slice (some ⟨b0, 0, none⟩) 1 1, .slice none 0 0, .slice none 0 0] 26)) = W0 at *
 have HBW : Hid (Below w.heap.size w W0) := hbw
 have HBS : Hid (Blk W0 (b0 + 1) #[.string ⟨#[97]⟩, .slice (some ⟨b0, 0, none⟩) 1 1, .slice none 0 0, .slice none 0 0] 26) := BS
 have HSI : Hid (ScIn W0 (.agg #[.string ⟨#[97]⟩, .slice (some ⟨b0, 0, none⟩) 1 1, .slice none 0 0, .slice none 0 0]) s0A) := sc_one BM (RowG.nil _ _)
 clear BM BS hbw hb0
 go_wp2_with fail
 go_loopw [4] (fun iv wr => ∃ (i : Nat), iv = .int .i64 (i : Int) ∧ i ≤ N ∧ wr = W0) (fun iv _ => N - (intOf iv).toNat)
 case atStart => exact ⟨0, rfl, by omega, rfl⟩
 case round =>
  obtain ⟨i, rfl, hi, rfl⟩ := hrel
  by_cases hlt : i < N
  ·obtain ⟨r, hx⟩ : ∃ r, rs[i]? = some r := ⟨_, List.getElem?_eq_getElem (by rw [HC.out.len]; exact hlt)⟩
   obtain ⟨g, off, rfl⟩ : ∃ g off, la = some ⟨g, off, none⟩ := by
    rcases HC.out.adr with h0 | h0
    ·rw [h0] at hx; simp at hx
    ·exact h0
   obtain ⟨rt, rk, rn, rb⟩ := r
   obtain ⟨-, -, -, c3⟩ := (HC.out.holds.below HBW.out).at hx
   simp only at c3
   clear hx
   by_cases hbig : 1000 < rb.size
   ·have d : decide ((1000 : Int) < (rb.size : Int)) = true := by simp; omega
    go_wp2_with fail
    refine (dcawake_any _).mono ?_
    rintro e wz ⟨rfl, hbz⟩
    have hbwz : Below w.heap.size w wz := HBW.out.trans (hbz.mono HBW.out.size)
    clear hbz
    go_wp2_with fail
    go_ret
    exact ⟨rfl, hbwz⟩
   ·have d : decide ((1000 : Int) < (rb.size : Int)) = false := by simp; omega
    go_wp2_with fail
    go_roundw
    case rel => exact ⟨i + 1, by go_num, by omega, by first | rfl | trivial⟩
    case measure => simp [intOf]; omega
  ·obtain rfl : i = N := by omega
   by_cases h40 : 40 < i
   ·have d : decide ((40 : Int) < (i : Int)) = true := by simp; omega
    go_wp2_with fail
    refine (dcawake_any _).mono ?_
    rintro e wz ⟨rfl, hbz⟩
    have hbwz : Below w.heap.size w wz := HBW.out.trans (hbz.mono HBW.out.size)
    clear hbz
    go_wp2_with fail
    go_ret
    exact ⟨rfl, hbwz⟩
   have d : decide ((40 : Int) < (i : Int)) = false := by simp; omega
   have HRW : Hid (∀ W, Below wr.heap.size wr W → Calls Tryz.prog 26 #[.slice la i lc] W fun e w' => ∃ r, e = .returned r ∧ w'.ownsRow W.heap.size 61 4 r i (rawCells rs) ∧ Below W.heap.size W w') := fun W hW => raws_any la rs i lc W HC.out.len (by omega) HC.out.nil (HC.out.holds.below (HBW.out.trans (hW.mono HBW.out.size)))
   have HSW : Hid (∀ W, Below wr.heap.size wr W → Calls Tryz.prog 26 #[.slice la i lc] W fun e w' => ∃ a c, e = .returned (.slice a i c) ∧ HoldsR w' a rs ∧ (rs = [] ∨ ∃ g off, a = some ⟨g, off, none⟩) ∧ i ≤ c ∧ c ≤ maxLen ∧ Below W.heap.size W w') := fun W hW => by
    refine (HRW.out W hW).mono ?_
    rintro e w' ⟨r, rfl, ho, hb⟩
    obtain ⟨a, c, rfl, hn, h1, h2, h3, h4⟩ := own_openR ho
    exact ⟨a, c, by rw [HC.out.len], h4, own_adrR h1, by rw [← HC.out.len]; exact h2, h3, hb⟩
   have HSO : Hid (∀ W a c, i ≤ c → c ≤ maxLen → HoldsR W a rs → (rs = [] ∨ ∃ g off, a = some ⟨g, off, none⟩) → Calls Tryz.prog 28 #[.slice a i c] W fun e w' => ∃ g, e = .returned (.slice (some ⟨g, 0, none⟩) i i) ∧ w'.ownsRow W.heap.size 61 4 (.slice (some ⟨g, 0, none⟩) i i) (sortF rs).length (rawCells (sortF rs)) ∧ Below W.heap.size W w') := fun W a c h1 h2 h3 h4 => by
    refine (sorted_out rs a i c W HC.out.len (by omega) h4 h1 h2 h3).mono ?_
    rintro e w' ⟨g, rfl, hg, -, ho, hb⟩
    have h5 := ho.own (B := W.heap.size) hg (N := i) (by rw [sortF_lenD]; exact HC.out.len) (by unfold maxLen; omega)
    rw [show (sortF rs).length = i from by rw [sortF_lenD]; exact HC.out.len]
    exact ⟨g, rfl, h5, hb⟩
   clear HRW
   have hS0 : Below wr.heap.size wr wr := Below.refl _ _
   go_wp2_with fail
   refine (HSW.out _ hS0).mono ?_
   rintro e w1 ⟨a1, c1, rfl, hh1, ha1, hc1, hm1, hb1⟩
   have hr1 : Below wr.heap.size wr w1 := hb1
   have HPA : Hid (Calls Tryz.prog 25 #[.slice a1 i c1] w1 fun e w' => ∃ v, e = .returned (.tuple #[v, .int .i64 ((putL rs).2 : Int)]) ∧ w'.ownsRow w1.heap.size 5 1 v (putL rs).1.length (byteCells (putL rs).1) ∧ Below w1.heap.size w1 w') := wputall_any a1 rs i c1 w1 HC.out.len ha1 hc1 hm1 (by omega) hh1 HC.out.n64
   clear hh1 ha1 hc1 hm1 hb1 hS0
   go_wp2_with fail
   refine HPA.out.mono ?_
   rintro e w2 ⟨v2, rfl, hown2, hb2⟩
   have hr2 : Below wr.heap.size wr w2 := hr1.trans (hb2.mono hr1.size)
   have hbw2 : Below w.heap.size w w2 := HBW.out.trans (hr2.mono HBW.out.size)
   by_cases hp : (putL rs).2 = 0
   rotate_left
   ·obtain ⟨pe, hpe⟩ : ∃ z, (putL rs).2 = z := ⟨_, rfl⟩
    rw [hpe] at hp ⊢
    have dd : ((pe : Int) != 0) = true := by simp; omega
    clear hown2 hp hpe
    go_wp2_with fail
    refine (dcawake_any _).mono ?_
    rintro e wz ⟨rfl, hbz⟩
    have hbwz : Below w.heap.size w wz := hbw2.trans (hbz.mono hbw2.size)
    clear hbz
    go_wp2_with fail
    go_ret
    exact ⟨rfl, hbwz⟩
   obtain ⟨-, -, hpl⟩ := putL_inv hp
   rw [hpl] at hown2 ⊢
   have HP : Hid ((putL rs).2 = 0) := hp
   simp only [show ((0 : Nat) : Int) = 0 from rfl]
   have HDE : Hid (Calls Tryz.prog 11 #[.agg #[.string ⟨#[97]⟩, .slice (some ⟨b0, 0, none⟩) 1 1, .slice none 0 0, .slice none 0 0], .string ⟨#[109]⟩, v2] w2 (DtrP 11 (unkT rs, 0) w2)) := (by
    have h1 := decode_any (HSI.out.below hr2) s0_w s0_few (ByS.own hown2 (flatN_lt _)) (nm := ⟨#[109]⟩)
    rw [unk_dec HP.out HC.out.n64] at h1
    exact h1 : Calls Tryz.prog _ _ _ _)
   have BS2 := HBS.out.below hr2
   have s0 := (BS2.cell 0).trans rfl
   have s1 := (BS2.cell 1).trans rfl
   have s2 := (BS2.cell 2).trans rfl
   have s3 := (BS2.cell 3).trans rfl
   clear hp hpl hown2 BS2 HPA hb2 hr1
   go_wp2_with fail
   refine HDE.out.mono ?_
   rintro e w3 ⟨r3, bs, rfl, ht, hap, hb3⟩
   have hr3 : Below wr.heap.size wr w3 := hr2.trans (hb3.mono hr2.size)
   have hTI := ht.trIn
   obtain ⟨ea, en, ec, ra, rn, rc, rfl⟩ := ht.open
   obtain ⟨m', ve, vr, hm', hrr, -, -, -, -, hra, hea⟩ := hTI.open
   obtain rfl : m' = 10 := by omega
   simp only [Value.agg.injEq, Array.mk.injEq, List.cons.injEq, and_true, true_and] at hrr
   obtain ⟨rfl, rfl⟩ := hrr
   have hrn : rn = i := by
    obtain ⟨qa, qc, hq, -⟩ := rest_holds hra
    simp only [Value.slice.injEq] at hq
    rw [hq.2.1]
    show (sortF rs).length = i
    rw [sortF_lenD]; exact HC.out.len
   have hen : en = 0 := by
    obtain ⟨qd, qe, hqq, -⟩ := hea.open
    simp only [Value.slice.injEq] at hqq
    exact hqq.2.1.trans rfl
   subst hrn hen
   simp only [show (unkT rs).kind = 3 from rfl, show (unkT rs).n = 0 from rfl, show (unkT rs).s = ⟨#[]⟩ from rfl] at hTI ⊢
   have HRR : Hid (RowG w3 (.slice ra rn rc) 4 (fdRows (sortF rs))) := hra
   have al3 : Below w3.heap.size w3 (w3.alloc (Obj.cells #[.int .i64 3, .int .i64 0, .string ⟨#[]⟩, .slice ea 0 ec, .slice ra rn rc] 33)) := (Below.refl _ _).alloc (Nat.le_refl _) _
   have hr4 : Below wr.heap.size wr (w3.alloc (Obj.cells #[.int .i64 3, .int .i64 0, .string ⟨#[]⟩, .slice ea 0 ec, .slice ra rn rc] 33)) := hr3.trans (al3.mono hr3.size)
   have BT4 : Blk (w3.alloc (Obj.cells #[.int .i64 3, .int .i64 0, .string ⟨#[]⟩, .slice ea 0 ec, .slice ra rn rc] 33)) w3.heap.size #[.int .i64 3, .int .i64 0, .string ⟨#[]⟩, .slice ea 0 ec, .slice ra rn rc] 33 := Blk.new w3 _ _
   have HSMA : Hid (SmN 11 (unkT rs)) := (by
    have h1 := dcA_small (s := s0A) (nm := ⟨#[109]⟩) (ns := flatN rs) (flatN_lt _) (by rw [unk_dec HP.out HC.out.n64])
    rw [unk_dec HP.out HC.out.n64] at h1
    exact h1.2.2.1 : SmN 11 (unkT rs))
   have HEN : Hid (Calls Tryz.prog 27 #[.agg #[.int .i64 3, .int .i64 0, .string ⟨#[]⟩, .slice ea 0 ec, .slice ra rn rc]] (w3.alloc (Obj.cells #[.int .i64 3, .int .i64 0, .string ⟨#[]⟩, .slice ea 0 ec, .slice ra rn rc] 33)) (EncP (flatN (sortF rs), 0) (w3.alloc (Obj.cells #[.int .i64 3, .int .i64 0, .string ⟨#[]⟩, .slice ea 0 ec, .slice ra rn rc] 33)))) := (by
    have h1 := rEncode_any 11 (unkT rs) _ _ (hTI.below al3) HSMA.out (by decide)
    rw [unk_enc HP.out HC.out.n64] at h1
    exact h1 : Calls Tryz.prog _ _ _ _)
   have HRR4 : Hid (RowG (w3.alloc (Obj.cells #[.int .i64 3, .int .i64 0, .string ⟨#[]⟩, .slice ea 0 ec, .slice ra rn rc] 33)) (.slice ra rn rc) 4 (fdRows (sortF rs))) := HRR.out.below al3
   clear hra hea hTI ht hap hb3 HDE s0 s1 s2 s3 al3 HRR hm' hr2
   go_wp2_with fail
   obtain ⟨b4, hb4⟩ : ∃ z, w3.heap.size = z := ⟨_, rfl⟩
   rw [hb4] at BT4
   try simp only [hb4]
   clear hb4
   generalize (w3.alloc (Obj.cells #[.int .i64 3, .int .i64 0, .string ⟨#[]⟩, .slice ea 0 ec, .slice ra rn rc] 33)) = W4 at *
   have HB4 : Hid (Blk W4 b4 #[.int .i64 3, .int .i64 0, .string ⟨#[]⟩, .slice ea 0 ec, .slice ra rn rc] 33) := BT4
   clear BT4
   refine Calls.mono HEN.out ?_
   rintro e w5 ⟨v5, rfl, hown5, hb5⟩
   have hr5 : Below wr.heap.size wr w5 := hr4.trans (hb5.mono hr4.size)
   have HV5 : Hid (ByS w5 v5 (flatN (sortF rs))) := ByS.own hown5 (flatN_lt _)
   have HB5 : Hid (Blk w5 b4 #[.int .i64 3, .int .i64 0, .string ⟨#[]⟩, .slice ea 0 ec, .slice ra rn rc] 33 ∧ RowG w5 (.slice ra rn rc) 4 (fdRows (sortF rs))) := ⟨HB4.out.below hb5, HRR4.out.below hb5⟩
   clear HEN hown5 hb5 hr4 HB4 HRR4
   simp only [show ((0 : Nat) : Int) = 0 from rfl]
   go_wp2_with fail
   refine (HSW.out _ hr5).mono ?_
   rintro e w6 ⟨a6, c6, rfl, hh6, ha6, hc6, hm6, hb6⟩
   have hr6 : Below wr.heap.size wr w6 := hr5.trans (hb6.mono hr5.size)
   have HS6 : Hid (Calls Tryz.prog 28 #[.slice a6 rn c6] w6 fun e w' => ∃ g, e = .returned (.slice (some ⟨g, 0, none⟩) rn rn) ∧ w'.ownsRow w6.heap.size 61 4 (.slice (some ⟨g, 0, none⟩) rn rn) (sortF rs).length (rawCells (sortF rs)) ∧ Below w6.heap.size w6 w') := HSO.out w6 a6 c6 hc6 hm6 hh6 ha6
   have HV6 : Hid (ByS w6 v5 (flatN (sortF rs))) := HV5.out.below hb6
   have HB6 : Hid (Blk w6 b4 #[.int .i64 3, .int .i64 0, .string ⟨#[]⟩, .slice ea 0 ec, .slice ra rn rc] 33 ∧ RowG w6 (.slice ra rn rc) 4 (fdRows (sortF rs))) := ⟨HB5.out.1.below hb6, HB5.out.2.below hb6⟩
   clear hh6 ha6 hc6 hm6 hb6 hr5 HV5 HB5
   go_wp2_with fail
   refine HS6.out.mono ?_
   rintro e w7 ⟨g7, rfl, ho7, hb7⟩
   have hr7 : Below wr.heap.size wr w7 := hr6.trans (hb7.mono hr6.size)
   have HPA7 : Hid (Calls Tryz.prog 25 #[.slice (some ⟨g7, 0, none⟩) rn rn] w7 fun e w' => ∃ v, e = .returned (.tuple #[v, .int .i64 0]) ∧ w'.ownsRow w7.heap.size 5 1 v (flatN (sortF rs)).length (byteCells (flatN (sortF rs))) ∧ Below w7.heap.size w7 w') := (by
    obtain ⟨a, c, hq, -, -, -, -, hh⟩ := own_openR ho7
    simp only [Value.slice.injEq] at hq
    obtain ⟨rfl, hqn, rfl⟩ := hq
    have h1 := wputall_any (some ⟨g7, 0, none⟩) (sortF rs) rn rn w7 hqn.symm (.inr ⟨_, _, rfl⟩) (Nat.le_refl _) (by unfold maxLen; omega) (by omega) hh (fun r hr => HC.out.n64 r ((sortF_perm rs).mem_iff.1 hr))
    rw [(sort_ok HP.out).1] at h1
    simpa using h1 : Calls Tryz.prog _ _ _ _)
   have HV7 : Hid (ByS w7 v5 (flatN (sortF rs))) := HV6.out.below hb7
   have HB7 : Hid (Blk w7 b4 #[.int .i64 3, .int .i64 0, .string ⟨#[]⟩, .slice ea 0 ec, .slice ra rn rc] 33 ∧ RowG w7 (.slice ra rn rc) 4 (fdRows (sortF rs))) := ⟨HB6.out.1.below hb7, HB6.out.2.below hb7⟩
   clear ho7 hb7 hr6 HV6 HB6 HS6
   go_wp2_with fail
   refine HPA7.out.mono ?_
   rintro e w8 ⟨v8, rfl, hown8, hb8⟩
   have hr8 : Below wr.heap.size wr w8 := hr7.trans (hb8.mono hr7.size)
   have HV8 : Hid (ByS w8 v5 (flatN (sortF rs)) ∧ ByS w8 v8 (flatN (sortF rs))) := ⟨HV7.out.below hb8, ByS.own hown8 (flatN_lt _)⟩
   have HB8 : Hid (Blk w8 b4 #[.int .i64 3, .int .i64 0, .string ⟨#[]⟩, .slice ea 0 ec, .slice ra rn rc] 33 ∧ RowG w8 (.slice ra rn rc) 4 (fdRows (sortF rs))) := ⟨HB7.out.1.below hb8, HB7.out.2.below hb8⟩
   have HCV : Hid (∀ W, Below w8.heap.size w8 W → (convert 27 9 v5).run Tryz.prog W = .ok (.string (strN (flatN (sortF rs)))) W ∧ (convert 27 9 v8).run Tryz.prog W = .ok (.string (strN (flatN (sortF rs)))) W) := fun W hW => ⟨(HV8.out.1.below hW).conv, (HV8.out.2.below hW).conv⟩
   have HR8 : Hid (Below wr.heap.size wr w8) := hr8
   have HRA : Hid (∀ W, Below w8.heap.size w8 W → Calls Tryz.prog 26 #[.slice la rn lc] W fun e w' => ∃ a c, e = .returned (.slice a rn c) ∧ HoldsR w' a rs ∧ (rs = [] ∨ ∃ g off, a = some ⟨g, off, none⟩) ∧ rn ≤ c ∧ c ≤ maxLen ∧ Below W.heap.size W w') := fun W hW => HSW.out W (HR8.out.trans (hW.mono HR8.out.size))
   have HCA : Hid (∀ W, Below w8.heap.size w8 W → Calls Tryz.prog 16 #[.agg #[.string ⟨#[97]⟩, .slice (some ⟨b0, 0, none⟩) 1 1, .slice none 0 0, .slice none 0 0], .string ⟨#[109]⟩, v8] W fun e w' => e = .returned (.bool true) ∧ Below W.heap.size W w') := fun W hW => by
    have h1 := canonical_any (HSI.out.below (HR8.out.trans (hW.mono HR8.out.size))) s0_w s0_few (HV8.out.2.below hW) (nm := ⟨#[109]⟩)
    rw [unk_can HP.out HC.out.n64] at h1
    exact h1
   have HSS : Hid (∀ W, Below w8.heap.size w8 W → ∀ x : Value, RowG W x 4 (fdRows (sortF rs)) → Calls Tryz.prog 29 #[.slice ra rn rc, x] W fun e w' => e = .returned (.bool true) ∧ Below W.heap.size W w') := fun W hW x hx => sameRows_any (HB8.out.2.below hW) hx (by rw [sortF_lenD, HC.out.len]; omega)
   have HCE : Hid (∀ W, Below w8.heap.size w8 W → W.cell? ⟨b4, 3, none⟩ = some (.slice ea 0 ec) ∧ W.cell? ⟨b4, 4, none⟩ = some (.slice ra rn rc) ∧ Blk W (b0 + 1) #[.string ⟨#[97]⟩, .slice (some ⟨b0, 0, none⟩) 1 1, .slice none 0 0, .slice none 0 0] 26) := fun W hW => ⟨((HB8.out.1.below hW).cell 3).trans rfl, ((HB8.out.1.below hW).cell 4).trans rfl, HBS.out.below (HR8.out.trans (hW.mono HR8.out.size))⟩
   obtain ⟨Z, hZ⟩ : ∃ z, strN (flatN (sortF rs)) = z := ⟨_, rfl⟩
   rw [hZ] at HCV
   clear hown8 hb8 hr7 HV7 HB7 HPA7 hZ hr8 hr3
   go_wp2_with fail
   have hS : Below w8.heap.size w8 w8.drew := (Below.refl _ _).drew
   refine wp_region_held_drew (S := fun w' => Below w8.heap.size w8 w') (by kernel_rfl) hS (fun hS => ?_)
   refine rg_take 0 61 (.int .i64 0) _ rfl rfl (by kernel_rfl) (by kernel_rfl) (by kernel_rfl) (fun _ _ _ h => h) (by rfl) (fun w' hw' => ?_) hS (listed' := #[true, false, false, false, false, false, false, false, false, false, false, false, false, false, false, false, false, false, false, false, false, false, false, false, false, false, false, false, false, false, false, false, false, false, false, false]) (by kernel_rfl) rfl ?_
   ·go_simp
   simp only [List.setIfInBounds_toArray, List.set_cons_zero, List.set_cons_succ]
   refine rg_take 1 62 (.bool true) _ rfl rfl (by kernel_rfl) (by kernel_rfl) (by kernel_rfl) (fun _ _ _ h => h) (by rfl) (fun w' hw' => ?_) hS (listed' := #[true, true, false, false, false, false, false, false, false, false, false, false, false, false, false, false, false, false, false, false, false, false, false, false, false, false, false, false, false, false, false, false, false, false, false, false]) (by kernel_rfl) rfl ?_
   ·go_simp
   simp only [List.setIfInBounds_toArray, List.set_cons_zero, List.set_cons_succ]
   refine rg_take 2 63 (.bool true) _ rfl rfl (by kernel_rfl) (by kernel_rfl) (by kernel_rfl) (fun _ _ _ h => h) (by rfl) (fun w' hw' => ?_) hS (listed' := #[true, true, true, false, false, false, false, false, false, false, false, false, false, false, false, false, false, false, false, false, false, false, false, false, false, false, false, false, false, false, false, false, false, false, false, false]) (by kernel_rfl) rfl ?_
   ·go_simp
   simp only [List.setIfInBounds_toArray, List.set_cons_zero, List.set_cons_succ]
   refine rg_take 3 64 (.int .i64 0) _ rfl rfl (by kernel_rfl) (by kernel_rfl) (by kernel_rfl) (fun _ _ _ h => h) (by rfl) (fun w' hw' => ?_) hS (listed' := #[true, true, true, true, false, false, false, false, false, false, false, false, false, false, false, false, false, false, false, false, false, false, false, false, false, false, false, false, false, false, false, false, false, false, false, false]) (by kernel_rfl) rfl ?_
   ·go_simp
   simp only [List.setIfInBounds_toArray, List.set_cons_zero, List.set_cons_succ]
   refine rg_take 4 65 (.bool true) _ rfl rfl (by kernel_rfl) (by kernel_rfl) (by kernel_rfl) (fun _ _ _ h => h) (by rfl) (fun w' hw' => ?_) hS (listed' := #[true, true, true, true, true, false, false, false, false, false, false, false, false, false, false, false, false, false, false, false, false, false, false, false, false, false, false, false, false, false, false, false, false, false, false, false]) (by kernel_rfl) rfl ?_
   ·go_simp
   simp only [List.setIfInBounds_toArray, List.set_cons_zero, List.set_cons_succ]
   refine rg_take 5 66 (.bool true) _ rfl rfl (by kernel_rfl) (by kernel_rfl) (by kernel_rfl) (fun _ _ _ h => h) (by rfl) (fun w' hw' => ?_) hS (listed' := #[true, true, true, true, true, true, false, false, false, false, false, false, false, false, false, false, false, false, false, false, false, false, false, false, false, false, false, false, false, false, false, false, false, false, false, false]) (by kernel_rfl) rfl ?_
   ·go_simp
   simp only [List.setIfInBounds_toArray, List.set_cons_zero, List.set_cons_succ]
   refine rg_take 6 67 (.bool true) _ rfl rfl (by kernel_rfl) (by kernel_rfl) (by kernel_rfl) (fun _ _ _ h => h) (by rfl) (fun w' hw' => ?_) hS (listed' := #[true, true, true, true, true, true, true, false, false, false, false, false, false, false, false, false, false, false, false, false, false, false, false, false, false, false, false, false, false, false, false, false, false, false, false, false]) (by kernel_rfl) rfl ?_
   ·go_simp
   simp only [List.setIfInBounds_toArray, List.set_cons_zero, List.set_cons_succ]
   refine rg_take 7 68 (.pointer (some ⟨b4, 3, none⟩)) _ rfl rfl (by kernel_rfl) (by kernel_rfl) (by kernel_rfl) (fun _ _ _ h => h) (by rfl) (fun w' hw' => ?_) hS (listed' := #[true, true, true, true, true, true, true, true, false, false, false, false, false, false, false, false, false, false, false, false, false, false, false, false, false, false, false, false, false, false, false, false, false, false, false, false]) (by kernel_rfl) rfl ?_
   ·go_simp
   simp only [List.setIfInBounds_toArray, List.set_cons_zero, List.set_cons_succ]
   refine rg_take 8 69 (.slice ea 0 ec) _ rfl rfl (by kernel_rfl) (by kernel_rfl) (by kernel_rfl) (fun _ _ _ h => h) (by rfl) (fun w' hw' => ?_) hS (listed' := #[true, true, true, true, true, true, true, true, true, false, false, false, false, false, false, false, false, false, false, false, false, false, false, false, false, false, false, false, false, false, false, false, false, false, false, false]) (by kernel_rfl) rfl ?_
   ·have f0 := (HCE.out _ hw').1; go_simp
   simp only [List.setIfInBounds_toArray, List.set_cons_zero, List.set_cons_succ]
   refine rg_take 9 70 (.int .i64 0) _ rfl rfl (by kernel_rfl) (by kernel_rfl) (by kernel_rfl) (fun _ _ _ h => h) (by rfl) (fun w' hw' => ?_) hS (listed' := #[true, true, true, true, true, true, true, true, true, true, false, false, false, false, false, false, false, false, false, false, false, false, false, false, false, false, false, false, false, false, false, false, false, false, false, false]) (by kernel_rfl) rfl ?_
   ·go_simp
   simp only [List.setIfInBounds_toArray, List.set_cons_zero, List.set_cons_succ]
   refine rg_take 10 71 (.bool true) _ rfl rfl (by kernel_rfl) (by kernel_rfl) (by kernel_rfl) (fun _ _ _ h => h) (by rfl) (fun w' hw' => ?_) hS (listed' := #[true, true, true, true, true, true, true, true, true, true, true, false, false, false, false, false, false, false, false, false, false, false, false, false, false, false, false, false, false, false, false, false, false, false, false, false]) (by kernel_rfl) rfl ?_
   ·go_simp
   simp only [List.setIfInBounds_toArray, List.set_cons_zero, List.set_cons_succ]
   refine rg_take 11 72 (.bool true) _ rfl rfl (by kernel_rfl) (by kernel_rfl) (by kernel_rfl) (fun _ _ _ h => h) (by rfl) (fun w' hw' => ?_) hS (listed' := #[true, true, true, true, true, true, true, true, true, true, true, true, false, false, false, false, false, false, false, false, false, false, false, false, false, false, false, false, false, false, false, false, false, false, false, false]) (by kernel_rfl) rfl ?_
   ·go_simp
   simp only [List.setIfInBounds_toArray, List.set_cons_zero, List.set_cons_succ]
   refine rg_take 12 73 (.bool true) _ rfl rfl (by kernel_rfl) (by kernel_rfl) (by kernel_rfl) (fun _ _ _ h => h) (by rfl) (fun w' hw' => ?_) hS (listed' := #[true, true, true, true, true, true, true, true, true, true, true, true, true, false, false, false, false, false, false, false, false, false, false, false, false, false, false, false, false, false, false, false, false, false, false, false]) (by kernel_rfl) rfl ?_
   ·go_simp
   simp only [List.setIfInBounds_toArray, List.set_cons_zero, List.set_cons_succ]
   refine rg_take 13 74 (.pointer (some ⟨b4, 4, none⟩)) _ rfl rfl (by kernel_rfl) (by kernel_rfl) (by kernel_rfl) (fun _ _ _ h => h) (by rfl) (fun w' hw' => ?_) hS (listed' := #[true, true, true, true, true, true, true, true, true, true, true, true, true, true, false, false, false, false, false, false, false, false, false, false, false, false, false, false, false, false, false, false, false, false, false, false]) (by kernel_rfl) rfl ?_
   ·go_simp
   simp only [List.setIfInBounds_toArray, List.set_cons_zero, List.set_cons_succ]
   refine rg_take 14 75 (.slice ra rn rc) _ rfl rfl (by kernel_rfl) (by kernel_rfl) (by kernel_rfl) (fun _ _ _ h => h) (by rfl) (fun w' hw' => ?_) hS (listed' := #[true, true, true, true, true, true, true, true, true, true, true, true, true, true, true, false, false, false, false, false, false, false, false, false, false, false, false, false, false, false, false, false, false, false, false, false]) (by kernel_rfl) rfl ?_
   ·have f0 := (HCE.out _ hw').2.1; go_simp
   simp only [List.setIfInBounds_toArray, List.set_cons_zero, List.set_cons_succ]
   refine rg_take 15 76 (.slice la rn lc) _ rfl rfl (by kernel_rfl) (by kernel_rfl) (by kernel_rfl) (fun _ _ _ h => h) (by rfl) (fun w' hw' => ?_) hS (listed' := #[true, true, true, true, true, true, true, true, true, true, true, true, true, true, true, true, false, false, false, false, false, false, false, false, false, false, false, false, false, false, false, false, false, false, false, false]) (by kernel_rfl) rfl ?_
   ·go_simp
   simp only [List.setIfInBounds_toArray, List.set_cons_zero, List.set_cons_succ]
   refine rg_call 16 77 26 #[.slice la rn lc] rfl rfl (by kernel_rfl) (by rfl) (listed' := #[true, true, true, true, true, true, true, true, true, true, true, true, true, true, true, true, true, false, false, false, false, false, false, false, false, false, false, false, false, false, false, false, false, false, false, false]) (by kernel_rfl) (fun W => by go_simp) ?_
   refine (HRA.out _ hS).mono ?_
   rintro e W1 ⟨a9, c9, rfl, hh9, ha9, hc9, hm9, hb9⟩
   have HS9 : Hid (Calls Tryz.prog 28 #[.slice a9 rn c9] W1 fun e w' => ∃ g, e = .returned (.slice (some ⟨g, 0, none⟩) rn rn) ∧ w'.ownsRow W1.heap.size 61 4 (.slice (some ⟨g, 0, none⟩) rn rn) (sortF rs).length (rawCells (sortF rs)) ∧ Below W1.heap.size W1 w') := HSO.out W1 a9 c9 hc9 hm9 hh9 ha9
   have hS0 := hS
   have hS : Below w8.heap.size w8 W1 := hS0.trans (hb9.mono hS0.size)
   clear hS0 hb9 hh9 ha9 hc9 hm9
   refine ⟨_, rfl, hS, ?_⟩
   simp only [List.setIfInBounds_toArray, List.set_cons_zero, List.set_cons_succ]
   refine rg_call 17 78 28 #[.slice a9 rn c9] rfl rfl (by kernel_rfl) (by rfl) (listed' := #[true, true, true, true, true, true, true, true, true, true, true, true, true, true, true, true, true, true, false, false, false, false, false, false, false, false, false, false, false, false, false, false, false, false, false, false]) (by kernel_rfl) (fun W => by go_simp) ?_
   refine HS9.out.mono ?_
   rintro e W2 ⟨g9, rfl, ho9, hb9⟩
   have hS0 := hS
   have hS : Below w8.heap.size w8 W2 := hS0.trans (hb9.mono hS0.size)
   have HSS2 := HSS.out W2 hS (.slice (some ⟨g9, 0, none⟩) rn rn) (own_rest ho9)
   clear hS0 hb9 ho9 HS9
   refine ⟨_, rfl, hS, ?_⟩
   simp only [List.setIfInBounds_toArray, List.set_cons_zero, List.set_cons_succ]
   refine rg_call 18 79 29 #[.slice ra rn rc, .slice (some ⟨g9, 0, none⟩) rn rn] rfl rfl (by kernel_rfl) (by rfl) (listed' := #[true, true, true, true, true, true, true, true, true, true, true, true, true, true, true, true, true, true, true, false, false, false, false, false, false, false, false, false, false, false, false, false, false, false, false, false]) (by kernel_rfl) (fun W => by go_simp) ?_
   refine HSS2.mono ?_
   rintro e W3 ⟨rfl, hb9⟩
   have hS0 := hS
   have hS : Below w8.heap.size w8 W3 := hS0.trans (hb9.mono hS0.size)
   clear hS0 hb9 HSS2
   refine ⟨_, rfl, hS, ?_⟩
   simp only [List.setIfInBounds_toArray, List.set_cons_zero, List.set_cons_succ]
   refine rg_take 19 80 (.bool true) _ rfl rfl (by kernel_rfl) (by kernel_rfl) (by kernel_rfl) (fun _ _ _ h => h) (by rfl) (fun w' hw' => ?_) hS (listed' := #[true, true, true, true, true, true, true, true, true, true, true, true, true, true, true, true, true, true, true, true, false, false, false, false, false, false, false, false, false, false, false, false, false, false, false, false]) (by kernel_rfl) rfl ?_
   ·go_simp
   simp only [List.setIfInBounds_toArray, List.set_cons_zero, List.set_cons_succ]
   refine rg_take 20 81 (.bool true) _ rfl rfl (by kernel_rfl) (by kernel_rfl) (by kernel_rfl) (fun _ _ _ h => h) (by rfl) (fun w' hw' => ?_) hS (listed' := #[true, true, true, true, true, true, true, true, true, true, true, true, true, true, true, true, true, true, true, true, true, false, false, false, false, false, false, false, false, false, false, false, false, false, false, false]) (by kernel_rfl) rfl ?_
   ·go_simp
   simp only [List.setIfInBounds_toArray, List.set_cons_zero, List.set_cons_succ]
   refine rg_take 21 82 (v5) _ rfl rfl (by kernel_rfl) (by kernel_rfl) (by kernel_rfl) (fun _ _ _ h => h) (by rfl) (fun w' hw' => ?_) hS (listed' := #[true, true, true, true, true, true, true, true, true, true, true, true, true, true, true, true, true, true, true, true, true, true, false, false, false, false, false, false, false, false, false, false, false, false, false, false]) (by kernel_rfl) rfl ?_
   ·go_simp
   simp only [List.setIfInBounds_toArray, List.set_cons_zero, List.set_cons_succ]
   refine rg_take 22 83 (.string Z) _ rfl rfl (by kernel_rfl) (by kernel_rfl) (by kernel_rfl) (fun _ _ _ h => h) (by rfl) (fun w' hw' => ?_) hS (listed' := #[true, true, true, true, true, true, true, true, true, true, true, true, true, true, true, true, true, true, true, true, true, true, true, false, false, false, false, false, false, false, false, false, false, false, false, false]) (by kernel_rfl) rfl ?_
   ·have f0 := (HCV.out _ hw').1; go_simp
   simp only [List.setIfInBounds_toArray, List.set_cons_zero, List.set_cons_succ]
   refine rg_take 23 84 (v8) _ rfl rfl (by kernel_rfl) (by kernel_rfl) (by kernel_rfl) (fun _ _ _ h => h) (by rfl) (fun w' hw' => ?_) hS (listed' := #[true, true, true, true, true, true, true, true, true, true, true, true, true, true, true, true, true, true, true, true, true, true, true, true, false, false, false, false, false, false, false, false, false, false, false, false]) (by kernel_rfl) rfl ?_
   ·go_simp
   simp only [List.setIfInBounds_toArray, List.set_cons_zero, List.set_cons_succ]
   refine rg_take 24 85 (.string Z) _ rfl rfl (by kernel_rfl) (by kernel_rfl) (by kernel_rfl) (fun _ _ _ h => h) (by rfl) (fun w' hw' => ?_) hS (listed' := #[true, true, true, true, true, true, true, true, true, true, true, true, true, true, true, true, true, true, true, true, true, true, true, true, true, false, false, false, false, false, false, false, false, false, false, false]) (by kernel_rfl) rfl ?_
   ·have f0 := (HCV.out _ hw').2; go_simp
   simp only [List.setIfInBounds_toArray, List.set_cons_zero, List.set_cons_succ]
   refine rg_take 25 86 (.bool true) _ rfl rfl (by kernel_rfl) (by kernel_rfl) (by kernel_rfl) (fun _ _ _ h => h) (by rfl) (fun w' hw' => ?_) hS (listed' := #[true, true, true, true, true, true, true, true, true, true, true, true, true, true, true, true, true, true, true, true, true, true, true, true, true, true, false, false, false, false, false, false, false, false, false, false]) (by kernel_rfl) rfl ?_
   ·go_simp
   simp only [List.setIfInBounds_toArray, List.set_cons_zero, List.set_cons_succ]
   refine rg_take 26 87 (.bool true) _ rfl rfl (by kernel_rfl) (by kernel_rfl) (by kernel_rfl) (fun _ _ _ h => h) (by rfl) (fun w' hw' => ?_) hS (listed' := #[true, true, true, true, true, true, true, true, true, true, true, true, true, true, true, true, true, true, true, true, true, true, true, true, true, true, true, false, false, false, false, false, false, false, false, false]) (by kernel_rfl) rfl ?_
   ·go_simp
   simp only [List.setIfInBounds_toArray, List.set_cons_zero, List.set_cons_succ]
   refine rg_take 27 88 (.bool true) _ rfl rfl (by kernel_rfl) (by kernel_rfl) (by kernel_rfl) (fun _ _ _ h => h) (by rfl) (fun w' hw' => ?_) hS (listed' := #[true, true, true, true, true, true, true, true, true, true, true, true, true, true, true, true, true, true, true, true, true, true, true, true, true, true, true, true, false, false, false, false, false, false, false, false]) (by kernel_rfl) rfl ?_
   ·go_simp
   simp only [List.setIfInBounds_toArray, List.set_cons_zero, List.set_cons_succ]
   refine rg_take 28 89 (.agg #[.string ⟨#[97]⟩, .slice (some ⟨b0, 0, none⟩) 1 1, .slice none 0 0, .slice none 0 0]) _ rfl rfl (by kernel_rfl) (by kernel_rfl) (by kernel_rfl) (fun _ _ _ h => h) (by rfl) (fun w' hw' => ?_) hS (listed' := #[true, true, true, true, true, true, true, true, true, true, true, true, true, true, true, true, true, true, true, true, true, true, true, true, true, true, true, true, true, false, false, false, false, false, false, false]) (by kernel_rfl) rfl ?_
   ·have HB := (HCE.out _ hw').2.2; have f0 := (HB.cell 0).trans rfl; have f1 := (HB.cell 1).trans rfl; have f2 := (HB.cell 2).trans rfl; have f3 := (HB.cell 3).trans rfl; go_simp
   simp only [List.setIfInBounds_toArray, List.set_cons_zero, List.set_cons_succ]
   refine rg_take 29 90 (v8) _ rfl rfl (by kernel_rfl) (by kernel_rfl) (by kernel_rfl) (fun _ _ _ h => h) (by rfl) (fun w' hw' => ?_) hS (listed' := #[true, true, true, true, true, true, true, true, true, true, true, true, true, true, true, true, true, true, true, true, true, true, true, true, true, true, true, true, true, true, false, false, false, false, false, false]) (by kernel_rfl) rfl ?_
   ·go_simp
   simp only [List.setIfInBounds_toArray, List.set_cons_zero, List.set_cons_succ]
   refine rg_call 30 91 16 #[.agg #[.string ⟨#[97]⟩, .slice (some ⟨b0, 0, none⟩) 1 1, .slice none 0 0, .slice none 0 0], .string ⟨#[109]⟩, v8] rfl rfl (by kernel_rfl) (by rfl) (listed' := #[true, true, true, true, true, true, true, true, true, true, true, true, true, true, true, true, true, true, true, true, true, true, true, true, true, true, true, true, true, true, true, false, false, false, false, false]) (by kernel_rfl) (fun W => by go_simp) ?_
   refine (HCA.out _ hS).mono ?_
   rintro e W4 ⟨rfl, hb9⟩
   have hS0 := hS
   have hS : Below w8.heap.size w8 W4 := hS0.trans (hb9.mono hS0.size)
   clear hS0 hb9
   refine ⟨_, rfl, hS, ?_⟩
   simp only [List.setIfInBounds_toArray, List.set_cons_zero, List.set_cons_succ]
   refine rg_take 31 92 (.bool true) _ rfl rfl (by kernel_rfl) (by kernel_rfl) (by kernel_rfl) (fun _ _ _ h => h) (by rfl) (fun w' hw' => ?_) hS (listed' := #[true, true, true, true, true, true, true, true, true, true, true, true, true, true, true, true, true, true, true, true, true, true, true, true, true, true, true, true, true, true, true, true, false, false, false, false]) (by kernel_rfl) rfl ?_
   ·go_simp
   simp only [List.setIfInBounds_toArray, List.set_cons_zero, List.set_cons_succ]
   refine rg_take 32 93 (.bool true) _ rfl rfl (by kernel_rfl) (by kernel_rfl) (by kernel_rfl) (fun _ _ _ h => h) (by rfl) (fun w' hw' => ?_) hS (listed' := #[true, true, true, true, true, true, true, true, true, true, true, true, true, true, true, true, true, true, true, true, true, true, true, true, true, true, true, true, true, true, true, true, true, false, false, false]) (by kernel_rfl) rfl ?_
   ·go_simp
   simp only [List.setIfInBounds_toArray, List.set_cons_zero, List.set_cons_succ]
   refine rg_call 33 94 10 #[] rfl rfl (by kernel_rfl) (by rfl) (listed' := #[true, true, true, true, true, true, true, true, true, true, true, true, true, true, true, true, true, true, true, true, true, true, true, true, true, true, true, true, true, true, true, true, true, true, false, false]) (by kernel_rfl) (fun W => by go_simp) ?_
   refine (dcawake_any _).mono ?_
   rintro e W5 ⟨rfl, hb9⟩
   have hS0 := hS
   have hS : Below w8.heap.size w8 W5 := hS0.trans (hb9.mono hS0.size)
   clear hS0 hb9
   refine ⟨_, rfl, hS, ?_⟩
   simp only [List.setIfInBounds_toArray, List.set_cons_zero, List.set_cons_succ]
   refine rg_take 34 95 (.bool true) _ rfl rfl (by kernel_rfl) (by kernel_rfl) (by kernel_rfl) (fun _ _ _ h => h) (by rfl) (fun w' hw' => ?_) hS (listed' := #[true, true, true, true, true, true, true, true, true, true, true, true, true, true, true, true, true, true, true, true, true, true, true, true, true, true, true, true, true, true, true, true, true, true, true, false]) (by kernel_rfl) rfl ?_
   ·go_simp
   simp only [List.setIfInBounds_toArray, List.set_cons_zero, List.set_cons_succ]
   refine rg_take 35 2 (.bool true) _ rfl rfl (by kernel_rfl) (by kernel_rfl) (by kernel_rfl) (fun _ _ _ h => h) (by rfl) (fun w' hw' => ?_) hS (listed' := #[true, true, true, true, true, true, true, true, true, true, true, true, true, true, true, true, true, true, true, true, true, true, true, true, true, true, true, true, true, true, true, true, true, true, true, true]) (by kernel_rfl) rfl ?_
   ·go_simp
   simp only [List.setIfInBounds_toArray, List.set_cons_zero, List.set_cons_succ]
   refine wpAnyH_done (by kernel_rfl) ?_ _
   have hfin : Below w.heap.size w W5 := HBW.out.trans ((HR8.out.trans (hS.mono HR8.out.size)).mono HBW.out.size)
   go_wp2_with fail
   go_ret
   exact ⟨rfl, hfin⟩
end Go.Proofs.YtiajaocckkghgaaGreat
