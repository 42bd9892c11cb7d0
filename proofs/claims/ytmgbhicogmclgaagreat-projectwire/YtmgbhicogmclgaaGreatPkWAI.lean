/- Part 9 of what the proof stands on. -/
import Derived.Test.YtmgbhicogmclgaaGreatPkWAH
import Derived.Deep.LoopGhost
import Derived.Laws.MathBits
import Derived.ArgAppend
import Derived.Laws.AppendOwn
import Derived.Laws.BytesArg
import Derived.Lib.AppendStr
import Derived.Shelf.SlIterI.Nil
import Derived.Shelf.SortM.Plain
import Derived.Shelf.SortM.SortNone
import Derived.Ground.GgzProg
import Derived.Ground.SlgmProg
import Derived.Lib.SlKeysI
namespace Go.Proofs.YtmgbhicogmclgaaGreat
set_option maxHeartbeats 8000000
set_option linter.unusedVariables false
set_option linter.unusedSimpArgs false
set_option maxRecDepth 20000
section
open Go.ChangeShapes Go.WideShapes Go.ChangeAt Go.RowKit
theorem rowG_holdsR {w : World} {a : Option Addr} {N cap : Nat} {l : List Fd} (h : RowG w (.slice a N cap) 4 (fdRows l)) : HoldsR w a l := by
 obtain ⟨a',cap',e,_,_,_,h4⟩ := h.form;simp only [Value.slice.injEq] at e;obtain ⟨rfl,_,_⟩ := e;intro b hb j u hu;rw [rawCells_flat] at hu;obtain ⟨i,c,k,h1,h2,rfl⟩ := flat_inv (fdRows l) (fdr_len l) j u hu;obtain ⟨g,off,e,hc⟩ := h4 (by intro e; rw [e] at h1; simp at h1);rw [hb] at e
 cases e
 have := hc i c u k h1 h2;rw [Nat.add_assoc] at this;rw [Addr.add_lit];exact this
theorem rest_all {l : List Fd} {p : Fd → Bool} {i : Nat} {f : Fd} (h : ∀ x ∈ l.take i,p x = true) (hf : l[i]? = some f) (hp : p f = true) : ∀ x ∈ l.take (i + 1),p x = true := by
 rw [take_atQ hf];intro x hx
 rcases List.mem_append.1 hx with hx | hx
 ·exact h x hx
 ·obtain rfl : x = f := by simpa using hx
  exact hp
theorem restMayBe_any (n : Nat) (v ve : Value) (l : List Fd) (es : List (Int × List Tr)) (w : World) (h : RowG w v 4 (fdRows l)) (he : EnsQ n w ve es) (hr : RisT es) (hl : es.length ≤ 1000000) :
  Calls Tryz.prog 78 #[v,ve] w fun e w' => e = .returned (.bool (restB l es)) ∧ Below w.heap.size w w' := by
 obtain ⟨a,cap,rfl,h1,h2,h3, -, -⟩ := rest_holds h;obtain ⟨N,hN⟩ : ∃ N,l.length = N := ⟨_,rfl⟩;obtain ⟨R,hR⟩ : ∃ R,restB l es = R := ⟨_,rfl⟩;rw [hR];rw [hN] at h1 ⊢;have HH : Hid (RowG w (.slice a N cap) 4 (fdRows l)) := hid (by rw [← hN]; exact h);have HN : Hid (l.length = N) := hN;have HR : Hid (restB l es = R) := hR;have HT : Hid (∀ W tag,Below w.heap.size w W → Calls Tryz.prog 109 #[ve,.int .i64 tag] W fun e w' => e = .returned (.bool (hasB es tag)) ∧ Below W.heap.size W w') := fun W tag hW => hasTag_any n ve es tag W (he.belowEQ hW) hr hl
 have HRS : Hid (∀ W,Below w.heap.size w W → Calls Tryz.prog 110 #[.slice a N cap] W fun e w' => e = .returned (.bool (risesB l)) ∧ Below W.heap.size W w') := fun W hW => rising_any a l N cap W hN h3 h1 h2 (rowG_holdsR (HH.out.below hW))
 obtain ⟨pe,ce,rfl, -⟩ := RowP.open he;unfold maxLen at h2;generalize es.length = El at *;clear h hN hR h3 he hr
 go_enter Tryz.func78,Tryz.ntmps78
 go_wp2_with fail
 go_loopw [9] (fun iv wr => ∃ i : Nat,iv = .int .i64 (i : Int) ∧ i ≤ N ∧ Hid (∀ f ∈ l.take i,(okF f && !hasB es f.tag) = true) ∧ Below w.heap.size w wr) (fun iv _ => N - (intOf iv).toNat)
 case atStart => exact ⟨0,rfl,by omega,(by simp : ∀ f ∈ l.take 0,(okF f && !hasB es f.tag) = true),Below.refl _ _⟩
 case round =>
  obtain ⟨i,rfl,hi,HI,hbel⟩ := hrel
  by_cases hlt : i < N
  ·obtain ⟨f,hf⟩ : ∃ r,l[i]? = some r := ⟨_,List.getElem?_eq_getElem (by rw [HN.out]; exact hlt)⟩;obtain ⟨g,off,rfl,cc⟩ := (HH.out.below hbel).get (show (fdRows l)[i]? = some f.cells by simp [fdRows,hf]);have p0 := cc 0 _ rfl;have p1 := cc 1 _ rfl;have p2 := cc 2 _ rfl;have p3 := cc 3 _ rfl;simp only [Nat.add_zero] at p0;have HF : Hid (l[i]? = some f) := hf;have HM : Hid (f ∈ l) := List.mem_of_getElem? hf;have HFO : Hid (okF f = okV f.tag f.wire f.n f.b) := hid (rfl);have HTG : Hid (∀ W,Below w.heap.size w W → Calls Tryz.prog 109 #[.slice pe El ce,.int .i64 f.tag] W fun e w' => e = .returned (.bool (hasB es f.tag)) ∧ Below W.heap.size W w') := fun W hW => HT.out W f.tag hW
   clear cc hf;obtain ⟨O,hO⟩ : ∃ O,okV f.tag f.wire f.n f.b = O := ⟨_,rfl⟩;obtain ⟨B,hB⟩ : ∃ B,hasB es f.tag = B := ⟨_,rfl⟩;have HO : Hid (okV f.tag f.wire f.n f.b = O) := hO;have HB : Hid (hasB es f.tag = B) := hB
   have HCK : Hid (∀ W,Calls Tryz.prog 108 #[.agg #[.int .i64 f.tag,.int .i64 f.wire,.int .i64 f.n,.string f.b]] W fun e w' => e = .returned (.bool O) ∧ Below W.heap.size W w') := fun W => by rw [← hO]; exact checkV_any f.tag f.wire f.n f.b W
   rw [hB] at HTG;clear hO hB;generalize hft : f.tag = ft at *;generalize hfw : f.wire = fw at *;generalize hfn : f.n = fn at *;generalize hfb : f.b = fb at *;have HE : Hid (f.tag = ft ∧ f.wire = fw ∧ f.n = fn ∧ f.b = fb) := ⟨hft,hfw,hfn,hfb⟩;clear hft hfw hfn hfb;have hal : Below wr.heap.size wr (wr.alloc (Obj.cells #[.int .i64 ft,.int .i64 fw,.int .i64 fn,.string fb] 79)) := bra _;have BE : Blk (wr.alloc (Obj.cells #[.int .i64 ft,.int .i64 fw,.int .i64 fn,.string fb] 79)) wr.heap.size #[.int .i64 ft,.int .i64 fw,.int .i64 fn,.string fb] 79 := Blk.new wr _ _;go_wp2_with fail;refine (HCK.out _).mono ?_;rintro e w2 ⟨rfl,hb2⟩;have hb3 : Below wr.heap.size wr w2 := hal.trans (hb2.mono hal.size);have hbw : Below w.heap.size w w2 := hbel.trans (hb3.mono hbel.size);have q0 := ((BE.below hb2).cell 0).trans rfl;generalize wr.heap.size = bw at *;clear hb2 hb3 hbel hal BE p0 p1 p2 p3 HCK
   cases O with
   | false =>
    obtain rfl : R = false := by
     rw [← HR.out,restB,Bool.and_eq_false_iff]
     left
     rw [List.all_eq_false];exact ⟨f,HM.out,by rw [HFO.out,HE.out.1,HO.out]; simp⟩
    go_wp2_with fail;go_ret;exact ⟨rfl,hbw⟩
   | true =>
    go_wp2_with fail;refine (HTG.out _ hbw).mono ?_;rintro e w4 ⟨rfl,hb4⟩;have hbw4 : Below w.heap.size w w4 := hbw.trans (hb4.mono hbw.size);clear hb4 hbw HTG
    cases B with
    | true =>
     obtain rfl : R = false := by
      rw [← HR.out,restB,Bool.and_eq_false_iff]
      left
      rw [List.all_eq_false];exact ⟨f,HM.out,by rw [HE.out.1,HB.out]; simp⟩
     go_wp2_with fail;go_ret;exact ⟨rfl,hbw4⟩
    | false =>
     have HI2 : Hid (∀ f ∈ l.take (i + 1),(okF f && !hasB es f.tag) = true) := rest_all HI.out HF.out (by rw [HFO.out,HE.out.1,HO.out,HB.out]; rfl);go_wp2_with fail
     go_roundw
     case rel => exact ⟨i + 1,by go_num,by omega,HI2,hbw4⟩
     case measure => simp [intOf]; omega
  ·have hall : R = risesB l := by
    have h5 := HI.out;rw [List.take_of_length_le (by rw [HN.out]; omega)] at h5;rw [← HR.out,restB,List.all_eq_true.2 h5]
    rfl
   have HRX : Hid (Calls Tryz.prog 110 #[.slice a N cap] wr fun e w' => e = .returned (.bool R) ∧ Below wr.heap.size wr w') := by
    rw [hall]; exact HRS.out wr hbel
   clear hall;go_wp2_with fail;refine HRX.out.mono ?_;rintro e w2 ⟨rfl,hb2⟩;have hbw : Below w.heap.size w w2 := hbel.trans (hb2.mono hbel.size);go_wp2_with fail;go_ret;exact ⟨rfl,hbw⟩
theorem wrong_any (n : Nat) (t : Tr) (r : List Value) (w : World) (h : TrQ n w r t) (hl : t.es.length ≤ 1000000) :
  Calls Tryz.prog 44 #[.agg r.toArray] w fun e w' => e = .returned (.bool (!lvB t)) ∧ Below w.heap.size w w' := by
 cases n with
 | zero => exact h.elim
 | succ n =>
  obtain ⟨ve,vr,rfl,ka,na,sa,fa,ra,ea,pa⟩ := h;obtain ⟨pe,ce,rfl,u1,u2, -⟩ := RowP.open ea;obtain ⟨pr,cr,rfl,x1,x2, -⟩ := rest_holds ra;have HEN : Hid (∀ W,Below w.heap.size w W → Calls Tryz.prog 77 #[.slice pe t.es.length ce] W fun e w' => e = .returned (.bool (entsB 0 t.es)) ∧ Below W.heap.size W w') := fun W hW => entries_any n _ t.es W (RowP.belowEQ ea hW)
  have HRE : Hid (entsB 0 t.es = true → ∀ W,Below w.heap.size w W → Calls Tryz.prog 78 #[.slice pr t.rest.length cr,.slice pe t.es.length ce] W fun e w' => e = .returned (.bool (restB t.rest t.es)) ∧ Below W.heap.size W w') := fun he W hW => restMayBe_any n _ _ t.rest t.es W (ra.below hW) (RowP.belowEQ ea hW) (ents_ris t.es 0 he) hl
  obtain ⟨R,hR⟩ : ∃ R,(!lvB t) = R := ⟨_,rfl⟩;rw [hR];have HR : Hid ((!lvB t) = R) := hR;unfold maxLen at u2 x2
  have hel : (t.es.isEmpty = decide (t.es.length = 0)) := by cases t.es <;> simp
  have hrl : (t.rest.isEmpty = decide (t.rest.length = 0)) := by cases t.rest <;> simp
  have hlv := hR;simp only [lvB,hel,hrl] at hlv;have HLV : Hid _ := hlv;clear hR hlv ea ra fa ka na pa hel hrl HR;generalize t.es.length = Ke at *;generalize t.rest.length = Kr at *;generalize t.kind = K at *;generalize t.n = N at *;generalize t.s = S at *;generalize entsB 0 t.es = E at *;generalize restB t.rest t.es = Rs at *
  have hsz : (S.toList == ([] : List UInt8)) = (S.size == 0) := by
   rw [ByteArray.toList_eq];obtain ⟨⟨l⟩⟩ := S
   cases l <;> simp [ByteArray.size]
  have hs0 : S.size = 0 → S = ByteArray.empty := fun h => by
   obtain ⟨⟨l⟩⟩ := S
   cases l with
   | nil => rfl
   | cons a l => simp [ByteArray.size] at h
  by_cases k1 : K = 1
  ·subst k1;simp only [if_true] at HLV;have HSE : Hid (S.size = 0 → S = ByteArray.empty) := hs0;clear hs0 hsz
   by_cases hs : S.size = 0
   ·have := HSE.out hs;subst this;clear HSE hs
    go_enter Tryz.func44,Tryz.ntmps44
    go_wp2_with fail
    all_goals
     go_ret;refine ⟨ret_boolF ?_,bra _⟩;rw [← HLV.out]
     first
      | (rw [Bool.eq_iff_iff]; simp; omega)
      | (simp; omega)
   ·have hne : (S.toList == ([] : List UInt8)) = false := by
     rw [ByteArray.toList_eq];obtain ⟨⟨l⟩⟩ := S
     cases l with
     | nil => exact absurd rfl hs
     | cons a l => rfl
    obtain rfl : R = true := by rw [← HLV.out]; simp [hs]
    clear hs HSE HLV
    go_enter Tryz.func44,Tryz.ntmps44
    go_wp2_with fail
    all_goals
     go_ret;exact ⟨rfl,bra _⟩
  ·have d1 : (K == 1) = false := by simpa using k1
   simp only [if_neg k1] at HLV
   by_cases k2 : K = 2
   ·subst k2;simp only [if_true] at HLV
    go_enter Tryz.func44,Tryz.ntmps44
    go_wp2_with fail
    all_goals
     go_ret;refine ⟨ret_boolF ?_,bra _⟩;rw [← HLV.out]
     first
      | (rw [Bool.eq_iff_iff]; simp; omega)
      | (simp; omega)
      | (simp; left; omega)
      | (simp_all; omega)
      | simp_all
   ·have d2 : (K == 2) = false := by simpa using k2
    simp only [if_neg k2] at HLV
    by_cases k3 : K = 3
    ·subst k3;simp only [if_true] at HLV
     by_cases hn : N = 0
     ·subst hn
      by_cases hs : S.size = 0
      ·have := hs0 hs;subst this;clear hs0 hsz hs
       go_enter Tryz.func44,Tryz.ntmps44
       go_wp2_with fail;refine (HEN.out _ (bra _)).mono ?_;rintro e w2 ⟨rfl,hb2⟩;have hal : Below w.heap.size w (w.alloc (Obj.cells #[.int .i64 3,.int .i64 0,.string ByteArray.empty,.slice pe Ke ce,.slice pr Kr cr] 30)) := bra _;have hbw : Below w.heap.size w w2 := hal.trans (hb2.mono hal.size);have BX := (Blk.new w #[.int .i64 3,.int .i64 0,.string ByteArray.empty,.slice pe Ke ce,.slice pr Kr cr] 30).below hb2;have q3 := (BX.cell 3).trans rfl;have q4 := (BX.cell 4).trans rfl;clear hb2 HEN hal BX
       cases E with
       | false =>
        obtain rfl : R = true := by rw [← HLV.out]; simp
        go_wp2_with fail;go_ret;exact ⟨rfl,hbw⟩
       | true =>
        go_wp2_with fail;refine (HRE.out trivial _ hbw).mono ?_;rintro e w3 ⟨rfl,hb3⟩;have hbw3 : Below w.heap.size w w3 := hbw.trans (hb3.mono hbw.size)
        have hRR : (!Rs) = R := by rw [← HLV.out]; simp
        clear hb3 hbw HRE;go_wp2_with fail;go_ret;exact ⟨rfl,hbw3⟩
      ·have hne : (S.toList == ([] : List UInt8)) = false := by
        rw [ByteArray.toList_eq];obtain ⟨⟨l⟩⟩ := S
        cases l with
        | nil => exact absurd rfl hs
        | cons a l => rfl
       obtain rfl : R = true := by rw [← HLV.out]; simp [hs]
       clear hs hs0 hsz HLV
       go_enter Tryz.func44,Tryz.ntmps44
       go_wp2_with fail
       all_goals
        go_ret;exact ⟨rfl,bra _⟩
     ·have hne : (N != 0) = true := by simpa using hn
      obtain rfl : R = true := by rw [← HLV.out]; simp [hn]
      clear hs0 hsz HLV
      go_enter Tryz.func44,Tryz.ntmps44
      go_wp2_with fail
      all_goals
       go_ret;exact ⟨rfl,bra _⟩
    ·have d3 : (K == 3) = false := by simpa using k3
     simp only [if_neg k3] at HLV
     obtain rfl : R = true := by rw [← HLV.out]; rfl
     go_enter Tryz.func44,Tryz.ntmps44
     go_wp2_with fail;go_ret;exact ⟨rfl,bra _⟩
theorem ok_step {m : Nat} {ts : List Tr} {M : List (List (Int × List Tr))} (h : MsgS ts M) (hl : ∀ x ∈ ts,lvB x = true) : ts.all (okN (m + 1)) = (subsL M).all (okN m) := by
 rw [Bool.eq_iff_iff,List.all_eq_true,List.all_eq_true]
 constructor
 ·intro h1 y hy;obtain ⟨m1,hm1,hy⟩ := mem_subsL.1 hy;obtain ⟨t1,ht1,hk1,rfl⟩ := mem_msgsL.1 (h.1.subset hm1);have := h1 t1 ht1;simp only [okN,hk1,if_true,Bool.and_eq_true,List.all_eq_true] at this;exact this.2 y hy
 ·intro h1 x hx;simp only [okN,hl x hx,Bool.true_and]
  split
  ·rename_i hk
   exact List.all_eq_true.2 fun y hy => h1 y (mem_subsL.2 ⟨_,h.2 x hx hk,hy⟩)
  ·rfl
theorem sm_step {m : Nat} {ts : List Tr} {M : List (List (Int × List Tr))} (h : MsgS ts M) (hs : ∀ x ∈ ts,SmN (m + 1) x) : ∀ x ∈ subsL M,SmN m x := by
 intro y hy;obtain ⟨m1,hm1,hy⟩ := mem_subsL.1 hy;obtain ⟨t1,ht1,hk1,rfl⟩ := mem_msgsL.1 (h.1.subset hm1);obtain ⟨e,he,hy⟩ := mem_subs.1 hy;exact ((hs t1 ht1).2.2.2.2 e he).2 y hy
theorem vcheck_any (n : Nat) (t : Tr) (v : Value) (w : World) (h : TrV2 n w v t) (hn : n ≤ 60) (hc : cntN n t ≤ 5000) (hs : SmN n t) :
  Calls Tryz.prog 22 #[v] w fun e w' => e = .returned (.bool (chkN n t)) ∧ Below w.heap.size w w' := by
 have HDP : Hid (∀ W,Below w.heap.size w W → Calls Tryz.prog 40 #[v] W fun e w' => e = .returned (.int .i64 (dpN n t : Int)) ∧ Below W.heap.size W w') := fun W hW => depth_any n t v W (h.below hW) hn hc
 obtain ⟨ea,el,ec,ra,rl,rc,rfl,hq⟩ := h.open;have HQ : Hid (TrQ n w [.int .i64 t.kind,.int .i64 t.n,.string t.s,.slice ea el ec,.slice ra rl rc] t) := hq;have HC : Hid (cntN n t ≤ 5000) := hc;have HS : Hid (SmN n t) := hs;obtain ⟨D,hD⟩ : ∃ D,dpN n t = D := ⟨_,rfl⟩;obtain ⟨R,hR⟩ : ∃ R,okN n t = R := ⟨_,rfl⟩;have HR : Hid (okN n t = R) := hR;rw [hD] at HDP;rw [chkN,hD,hR];clear h hq hc hs hD hR;generalize t.kind = K at *;generalize t.n = N at *;generalize t.s = S at *;have hal : Below w.heap.size w (w.alloc (Obj.cells #[.int .i64 K,.int .i64 N,.string S,.slice ea el ec,.slice ra rl rc] 30)) := bra _;have HBX : Hid (Blk (w.alloc (Obj.cells #[.int .i64 K,.int .i64 N,.string S,.slice ea el ec,.slice ra rl rc] 30)) w.heap.size #[.int .i64 K,.int .i64 N,.string S,.slice ea el ec,.slice ra rl rc] 30) := Blk.new w _ _
 by_cases hd : D ≤ 10
 ·have d1 : decide (10 < (D : Int)) = false := by simp; omega
  rw [decide_eq_true hd,Bool.true_and]
  go_enter Tryz.func22,Tryz.ntmps22
  go_wp2_with fail;refine (HDP.out _ hal).mono ?_;rintro e w1 ⟨rfl,hb1⟩;have hb : Below w.heap.size w w1 := hal.trans (hb1.mono hal.size);have BX := HBX.out.below hb1;clear hb1 hal HBX HDP;obtain ⟨q0,q1,q2,q3,q4⟩ := cl5 BX;go_wp2_with fail;have hbA : Below w.heap.size w (w1.alloc (Obj.cells #[.int .i64 K,.int .i64 N,.string S,.slice ea el ec,.slice ra rl rc] 30)) := hb.alloc hb.size _;have HT0 : Hid (TrsQ n (w1.alloc (Obj.cells #[.int .i64 K,.int .i64 N,.string S,.slice ea el ec,.slice ra rl rc] 30)) (.slice (some ⟨w1.heap.size,0,none⟩) 1 1) [t]) := one_row (Blk.new w1 _ _) (HQ.out.below hbA);clear q0 q1 q2 q3 q4 BX
  go_loopg [3] n (fun k lv wr => ∃ ts : List Tr,Hid (TrsQ k wr lv ts) ∧ Hid (cntL k ts ≤ 5000) ∧ Hid (∀ x ∈ ts,SmN k x) ∧ Hid (ts.all (okN k) = R) ∧ Below w.heap.size w wr)
  case atStart => exact ⟨[t],HT0,(by simpa [cntL] using HC.out : cntL n [t] ≤ 5000),(by simpa using HS.out : ∀ x ∈ [t],SmN n x),(by simpa using HR.out : [t].all (okN n) = R),hbA⟩
  case round =>
   clear HT0 hbA hb;obtain ⟨ts,HT,HC,HS,HR,hb⟩ := hrel;obtain ⟨la,lc,rfl,l1,l2, -⟩ := RowP.open HT.out;unfold maxLen at l2;obtain ⟨Tl,hTl⟩ : ∃ k,ts.length = k := ⟨_,rfl⟩;have HT' : Hid (TrsQ gk wr (.slice la Tl lc) ts) := hid (by rw [← hTl]; exact HT.out);rw [hTl] at l1 ⊢;have HTl : Hid (ts.length = Tl) := hTl;have hlen : ts.length ≤ 5000 := Nat.le_trans (len_cnt HT'.out) HC.out;have HLN : Hid (ts.length ≤ 5000) := hlen;clear hTl HT hlen
   by_cases h0 : Tl = 0
   ·subst h0;have hts : ts = [] := List.eq_nil_of_length_eq_zero HTl.out
    obtain rfl : R = true := by rw [← HR.out,hts]; rfl
    clear hts;go_wp2_with fail;go_ret;exact ⟨rfl,hb⟩
   ·have d2 : decide (0 < (Tl : Int)) = true := by simp; omega
    obtain ⟨m,rfl⟩ : ∃ m,gk = m + 1 := by
     cases gk with
     | zero =>
      exfalso
      obtain ⟨rows,_,_,h3⟩ := HT'.out;obtain ⟨x,hx⟩ : ∃ x,ts[0]? = some x := ⟨_,List.getElem?_eq_getElem (by rw [HTl.out]; omega)⟩;obtain ⟨r,_,hp⟩ := h3 0 x hx;exact hp
     | succ m => exact ⟨m,rfl⟩
    obtain ⟨B,hB⟩ : ∃ B,ts.any (fun x => !lvB x) = B := ⟨_,rfl⟩
    have HCF : Hid (Calls Tryz.prog 43 #[.slice la Tl lc,.func (.func 44) #[] #[]] wr fun e w' => e = .returned (.bool B) ∧ Below wr.heap.size wr w') := by
     rw [← hB];exact containsW_any (m + 1) _ ts wr (fun x => !lvB x) HT'.out fun W x r hW hx hr => wrong_any (m + 1) x r W hr (by have := (HS.out x hx).2.2.1; omega)
    have HB : Hid (ts.any (fun x => !lvB x) = B) := hB;clear hB;go_wp2_with fail;refine HCF.out.mono ?_;rintro e w2 ⟨rfl,hb2⟩;have hbw2 : Below w.heap.size w w2 := hb.trans (hb2.mono hb.size);have HT2 : Hid (TrsQ (m + 1) w2 (.slice la Tl lc) ts) := HT'.out.belowTQ hb2;clear HCF hb hb2 HT'
    cases B with
    | true =>
     obtain rfl : R = false := by
      rw [← HR.out,List.all_eq_false];obtain ⟨x,hx,hlx⟩ := List.any_eq_true.1 HB.out;refine ⟨x,hx,?_⟩
      simp at hlx
      simp [okN,hlx]
     go_wp2_with fail;go_ret;exact ⟨rfl,hbw2⟩
    | false =>
     have hlv : ∀ x ∈ ts,lvB x = true := fun x hx => by
      have := List.any_eq_false.1 HB.out x hx
      simpa using this
     have HLV : Hid (∀ x ∈ ts,lvB x = true) := hlv;have HM : Hid (Calls Tryz.prog 42 #[.slice la Tl lc] w2 (MsgP m ts w2)) := messages_any (m + 1) _ ts w2 HT2.out HLN.out;clear hlv;go_wp2_with fail;refine HM.out.mono ?_;rintro e w3 ⟨lv3,M,rfl,hL3,hS3,hb3⟩;have hbw3 : Below w.heap.size w w3 := hbw2.trans (hb3.mono hbw2.size);have HC3 : Hid (cntL m (subsL M) ≤ 5000) := hid (Nat.le_trans (cnt_step hS3) HC.out);have HI : Hid (Calls Tryz.prog 41 #[lv3] w3 (InsP m M w3)) := inside_any m _ M w3 hL3 (Nat.le_trans (len_subsL hL3) HC3.out);have HR3 : Hid ((subsL M).all (okN m) = R) := hid (by rw [← ok_step hS3 HLV.out]; exact HR.out);have HS3 : Hid (∀ x ∈ subsL M,SmN m x) := sm_step hS3 HS.out;obtain ⟨ma,mc,rfl, -⟩ := RowP.open hL3;clear hL3 hS3 hb3 hbw2 HM HT2 HC HS HR HLV;generalize M.length = Ml at *;go_wp2_with fail;refine HI.out.mono ?_;rintro e w4 ⟨iv,rfl,hT4,hb4⟩;have hbw4 : Below w.heap.size w w4 := hbw3.trans (hb4.mono hbw3.size);have HT4 : Hid (TrsQ m w4 iv (subsL M)) := hT4;clear hT4 hb4 hbw3 HI;go_wp2_with fail
     go_roundg m
     case measure => omega
     case rel => exact ⟨subsL M,HT4,HC3,HS3,HR3,hbw4⟩
 ·have d1 : decide (10 < (D : Int)) = true := by simp; omega
  rw [decide_eq_false hd,Bool.false_and]
  go_enter Tryz.func22,Tryz.ntmps22
  go_wp2_with fail;refine (HDP.out _ hal).mono ?_;rintro e w1 ⟨rfl,hb1⟩;have hb : Below w.heap.size w w1 := hal.trans (hb1.mono hal.size);have BX := HBX.out.below hb1;clear hb1 hal HBX HDP;clear BX;go_wp2_with fail;go_ret;exact ⟨rfl,hb⟩
theorem pmsg_any {s : ScS} {W0 : World} {sn : ByteArray} {ma ea ta : Option Addr} {mn mc en ec tn tc : Nat} (hks : ∀ nm m,msgOf s nm = some m → ∀ f ∈ m.fields,1 ≤ f.kind ∧ f.kind ≤ 7) (hms : MsIn W0 (.slice ma mn mc) s.msgs) (hfl : ∀ m ∈ s.msgs,m.fields.length ≤ 20 ∧ m.reserved.length ≤ 40) : ∀ n,MsgC s W0 n sn ma ea ta mn mc en ec tn tc
 | 0 => fun b F nm t K N S a1 a2 n1 c1 n2 c2 w _ hx _ _ _ => by
  obtain ⟨r,_,h⟩ := hx;exact h.elim
 | n + 1 => pmsg_step hks hms hfl (pmsg_any hks hms hfl n)
def newB (w w' : World) : List Nat := (List.range w'.heap.size).filter fun k => decide (w.heap.size ≤ k)
theorem newB_apt (w w' : World) : Apt w.heap.size w' (newB w w') := ⟨List.nodup_range.filter _,fun k hk => by
 simp only [newB,List.mem_filter,List.mem_range,decide_eq_true_eq] at hk
 exact ⟨hk.2,hk.1⟩⟩
theorem SeeFP.no {n : Nat} {R : Tr × Bool} {w w' : World} (hR : R = (tr0,false)) (hb : Below w.heap.size w w') : SeeFP (n + 1) R w (.returned (.tuple #[.agg #[.int .i64 0,.int .i64 0,.string ⟨#[]⟩,.slice none 0 0,.slice none 0 0],.bool false])) w' := by
 subst hR;refine ⟨[.int .i64 0,.int .i64 0,.string ⟨#[]⟩,.slice none 0 0,.slice none 0 0],[],rfl,fun w'' _ => ?_,⟨List.nodup_nil,by simp⟩,hb⟩;have h1 : TrR (n + 1) w'' [.int .i64 0,.int .i64 0,.string ⟨#[]⟩,.slice none 0 0,.slice none 0 0] tr0 := leaf_see (w := w'') (F := fun _ => False) is64_lit0 is64_lit0 (by show (0 : Nat) ≤ _; omega) w'' fun _ _ => rfl
 exact ⟨h1.trQ.trC,h1⟩
theorem SeeFP.yes {s : ScS} {b n : Nat} {F : Nat → Prop} {T : Tr} {r : List Value} {R : Tr × Bool} {w w' : World} (hR : R = (T,true)) (hk : KnP s w w' b F) (hs : SeeG (n + 1) w' r T F) : SeeFP (n + 1) R w (.returned (.tuple #[.agg r.toArray,.bool true])) w' := by
 subst hR;refine ⟨r,newB w w',rfl,fun w'' h2 => ?_,newB_apt w w',hk.below⟩
 have h1 : TrR (n + 1) w'' r T := hs w'' fun k e => h2 k (by
  simp only [newB,List.mem_filter,List.mem_range,decide_eq_true_eq]
  exact ⟨(hk.new k e).2,(hk.new k e).1⟩)
 exact ⟨h1.trQ.trC,h1⟩
theorem project_any : ProjC := by
 intro n s sv nm tv t w hn hr hw hf ht hsm hc;have hr0 := hr;obtain ⟨vm,ve,vt,rfl,h1,h2,h3⟩ := hr;obtain ⟨ma,mc,rfl, -⟩ := h1.form2;obtain ⟨erows,her, -⟩ := h2;obtain ⟨ea,ec,rfl, -⟩ := her.form;obtain ⟨ta,tc,rfl, -⟩ := h3.form;generalize s.msgs.length = mn at *;generalize erows.length = en at *;generalize (mtRows s.methods).length = tn at *;obtain ⟨m,a1,c1,a2,c2, -,rfl, -⟩ := ht.open;obtain ⟨K,hK⟩ : ∃ z,t.kind = z := ⟨_,rfl⟩;obtain ⟨N,hN⟩ : ∃ z,t.n = z := ⟨_,rfl⟩;obtain ⟨S,hS⟩ : ∃ z,t.s = z := ⟨_,rfl⟩;generalize t.es.length = n1 at *;generalize t.rest.length = n2 at *;have HT3 : Hid (t.kind = K) := hK;rw [hK,hN,hS] at ht ⊢;have HCC : Hid (∀ W,Below w.heap.size w W → Calls Tryz.prog 20 #[.agg #[.string s.name,.slice ma mn mc,.slice ea en ec,.slice ta tn tc]] W fun e w' => e = .returned (.int .i64 (checkA s)) ∧ Below W.heap.size W w') := fun W hW => check_any (hr0.below hW) hw hf
 have HVC : Hid (∀ W,Below w.heap.size w W → Calls Tryz.prog 22 #[.agg #[.int .i64 K,.int .i64 N,.string S,.slice a1 n1 c1,.slice a2 n2 c2]] W fun e w' => e = .returned (.bool (chkN (n + 1) t)) ∧ Below W.heap.size W w') := fun W hW => vcheck_any (n + 1) t _ W (by obtain ⟨r,g1,g2⟩ := ht.cel (Cel.ofBelow hW); exact ⟨r,g1,g2.trQ⟩) (by omega) hc hsm
 have hfl : ∀ m ∈ s.msgs,m.fields.length ≤ 20 ∧ m.reserved.length ≤ 40 := fun m hm => hf.flds m hm
 have HMC : Hid (∀ W,Below w.heap.size w W → Calls Tryz.prog 21 #[.agg #[.string s.name,.slice ma mn mc,.slice ea en ec,.slice ta tn tc],.string nm] W fun e w' => ∃ q vf vr,e = .returned (.tuple #[.agg #[.string q,vf,vr],.bool (msgOf s nm).isSome]) ∧ (∃ a1 n1 c1,vf = .slice a1 n1 c1) ∧ (∃ a2 n2 c2,vr = .slice a2 n2 c2) ∧ Below W.heap.size W w') := (fun W hW => by
  refine (cmessage_any (w := W) (snm := s.name) (nm := nm) (ae := ea) (at' := ta) (E := en) (ce := ec) (T := tn) (ct := tc) (h1.below hW) hfl).mono ?_;rintro e w' ⟨vf,vr,rfl,g1,g2,g3⟩;obtain ⟨q1,q2,rfl⟩ := own_form g1;obtain ⟨q3,q4,rfl⟩ := own_form g2
  exact ⟨_,_,_,rfl,⟨_,_,_,rfl⟩,⟨_,_,_,rfl⟩,g3⟩ : ∀ W,_ → Calls Tryz.prog _ _ W _)
 have HPM : Hid (checkA s = 0 → t.kind = 3 → chkN (n + 1) t = true → ∀ W b F,KnP s w W b F → Calls Tryz.prog 23 #[.agg #[.string s.name,.slice ma mn mc,.slice ea en ec,.slice ta tn tc,.map (some b)],.string nm,.agg #[.int .i64 K,.int .i64 N,.string S,.slice a1 n1 c1,.slice a2 n2 c2]] W (SeenP s w b F (n + 1) (prM (n + 1) s nm t) W)) := fun g1 g2 g3 W b F hk => pmsg_any (ok_kindsJ ((checkA_ok s).1 g1)) h1 hfl (n + 1) b F nm t K N S a1 a2 n1 c1 n2 c2 W hk ht g2 (by simp only [chkN,Bool.and_eq_true] at g3; exact g3.2) hsm
 obtain ⟨R,hR⟩ : ∃ R,projA (n + 1) s nm t = R := ⟨_,rfl⟩;have HR : Hid ((if checkA s = 0 ∧ (msgOf s nm).isSome = true ∧ t.kind = 3 ∧ chkN (n + 1) t = true then (prM (n + 1) s nm t,true) else (tr0,false)) = R) := hR;rw [hR];have HKS : Hid (∀ W,Below w.heap.size w W → KnP s w (W.alloc (.map #[] 0)) W.heap.size (fun _ => False)) := fun W hW => KnP.start hW
 generalize s.name = sn at *;clear hR hK hN hS ht hsm hc hr0 hw hf h1 her h3 hfl hn;have hmm := @run_makeMap Tryz.prog;obtain ⟨BS,BT,BR,hbw⟩ := p3blk w #[.string sn,.slice ma mn mc,.slice ea en ec,.slice ta tn tc] #[.int .i64 K,.int .i64 N,.string S,.slice a1 n1 c1,.slice a2 n2 c2] #[.int .i64 0,.int .i64 0,.string ⟨#[]⟩,.slice none 0 0,.slice none 0 0] 26 30 30
 go_enter Tryz.func9,Tryz.ntmps9
 go_upto_region 1 with fail
 generalize (((w.alloc (Obj.cells #[.string sn,.slice ma mn mc,.slice ea en ec,.slice ta tn tc] 26)).alloc (Obj.cells #[.int .i64 K,.int .i64 N,.string S,.slice a1 n1 c1,.slice a2 n2 c2] 30)).alloc (Obj.cells #[.int .i64 0,.int .i64 0,.string ⟨#[]⟩,.slice none 0 0,.slice none 0 0] 30)) = U0 at *;obtain ⟨b0,hb0⟩ : ∃ z,w.heap.size = z := ⟨_,rfl⟩;have HBZ : Hid (w.heap.size = b0) := hb0;rw [hb0] at BS BT BR
 try simp only [hb0]
 clear hb0;obtain ⟨s0,s1,s2,s3⟩ := cl4 BS;go_wp2_with fail;refine (HCC.out _ hbw).mono ?_;rintro e w1 ⟨rfl,hb1⟩;have hbw1 := hbw.trans (hb1.mono hbw.size);have BS1 := BS.below hb1;have BT1 := BT.below hb1;have BR1 := BR.below hb1;clear s0 s1 s2 s3 BS BT BR hb1 hbw HCC;obtain ⟨CA,hCA⟩ : ∃ z,checkA s = z := ⟨_,rfl⟩;have HCA : Hid (checkA s = CA) := hCA;rw [hCA] at HR ⊢;clear hCA
 by_cases hca : CA = 0
 rotate_left
 ·have d : (CA != 0) = true := by simpa using hca
  have HRN : Hid (R = (tr0,false)) := (by rw [← HR.out,if_neg (fun h => hca h.1)] : R = _);clear hca HR HPM HMC HVC HKS BS1 BT1;obtain ⟨r0,r1,r2,r3,r4⟩ := cl5 BR1;obtain ⟨rz0,rz1,rz2,rz3,rz4⟩ := fz5 BR1;go_wp2_with fail;have hbe : ∀ W,Below w.heap.size w W → Below w.heap.size w (set5 W (b0 + 2) 0 (.int .i64 0) (.int .i64 0) (.string ⟨#[]⟩) (.slice none 0 0) (.slice none 0 0)) := fun W hW => hW.trans ((set5_kp W (b0 + 2) 0 _ _ _ _ _).toBelow hW.size fun q e => by rw [e,HBZ.out]; omega)
  unfold set5 at hbe;exact bodyPost_ret (results_two rfl _ _ _ ⟨b0 + 2,0,none⟩ (.agg #[.int .i64 0,.int .i64 0,.string ⟨#[]⟩,.slice none 0 0,.slice none 0 0]) (by go_simp) (by go_simp)) rfl (SeeFP.no HRN.out (hbe _ hbw1))
 subst hca;have HPM1 := HPM.out HCA.out;obtain ⟨s0,s1,s2,s3⟩ := cl4 BS1;go_wp2_with fail;refine (HMC.out _ hbw1).mono ?_;rintro e w2 ⟨qn,vf,vr,rfl,⟨fa,fl,fc,rfl⟩,⟨ra,rl,rc,rfl⟩,hb2⟩;have hbw2 := hbw1.trans (hb2.mono hbw1.size);have BS2 := BS1.below hb2;have BT2 := BT1.below hb2;have BR2 := BR1.below hb2;have HPM2 : Hid _ := HPM1;clear s0 s1 s2 s3 BS1 BT1 BR1 hb2 hbw1 HMC HPM1 HPM HCA;obtain ⟨QB,hQB⟩ : ∃ z,(msgOf s nm).isSome = z := ⟨_,rfl⟩;have HQB : Hid ((msgOf s nm).isSome = QB) := hQB;rw [hQB] at HR ⊢;clear hQB;have alm : ∀ o,Below w2.heap.size w2 (w2.alloc o) := fun o => bra _
 have hl2 : b0 + 2 < w2.heap.size := BR2.lt;have hl1 : b0 + 1 < w2.heap.size := BT2.lt;have hl0 : b0 < w2.heap.size := BS2.lt
 cases QB with
 | false =>
  have HRN : Hid (R = (tr0,false)) := (by rw [← HR.out,if_neg (fun h => by cases h.2.1)] : R = _);clear HR HPM2 HVC HKS BS2 BT2;obtain ⟨r0,r1,r2,r3,r4⟩ := cl5 BR2;obtain ⟨rz0,rz1,rz2,rz3,rz4⟩ := fz5 BR2;go_wp2_with fail
  have hbe : ∀ o,Below w.heap.size w ((set5 w2 (b0 + 2) 0 (.int .i64 0) (.int .i64 0) (.string ⟨#[]⟩) (.slice none 0 0) (.slice none 0 0)).alloc o) := fun o => by
   have h1 := hbw2.trans ((set5_kp w2 (b0 + 2) 0 (.int .i64 0) (.int .i64 0) (.string ⟨#[]⟩) (.slice none 0 0) (.slice none 0 0)).toBelow hbw2.size fun q e => by rw [e,HBZ.out]; omega);exact h1.alloc h1.size _
  unfold set5 at hbe;exact bodyPost_ret (results_two rfl _ _ _ ⟨b0 + 2,0,none⟩ (.agg #[.int .i64 0,.int .i64 0,.string ⟨#[]⟩,.slice none 0 0,.slice none 0 0]) (by go_simp) (by go_simp)) rfl (SeeFP.no HRN.out (hbe _))
 | true =>
  go_upto_region 6 with fail
  have hbw3 := hbw2.trans ((alm (Obj.cells #[.string qn,.slice fa fl fc,.slice ra rl rc] 52)).mono hbw2.size);have BS3 := BS2.below (alm (Obj.cells #[.string qn,.slice fa fl fc,.slice ra rl rc] 52));have BT3 := BT2.below (alm (Obj.cells #[.string qn,.slice fa fl fc,.slice ra rl rc] 52));have BR3 := BR2.below (alm (Obj.cells #[.string qn,.slice fa fl fc,.slice ra rl rc] 52));clear BS2 BT2 BR2 hbw2 alm hl0 hl1 hl2;generalize (w2.alloc (Obj.cells #[.string qn,.slice fa fl fc,.slice ra rl rc] 52)) = W3 at *;rw [HT3.out] at HR;obtain ⟨t0,t1,t2,t3,t4⟩ := cl5 BT3
  by_cases hK3 : K = 3
  rotate_left
  ·have d : (K != 3) = true := by simpa using hK3
   have HRN : Hid (R = (tr0,false)) := (by rw [← HR.out,if_neg (fun h => hK3 h.2.2.1)] : R = _);clear hK3 HR HPM2 HVC HKS BS3 BT3 HT3;obtain ⟨r0,r1,r2,r3,r4⟩ := cl5 BR3;obtain ⟨rz0,rz1,rz2,rz3,rz4⟩ := fz5 BR3;go_wp2_with fail;have hbe : ∀ W,Below w.heap.size w W → Below w.heap.size w (set5 W (b0 + 2) 0 (.int .i64 0) (.int .i64 0) (.string ⟨#[]⟩) (.slice none 0 0) (.slice none 0 0)) := fun W hW => hW.trans ((set5_kp W (b0 + 2) 0 _ _ _ _ _).toBelow hW.size fun q e => by rw [e,HBZ.out]; omega)
   unfold set5 at hbe;exact bodyPost_ret (results_two rfl _ _ _ ⟨b0 + 2,0,none⟩ (.agg #[.int .i64 0,.int .i64 0,.string ⟨#[]⟩,.slice none 0 0,.slice none 0 0]) (by go_simp) (by go_simp)) rfl (SeeFP.no HRN.out (hbe _ hbw3))
  subst hK3;go_wp2_with fail;refine (HVC.out _ hbw3).mono ?_;rintro e w4 ⟨rfl,hb4⟩;have hbw4 := hbw3.trans (hb4.mono hbw3.size);have BS4 := BS3.below hb4;have BT4 := BT3.below hb4;have BR4 := BR3.below hb4;clear t0 t1 t2 t3 t4 BS3 BT3 BR3 hb4 hbw3 HVC;obtain ⟨CB,hCB⟩ : ∃ z,chkN (n + 1) t = z := ⟨_,rfl⟩;have HCB : Hid (chkN (n + 1) t = CB) := hCB;rw [hCB] at HR ⊢;clear hCB
  cases CB with
  | false =>
   have HRN : Hid (R = (tr0,false)) := (by rw [← HR.out,if_neg (fun h => by cases h.2.2.2)] : R = _);clear HR HPM2 HKS BS4 BT4 HT3 HCB;obtain ⟨r0,r1,r2,r3,r4⟩ := cl5 BR4;obtain ⟨rz0,rz1,rz2,rz3,rz4⟩ := fz5 BR4;go_wp2_with fail;have hbe : ∀ W,Below w.heap.size w W → Below w.heap.size w (set5 W (b0 + 2) 0 (.int .i64 0) (.int .i64 0) (.string ⟨#[]⟩) (.slice none 0 0) (.slice none 0 0)) := fun W hW => hW.trans ((set5_kp W (b0 + 2) 0 _ _ _ _ _).toBelow hW.size fun q e => by rw [e,HBZ.out]; omega)
   unfold set5 at hbe;exact bodyPost_ret (results_two rfl _ _ _ ⟨b0 + 2,0,none⟩ (.agg #[.int .i64 0,.int .i64 0,.string ⟨#[]⟩,.slice none 0 0,.slice none 0 0]) (by go_simp) (by go_simp)) rfl (SeeFP.no HRN.out (hbe _ hbw4))
  | true =>
   have HRY : Hid (R = (prM (n + 1) s nm t,true)) := (by rw [← HR.out,if_pos (by simp)] : R = _);have HPW : Hid (∀ W b F,KnP s w W b F → _) := HPM2.out HT3.out HCB.out;have hK5 := HKS.out w4 hbw4;have hl2 : b0 + 2 < w4.heap.size := BR4.lt;have hl1 : b0 + 1 < w4.heap.size := BT4.lt;have hl0 : b0 < w4.heap.size := BS4.lt;have HPX : Hid _ := HPW.out _ _ _ hK5;obtain ⟨s0,s1,s2,s3⟩ := cl4 BS4;obtain ⟨t0,t1,t2,t3,t4⟩ := cl5 BT4;have al5 : Below w4.heap.size w4 (w4.alloc (.map #[] 0)) := bra _;have BR5 := BR4.below al5;clear HPM2 HPW HKS HR BS4 BT4 BR4 HCB HT3;generalize prM (n + 1) s nm t = T at *;go_wp2_with fail;refine Calls.mono HPX.out ?_;rintro e w6 ⟨r,G,rfl,hg,hse⟩;obtain ⟨q1,q2,q3,q4,q5,q6,rfl⟩ := trC_open hse.now.trQ.trC
   have hnb : b0 + 2 ≠ w4.heap.size := by omega
   have BR6 := BR5.kp hg.kp hnb;have hnG : ¬ G (b0 + 2) := hg.fresh BR5 fun e => e
   have hk7 := set5_kp w6 (b0 + 2) 0 (.int .i64 T.kind) (.int .i64 T.n) (.string T.s) (.slice q1 q2 q3) (.slice q4 q5 q6);have hFIN : Hid (SeeFP (n + 1) R w (.returned (.tuple #[.agg #[.int .i64 T.kind,.int .i64 T.n,.string T.s,.slice q1 q2 q3,.slice q4 q5 q6],.bool true])) (set5 w6 (b0 + 2) 0 (.int .i64 T.kind) (.int .i64 T.n) (.string T.s) (.slice q1 q2 q3) (.slice q4 q5 q6))) := SeeFP.yes HRY.out (hg.kn.kp hk7 (fun k e => by rw [e,HBZ.out]; omega) (fun e => hnb e.symm) fun k e e2 => hnG (e2 ▸ e)) (hse.stay (Stay.kp hk7 (fun k e => (hg.kn.new k e).2) fun k e e2 => hnG (e2 ▸ e)));unfold set5 at hFIN;obtain ⟨r0,r1,r2,r3,r4⟩ := cl5 BR6;obtain ⟨rz0,rz1,rz2,rz3,rz4⟩ := fz5 BR6;clear hse hg hk7 hnG hnb BR5 BR6 HPX hK5 HRY s0 s1 s2 s3 t0 t1 t2 t3 t4 al5 hl0 hl1 hl2;generalize T.kind = TK at *;generalize T.n = TN at *;generalize T.s = TS at *;go_wp2_with fail;refine bodyPost_ret (results_two rfl _ _ _ ⟨b0 + 2,0,none⟩ (.agg #[.int .i64 TK,.int .i64 TN,.string TS,.slice q1 q2 q3,.slice q4 q5 q6]) (by go_simp) (by go_simp)) rfl ?_;exact hFIN.out
theorem infoByte : (Tryz.prog.info? 5).map (fun i => (i.zero,i.size,i.bytes)) = some (some (.int .u8 0),1,1) := by kernel_rfl
def byteCells (ns : List Nat) : List Value := ns.map fun (c : Nat) => Value.int .u8 (c : Int)
def Holds (w : World) (a : Option Addr) (ns : List Nat) : Prop := ∀ b,a = some b → ∀ j u,(byteCells ns)[j]? = some u → w.cell? (b.add j) = some u
theorem info_parts {e : Nat} {z : Value} {s b : Nat} (h : (Tryz.prog.info? e).map (fun i => (i.zero,i.size,i.bytes)) = some (some z,s,b)) :
  ∃ i,Tryz.prog.info? e = some i ∧ i.zero = some z ∧ i.size = s ∧ i.bytes = b := by
 cases hi : Tryz.prog.info? e with
 | none => rw [hi] at h; simp at h
 | some i => rw [hi] at h; simp at h; exact ⟨i,rfl,h.1,h.2.1,h.2.2⟩
theorem Holds.below {w w1 : World} {a : Option Addr} {ns : List Nat} (h : Holds w a ns) (hb : Below w.heap.size w w1) : Holds w1 a ns := by
 intro b hab j u hu;have := h b hab j u hu;rw [hb.cell (World.block_lt_of_cell? _ _ this)];exact this
theorem own_mono {w : World} {base base' : Nat} {e : TypeId} {v : Value} {n : Nat} {xs : List Value} (h : w.ownsRow base e 1 v n xs) (hb : base' ≤ base) : w.ownsRow base' e 1 v n xs := by
 refine ⟨h.1,?_⟩
 rcases h.2 with h | ⟨g,cap,cur,h1,h2,h3⟩
 ·exact .inl h
 ·exact .inr ⟨g,cap,cur,h1,Nat.le_trans hb h2,h3⟩
theorem byteCells_get (ns : List Nat) (j : Nat) (h : j < ns.length) : (byteCells ns)[j]? = some (.int .u8 ((ns.getD j 0 : Nat) : Int)) := by
 simp [byteCells,List.getD_eq_getElem?_getD,List.getElem?_eq_getElem h]
theorem byteCells_len (ns : List Nat) : (byteCells ns).length = ns.length := by simp [byteCells]
theorem Holds.at {w : World} {g off : Nat} {ns : List Nat} (h : Holds w (some ⟨g,off,none⟩) ns) (j : Nat) (hj : j < ns.length) : w.cell? ⟨g,off + j,none⟩ = some (.int .u8 ((ns.getD j 0 : Nat) : Int)) := by
 have := h _ rfl j _ (byteCells_get ns j hj)
 rwa [Addr.add_lit] at this
theorem Holds.of {w : World} {g off : Nat} {ns : List Nat} (h : ∀ j,j < ns.length → w.cell? ⟨g,off + j,none⟩ = some (.int .u8 ((ns.getD j 0 : Nat) : Int))) : Holds w (some ⟨g,off,none⟩) ns := by
 intro b hb j u hu
 obtain rfl : ⟨g,off,none⟩ = b := by simpa using hb
 have hj : j < ns.length := by
  rcases Nat.lt_or_ge j ns.length with h | h
  ·exact h
  ·rw [List.getElem?_eq_none (by rw [byteCells_len]; exact h)] at hu; cases hu
 rw [byteCells_get ns j hj] at hu;rw [Addr.add_lit,h j hj];exact hu
theorem Holds.nil {w : World} {a : Option Addr} : Holds w a [] := by
 intro b _ j u hu
 simp [byteCells] at hu
theorem own_open {w : World} {B : Nat} {r : Value} {n : Nat} {ns : List Nat} (h : w.ownsRow B 5 1 r n (byteCells ns)) :
  ∃ a cap,r = .slice a ns.length cap ∧ n = ns.length ∧ ((a = none ∧ ns = [] ∧ cap = 0) ∨ ∃ g,a = some ⟨g,0,none⟩ ∧ B ≤ g ∧ g < w.heap.size) ∧ ns.length ≤ cap ∧ cap ≤ maxLen ∧ Holds w a ns := by
 have hn : n = ns.length := by have := h.1; rw [byteCells_len] at this; omega
 have h0 := h;subst hn
 rcases h.2 with ⟨rfl,h2⟩ | ⟨g,cap,cur,rfl,hb,hg,hc,hm,_⟩
 ·have : ns = [] := List.eq_nil_of_length_eq_zero h2;subst this;exact ⟨none,0,rfl,rfl,.inl ⟨rfl,rfl,rfl⟩,Nat.le_refl _,by decide,Holds.nil⟩
 ·refine ⟨_,cap,rfl,rfl,.inr ⟨g,rfl,hb,(Array.getElem?_eq_some_iff.1 hg).1⟩,hc,hm,?_⟩;intro b hb' j u hu
  obtain rfl : ⟨g,0,none⟩ = b := by simpa using hb'
  exact h0.cells (g := g) rfl j u hu
def strN (ns : List Nat) : ByteArray := ⟨(ns.map UInt8.ofNat).toArray⟩
theorem strN_size (ns : List Nat) : (strN ns).size = ns.length := by simp [strN,ByteArray.size]
theorem conv_holds (w : World) (a : Option Addr) (ns : List Nat) (cap : Nat) (ha : a = none → ns = []) (hh : Holds w a ns) :
  (convert 43 9 (.slice a ns.length cap)).run Tryz.prog w = .ok (.string (strN ns)) w := by
 cases a with
 | none =>
  obtain rfl := ha rfl;exact run_convert_bytes_nil (P := Tryz.prog) w 43 5 Tryz.underlying43 Tryz.underlying5 _ _ 9 Tryz.underlying9
 | some b =>
  have e : byteCells ns = (ns.map fun (c : Nat) => (c : Int)).map (Value.int .u8) := by simp [byteCells]
  have hl : (loadCells b ns.length).run Tryz.prog w = .ok ((ns.map fun (c : Nat) => (c : Int)).map (Value.int .u8)).toArray w := by
   have := run_loadCells_list (P := Tryz.prog) w b (byteCells ns) (fun j v hj => hh b rfl j v hj);rw [byteCells_len] at this;rw [← e]; exact this
  rw [run_convert_bytes_string w 43 9 5 _ _ cap Tryz.underlying43 Tryz.underlying5 Tryz.underlying9,run_bytesToString w _ _ cap _ hl,foldl_push_bytes]
  simp [strN,ByteArray.empty,ByteArray.emptyWithCapacity]
  rfl
theorem below_one (w : World) (o : Obj) : Below w.heap.size w (w.alloc o) := bra _
theorem byteCells_one (ns : List Nat) : ∀ u ∈ byteCells ns,u.oneCell' = true := by
 intro u hu;simp only [byteCells,List.mem_map] at hu;obtain ⟨n,_,rfl⟩ := hu
 rfl
theorem byteCells_app (ns ms : List Nat) : byteCells (ns ++ ms) = byteCells ns ++ byteCells ms := by simp [byteCells]
theorem wpList_join {w : World} {ops : Array Oper} {rest : List Oper} {o : Oper} {a : Act} {Q : Exit → Act → World → Prop} (hgd : o.guard = none) (s x : Operand)
  (ho : o.op = .call { callee := .builtin .append,args := #[s,x],argTypes := #[43,43] }) (base : Nat) (v : Value) (n : Nat) (ns : List Nat) (hs : a.eval s = v) (hown : w.ownsRow base 5 1 v n (byteCells ns))
  (ao : Option Addr) (ms : List Nat) (m c : Nat) (hx : a.eval x = .slice ao m c) (hm : m = ms.length) (hao : ao = none → ms = [] ∧ c = 0) (hh : Holds w ao ms) (hb : ns.length + ms.length ≤ 140737488355328) (hbase : base ≤ w.heap.size)
  (h : ∀ v' w',w'.ownsRow base 5 1 v' (ns ++ ms).length (byteCells (ns ++ ms)) → w.grownBy w' v.ownBlock → wpList Tryz.prog ops Q rest (a.put o.dst v') w') : wpList Tryz.prog ops Q (o :: rest) a w := by
 obtain ⟨i0,hi,hz0,hz1,hz2⟩ := info_parts infoByte
 have hn : n = ns.length := by have := hown.1; rw [byteCells_len] at this; omega
 subst hm hn
 cases ao with
 | none =>
  obtain ⟨rfl,rfl⟩ := hao rfl;refine wpList_append_own_none hgd s x 43 ho base 5 i0 1 Tryz.underlying43 hi v _ _ hs hown hx ?_;refine h v w ?_ ⟨rfl,rfl,rfl,Nat.le_refl _,fun _ _ _ => rfl⟩;rw [List.append_nil];exact hown
 | some ad =>
  refine wpList_append_own w hgd s x 43 ho base 5 i0 (.int .u8 0) 1 1 Tryz.underlying43 hi hz0 hz1 hz2 rfl (by decide) v _ _ hs hown ad ms.length c (byteCells ms) hx (by rw [byteCells_len]; omega) (hh ad rfl) (byteCells_one ms) (by unfold maxLen; omega) (by omega) hbase ?_;intro v' w' h1 h2 _;refine h v' w' ?_ h2;rw [byteCells_app,List.length_append];exact h1
end
section
def digsF : Nat → Nat → List Nat
 | 0,v => [v]
 | f + 1,v => if v < 128 then [v] else (v % 128 + 128) :: digsF f (v / 128)
def digs (v : Nat) : List Nat := digsF v v
theorem digsF_fuel (f : Nat) : ∀ g v,v ≤ f → v ≤ g → digsF f v = digsF g v := by
 induction f with
 | zero =>
  intro g v h1 _
  obtain rfl : v = 0 := by omega
  cases g <;> rfl
 | succ f ih =>
  intro g v h1 h2
  cases g with
  | zero =>
   obtain rfl : v = 0 := by omega
   rfl
  | succ g =>
   simp only [digsF]
   by_cases h : v < 128
   ·rw [if_pos h,if_pos h]
   ·rw [if_neg h,if_neg h,ih g (v / 128) (by omega) (by omega)]
theorem digs_small {v : Nat} (h : v < 128) : digs v = [v] := by
 unfold digs
 cases v with
 | zero => rfl
 | succ n => simp only [digsF]; rw [if_pos h]
theorem digs_big {v : Nat} (h : ¬ v < 128) : digs v = (v % 128 + 128) :: digs (v / 128) := by
 unfold digs
 cases v with
 | zero => omega
 | succ n =>
  simp only [digsF];rw [if_neg h,digsF_fuel n ((n + 1) / 128) ((n + 1) / 128) (by omega) (Nat.le_refl _)]
theorem digs_ind {M : Nat → Prop} (case1 : ∀ v,v < 128 → M v) (case2 : ∀ v,¬ v < 128 → M (v / 128) → M v) (v : Nat) : M v := by
 induction v using Nat.strongRecOn with
 | _ v ih =>
  by_cases h : v < 128
  ·exact case1 v h
  ·exact case2 v h (ih (v / 128) (by omega))
theorem digs_ne (v : Nat) : digs v ≠ [] := by
 by_cases h : v < 128
 ·rw [digs_small h]; simp
 ·rw [digs_big h]; simp
theorem digs_lt (v : Nat) : ∀ n ∈ digs v, n < 256 := by
  induction v using digs_ind with
  | case1 v h => rw [digs_small h]; simp; omega
  | case2 v h ih => rw [digs_big h]; intro n hn; simp at hn; rcases hn with rfl | hn; · omega
                    exact ih n hn
theorem digs_len_le (k : Nat) : ∀ v,v < 128 * 128 ^ k → (digs v).length ≤ k + 1 := by
 induction k with
 | zero => intro v h; rw [digs_small (by omega)]; simp
 | succ k ih =>
  intro v h
  by_cases hv : v < 128
  ·rw [digs_small hv]; simp
  ·rw [digs_big hv];have := ih (v / 128) (by rw [Nat.div_lt_iff_lt_mul (by omega)]; rw [Nat.pow_succ] at h; omega)
   simp; omega
theorem digs_len64 (v : Nat) (h : v < 18446744073709551616) : 1 ≤ (digs v).length ∧ (digs v).length ≤ 10 :=
  ⟨List.length_pos_iff.2 (digs_ne v), digs_len_le 9 v (by have : (128 : Nat) * 128 ^ 9 = 1180591620717411303424 := by decide
                                                          omega)⟩
def getF : List Nat → Nat → Nat → Nat → Nat × Nat × Nat
 | [],_,_,_ => (0,0,2)
 | c :: r,i,v,at' => if i = 9 ∧ 1 < c then (0,0,3) else if 128 ≤ c then getF r (i + 1) (v + c % 128 * 128 ^ i) at' else if c = 0 ∧ 0 < i then (0,0,3) else (v + c % 128 * 128 ^ i,at' + i + 1,0)
def getR (ns : List Nat) (at' : Int) : Nat × Nat × Nat := if at' < 0 ∨ (ns.length : Int) < at' then (0,0,1) else getF (ns.drop at'.toNat) 0 0 at'.toNat
theorem getF_ten {c : Nat} (r : List Nat) {i : Nat} (v p : Nat) (h : i = 9) (hc : 1 < c) : getF (c :: r) i v p = (0,0,3) := by rw [getF,if_pos ⟨h,hc⟩]
theorem getF_on {c : Nat} (r : List Nat) {i : Nat} (v p : Nat) (h : ¬ (i = 9 ∧ 1 < c)) (hc : 128 ≤ c) : getF (c :: r) i v p = getF r (i + 1) (v + c % 128 * 128 ^ i) p := by rw [getF,if_neg h,if_pos hc]
theorem getF_zero {c : Nat} (r : List Nat) {i : Nat} (v p : Nat) (h : ¬ (i = 9 ∧ 1 < c)) (hc : c = 0) (hi : 0 < i) : getF (c :: r) i v p = (0,0,3) := by rw [getF,if_neg h,if_neg (by omega),if_pos ⟨hc,hi⟩]
theorem getF_end {c : Nat} (r : List Nat) {i : Nat} (v p : Nat) (h : ¬ (i = 9 ∧ 1 < c)) (hc : c < 128) (hz : ¬ (c = 0 ∧ 0 < i)) : getF (c :: r) i v p = (v + c * 128 ^ i,p + i + 1,0) := by
 rw [getF,if_neg h,if_neg (by omega),if_neg hz,Nat.mod_eq_of_lt hc]
theorem getF_digs (v : Nat) : ∀ (i acc p : Nat) (rest : List Nat),(0 < i → 0 < v) → i ≤ 9 → v * 128 ^ i < 18446744073709551616 → getF (digs v ++ rest) i acc p = (acc + v * 128 ^ i,p + i + (digs v).length,0) := by
 induction v using digs_ind with
 | case1 v h =>
  intro i acc p rest h0 hi hv;rw [digs_small h,List.singleton_append,getF_end rest acc p ?_ h (by omega)]
  ·rfl
  ·rintro ⟨rfl,h1⟩
   have : (128 : Nat) ^ 9 = 9223372036854775808 := by decide
   rw [this] at hv; omega
 | case2 v h ih =>
  intro i acc p rest h0 hi hv
  have hi9 : i ≠ 9 := by
   rintro rfl
   have : (128 : Nat) ^ 9 = 9223372036854775808 := by decide
   rw [this] at hv; omega
  have e : v / 128 * 128 ^ (i + 1) + v % 128 * 128 ^ i = v * 128 ^ i := by
   rw [Nat.pow_succ];have := Nat.div_add_mod v 128
   have e9 : v / 128 * (128 ^ i * 128) + v % 128 * 128 ^ i = (128 * (v / 128) + v % 128) * 128 ^ i := by rw [Nat.add_mul]; congr 1; rw [Nat.mul_comm (128 ^ i),← Nat.mul_assoc,Nat.mul_comm (v / 128)]
   rw [e9,this]
  rw [digs_big h,List.cons_append,getF_on _ acc p (by omega) (by omega),ih (i + 1) _ p rest (by omega) (by omega) (by omega)]
  have e2 : (v % 128 + 128) % 128 = v % 128 := by omega
  rw [e2];simp only [Prod.mk.injEq,and_true,List.length_cons]
  omega
end
section
open Go.ChangeShapes Go.WideShapes Go.ChangeAt Go.RowKit
theorem vret_int {k : IntKind} {a b : Int} (h : a = b) : Ending.returned (.int k a) = .returned (.int k b) := by rw [h]
def zigN (n : Int) : Int := if n < 0 then -2 * n - 1 else 2 * n
def zagN (v : Int) : Int := if v % 2 = 0 then v / 2 else -(v / 2) - 1
theorem zigN_bd (n : Int) (h1 : -9223372036854775808 ≤ n) (h2 : n ≤ 9223372036854775807) : 0 ≤ zigN n ∧ zigN n < 18446744073709551616 := by
 unfold zigN; split <;> omega
theorem zagN_bd (v : Int) (h1 : 0 ≤ v) (h2 : v < 18446744073709551616) : -9223372036854775808 ≤ zagN v ∧ zagN v ≤ 9223372036854775807 := by
 unfold zagN; split <;> omega
theorem zag_zig (n : Int) : zagN (zigN n) = n := by unfold zagN zigN; split <;> split <;> omega
theorem zig_zag (v : Int) (h : 0 ≤ v) : zigN (zagN v) = v := by unfold zagN zigN; split <;> split <;> omega
theorem bytes_snoc (ns acc : List Nat) (c : Nat) : (ns ++ (acc ++ [c])).length = (ns ++ acc).length + 1 ∧ byteCells (ns ++ (acc ++ [c])) = byteCells (ns ++ acc) ++ [.int .u8 (c : Int)] := by
 constructor
 ·simp; omega
 ·simp [byteCells]
theorem own_step {w : World} {B B' : Nat} {r : Value} {ns acc : List Nat} {c n : Nat} {xs : List Value} (h : w.ownsRow B' 5 1 r (n + 1) (xs ++ [.int .u8 (c : Int)])) (hn : n = (ns ++ acc).length) (hx : xs = byteCells (ns ++ acc)) (hB : B ≤ B') :
  w.ownsRow B 5 1 r (ns ++ (acc ++ [c])).length (byteCells (ns ++ (acc ++ [c]))) := by
 subst hn hx;rw [(bytes_snoc ns acc c).1,(bytes_snoc ns acc c).2];exact own_mono h hB
def getV (r : Nat × Nat × Nat) : Value := .tuple #[.int .u64 (r.1 : Int),.int .i64 (r.2.1 : Int),.int .i64 (r.2.2 : Int)]
theorem getR_out {ns : List Nat} {at' : Int} (h : at' < 0 ∨ (ns.length : Int) < at') : getR ns at' = (0,0,1) := by rw [getR,if_pos h]
theorem getR_in {ns : List Nat} {p : Nat} (h : p ≤ ns.length) : getR ns (p : Int) = getF (ns.drop p) 0 0 p := by
 rw [getR,if_neg (by omega),Int.toNat_natCast]
theorem or_add (v d k : Nat) (hv : v < 128 ^ k) (hd : d < 128) (hk : k ≤ 8 ∨ (k = 9 ∧ d ≤ 1)) : d * 128 ^ k < 18446744073709551616 ∧ v < 18446744073709551616 ∧ v + d * 128 ^ k < 128 ^ (k + 1) ∧ bits .or .u64 (v : Int) ((d * 128 ^ k : Nat) : Int) = ((v + d * 128 ^ k : Nat) : Int) := by
 have h9 : (128 : Nat) ^ 9 = 9223372036854775808 := by decide
 have hp : 128 ^ k ≤ 128 ^ 9 := Nat.pow_le_pow_right (by decide) (by omega)
 have h1 : d * 128 ^ k < 18446744073709551616 := by
  rcases hk with h | ⟨rfl,h⟩
  ·have hp8 : 128 ^ k ≤ 128 ^ 8 := Nat.pow_le_pow_right (by decide) (by omega);have := Nat.mul_le_mul (show d ≤ 127 by omega) hp8
   have h8 : (127 : Nat) * 128 ^ 8 = 9151314442816847872 := by decide
   omega
  ·have := Nat.mul_le_mul_right (128 ^ 9) h
   omega
 have h2 : v < 18446744073709551616 := by omega
 refine ⟨h1,h2,?_,?_⟩
 ·rw [Nat.pow_succ];have := Nat.mul_le_mul_right (128 ^ k) (show d + 1 ≤ 128 by omega);rw [Nat.add_mul] at this
  omega
 ·rw [u64_or_nat _ _ h2 h1]
  have e : 128 ^ k = 2 ^ (7 * k) := by rw [Nat.pow_mul]
  have := nat_join (7 * k) (d * 128 ^ k) v (by rw [e]; exact Nat.mul_mod_left _ _) (by rw [← e]; exact hv);rw [Nat.or_comm,this]
  congr 1
  omega
theorem ret_get {x y e : Int} {r : Nat × Nat × Nat} {a b c : Nat} (hr : r = (a,b,c)) (h1 : x = a) (h2 : y = b) (h3 : e = c) : Ending.returned (.tuple #[.int .u64 x,.int .i64 y,.int .i64 e]) = .returned (getV r) := by
 subst hr h1 h2 h3; rfl
def bytesN (b : ByteArray) : List Nat := b.data.toList.map UInt8.toNat
theorem bytesN_len (b : ByteArray) : (bytesN b).length = b.size := by
 rw [bytesN,List.length_map,Array.length_toList]
 rfl
theorem bytesN_lt (b : ByteArray) : ∀ n ∈ bytesN b,n < 256 := by
 intro n hn;simp only [bytesN,List.mem_map] at hn;obtain ⟨u,_,rfl⟩ := hn;exact u.toNat_lt
theorem strN_bytesN (b : ByteArray) : strN (bytesN b) = b := by
 apply ByteArray.ext
 apply Array.ext'
 simp only [strN,bytesN,List.map_map]
 conv => rhs; rw [← List.map_id b.data.toList]
 apply List.map_congr_left
 intro u _
 simp
theorem bytesN_strN (ns : List Nat) (h : ∀ n ∈ ns,n < 256) : bytesN (strN ns) = ns := by
 simp only [strN,bytesN,List.map_map]
 conv => rhs; rw [← List.map_id ns]
 apply List.map_congr_left
 intro n hn;have := h n hn
 simp [UInt8.toNat_ofNat']
 omega
theorem strCells_bytes (b : ByteArray) : Lib.strCells b = byteCells (bytesN b) := by
 simp [Lib.strCells,byteCells,bytesN]
def fieldN (r : Fd) : List Nat := digs (2 * r.tag + r.wire).toNat ++ if r.wire = 0 then digs (zigN r.n).toNat else digs r.b.size ++ bytesN r.b
theorem fieldN_num (t : Nat) (n : Int) (b : ByteArray) : fieldN ⟨t,0,n,b⟩ = digs (2 * t) ++ digs (zigN n).toNat := by
 simp only [fieldN,if_pos]; congr 2
theorem fieldN_text (t : Nat) (n : Int) (b : ByteArray) : fieldN ⟨t,1,n,b⟩ = digs (2 * t + 1) ++ (digs b.size ++ bytesN b) := by
 simp only [fieldN]; rw [if_neg (by decide)]; congr 2
def flatN (rs : List Fd) : List Nat := rs.flatMap fieldN
theorem flatN_app (a b : List Fd) : flatN (a ++ b) = flatN a ++ flatN b := by simp [flatN]
theorem flatN_nil : flatN [] = [] := rfl
theorem flatN_cons (r : Fd) (l : List Fd) : flatN (r :: l) = fieldN r ++ flatN l := by simp [flatN]
theorem fieldN_lt (r : Fd) : ∀ n ∈ fieldN r,n < 256 := by
 intro n hn;simp only [fieldN,List.mem_append] at hn
 rcases hn with hn | hn
 ·exact digs_lt _ _ hn
 ·split at hn
  ·exact digs_lt _ _ hn
  ·rcases List.mem_append.1 hn with hn | hn
   ·exact digs_lt _ _ hn
   ·exact bytesN_lt _ _ hn
theorem flatN_lt (rs : List Fd) : ∀ n ∈ flatN rs,n < 256 := by
 intro n hn;simp only [flatN,List.mem_flatMap] at hn;obtain ⟨r,_,h⟩ := hn;exact fieldN_lt r n h
theorem fieldN_len {r : Fd} (h : okF r = true) (hn : Is64 r.n) : 2 ≤ (fieldN r).length ∧ (fieldN r).length ≤ 4116 := by
 rcases ok_cases h hn with ⟨t,n,rfl,h1,h2,h3⟩ | ⟨t,b,rfl,h1,h2,h3⟩
 ·have hz := zigN_bd n h3.1 h3.2;have l1 := digs_len64 (2 * t) (by omega);have l2 := digs_len64 (zigN n).toNat (by omega);rw [fieldN_num,List.length_append]; omega
 ·have l1 := digs_len64 (2 * t + 1) (by omega);have l2 := digs_len64 b.size (by omega);rw [fieldN_text,List.length_append,List.length_append,bytesN_len]; omega
def putL (rs : List Fd) : List Nat × Nat := if rs.all okF = true then if (flatN rs).length ≤ 4096 then (flatN rs,0) else ([],4) else ([],1)
theorem putL_bad {rs : List Fd} (h : rs.all okF = false) : putL rs = ([],1) := by rw [putL,if_neg (by simp [h])]
theorem putL_big {rs : List Fd} (h : rs.all okF = true) (hb : 4096 < (flatN rs).length) : putL rs = ([],4) := by rw [putL,if_pos h,if_neg (by omega)]
theorem putL_ok {rs : List Fd} (h : rs.all okF = true) (hb : (flatN rs).length ≤ 4096) : putL rs = (flatN rs,0) := by rw [putL,if_pos h,if_pos hb]
def nextN (ns : List Nat) (p : Nat) : Fd × Nat × Nat :=
 let h := getF (ns.drop p) 0 0 p
 if h.2.2 ≠ 0 then (fd0,0,h.2.2) else
 if h.1 / 2 = 0 ∨ 500 < h.1 / 2 then (fd0,0,7) else
 let v := getF (ns.drop h.2.1) 0 0 h.2.1
 if v.2.2 ≠ 0 then (fd0,0,v.2.2) else
 if h.1 % 2 = 0 then (⟨(h.1 / 2 : Nat),0,zagN v.1,⟨#[]⟩⟩,v.2.1,0) else
 if ns.length - v.2.1 < v.1 then (fd0,0,2) else (⟨(h.1 / 2 : Nat),1,0,strN ((ns.drop v.2.1).take v.1)⟩,v.2.1 + v.1,0)
theorem next_e1 {ns : List Nat} {p h q e : Nat} (g : getF (ns.drop p) 0 0 p = (h,q,e)) (he : e ≠ 0) : nextN ns p = (fd0,0,e) := by
 simp only [nextN,g]; rw [if_pos he]
theorem next_tag {ns : List Nat} {p h q : Nat} (g : getF (ns.drop p) 0 0 p = (h,q,0)) (ht : h / 2 = 0 ∨ 500 < h / 2) : nextN ns p = (fd0,0,7) := by
 simp only [nextN,g]; rw [if_neg (by simp),if_pos ht]
theorem next_e2 {ns : List Nat} {p h q v q2 e : Nat} (g : getF (ns.drop p) 0 0 p = (h,q,0)) (ht : ¬ (h / 2 = 0 ∨ 500 < h / 2)) (g2 : getF (ns.drop q) 0 0 q = (v,q2,e)) (he : e ≠ 0) : nextN ns p = (fd0,0,e) := by
 simp only [nextN,g,g2]; rw [if_neg (by simp),if_neg ht,if_pos he]
theorem next_num {ns : List Nat} {p h q v q2 : Nat} (g : getF (ns.drop p) 0 0 p = (h,q,0)) (ht : ¬ (h / 2 = 0 ∨ 500 < h / 2)) (g2 : getF (ns.drop q) 0 0 q = (v,q2,0)) (hw : h % 2 = 0) :
  nextN ns p = (⟨(h / 2 : Nat),0,zagN v,⟨#[]⟩⟩,q2,0) := by
 simp only [nextN,g,g2]; rw [if_neg (by simp),if_neg ht,if_neg (by simp),if_pos hw]
theorem next_short {ns : List Nat} {p h q v q2 : Nat} (g : getF (ns.drop p) 0 0 p = (h,q,0)) (ht : ¬ (h / 2 = 0 ∨ 500 < h / 2)) (g2 : getF (ns.drop q) 0 0 q = (v,q2,0)) (hw : h % 2 ≠ 0) (hv : ns.length - q2 < v) :
  nextN ns p = (fd0,0,2) := by
 simp only [nextN,g,g2]; rw [if_neg (by simp),if_neg ht,if_neg (by simp),if_neg hw,if_pos hv]
theorem next_text {ns : List Nat} {p h q v q2 : Nat} (g : getF (ns.drop p) 0 0 p = (h,q,0)) (ht : ¬ (h / 2 = 0 ∨ 500 < h / 2)) (g2 : getF (ns.drop q) 0 0 q = (v,q2,0)) (hw : h % 2 ≠ 0) (hv : v ≤ ns.length - q2) :
  nextN ns p = (⟨(h / 2 : Nat),1,0,strN ((ns.drop q2).take v)⟩,q2 + v,0) := by
 simp only [nextN,g,g2]; rw [if_neg (by simp),if_neg ht,if_neg (by simp),if_neg hw,if_neg (by omega)]
theorem getF_end_bd : ∀ (l : List Nat) (i v p h q : Nat),getF l i v p = (h,q,0) → (∀ n ∈ l,n < 256) → i ≤ 9 → v < 128 ^ i → p + i < q ∧ q ≤ p + i + l.length ∧ h < 18446744073709551616
 | [],i,v,p,h,q,hg,_,_,_ => by simp [getF] at hg
 | c :: r,i,v,p,h,q,hg,hb,hi,hv => by
  have hc := hb c (by simp)
  by_cases h9 : i = 9 ∧ 1 < c
  ·rw [getF_ten r v p h9.1 h9.2] at hg; simp at hg
  ·by_cases h1 : 128 ≤ c
   ·rw [getF_on r v p h9 h1] at hg
    have hi8 : i ≤ 8 := by omega
    have hs : v + c % 128 * 128 ^ i < 128 ^ (i + 1) := by
     rw [Nat.pow_succ];have := Nat.mul_le_mul_right (128 ^ i) (show c % 128 + 1 ≤ 128 by omega);rw [Nat.add_mul] at this
     omega
    have := getF_end_bd r (i + 1) _ p h q hg (fun n hn => hb n (by simp [hn])) (by omega) hs;simp only [List.length_cons]
    omega
   ·by_cases h0 : c = 0 ∧ 0 < i
    ·rw [getF_zero r v p h9 h0.1 h0.2] at hg; simp at hg
    ·rw [getF_end r v p h9 (by omega) h0] at hg;simp only [Prod.mk.injEq,and_true] at hg;obtain ⟨rfl,rfl⟩ := hg;simp only [List.length_cons];refine ⟨by omega,by omega,?_⟩
     have hp9 : (128 : Nat) ^ 9 = 9223372036854775808 := by decide
     by_cases hi9 : i = 9
     ·subst hi9;have := Nat.mul_le_mul_right (128 ^ 9) (show c ≤ 1 by omega)
      omega
     ·have hp8 : 128 ^ i ≤ 128 ^ 8 := Nat.pow_le_pow_right (by decide) (by omega);have := Nat.mul_le_mul (show c ≤ 127 by omega) hp8
      have h8 : (127 : Nat) * 128 ^ 8 = 9151314442816847872 := by decide
      have h88 : (128 : Nat) ^ 8 = 72057594037927936 := by decide
      omega
theorem getF_at_bd {ns : List Nat} {p h q : Nat} (hg : getF (ns.drop p) 0 0 p = (h,q,0)) (hb : ∀ n ∈ ns,n < 256) (hp : p ≤ ns.length) : p < q ∧ q ≤ ns.length ∧ h < 18446744073709551616 := by
 have := getF_end_bd _ 0 0 p h q hg (fun n hn => hb n (List.mem_of_mem_drop hn)) (by omega) (by decide);rw [List.length_drop] at this
 omega
theorem nextN_bd {ns : List Nat} {p q : Nat} {r : Fd} (hx : nextN ns p = (r,q,0)) (hb : ∀ n ∈ ns,n < 256) (hp : p ≤ ns.length) : p < q ∧ q ≤ ns.length := by
 obtain ⟨⟨h,q1,e1⟩,g1⟩ : ∃ x,getF (ns.drop p) 0 0 p = x := ⟨_,rfl⟩
 by_cases he1 : e1 = 0
 ·subst he1
  by_cases ht : h / 2 = 0 ∨ 500 < h / 2
  ·rw [next_tag g1 ht] at hx; simp at hx
  ·have b1 := getF_at_bd g1 hb hp;obtain ⟨⟨v,q2,e2⟩,g2⟩ : ∃ x,getF (ns.drop q1) 0 0 q1 = x := ⟨_,rfl⟩
   by_cases he2 : e2 = 0
   ·subst he2;have b2 := getF_at_bd g2 hb (by omega)
    by_cases hw : h % 2 = 0
    ·rw [next_num g1 ht g2 hw] at hx; simp at hx; omega
    ·by_cases hv : ns.length - q2 < v
     ·rw [next_short g1 ht g2 hw hv] at hx; simp at hx
     ·rw [next_text g1 ht g2 hw (by omega)] at hx; simp at hx; omega
   ·rw [next_e2 g1 ht g2 he2] at hx; simp at hx; omega
 ·rw [next_e1 g1 he1] at hx; simp at hx; omega
def getAF : Nat → List Nat → Nat → List Fd × Nat
 | 0,ns,p => if p < ns.length then ([],(nextN ns p).2.2) else ([],0)
 | f + 1,ns,p =>
  if p < ns.length ∧ p < (nextN ns p).2.1 ∧ (nextN ns p).2.2 = 0 then
   let x := getAF f ns (nextN ns p).2.1
   if x.2 = 0 then ((nextN ns p).1 :: x.1,0) else ([],x.2)
  else if p < ns.length then ([],(nextN ns p).2.2) else ([],0)
def getA (ns : List Nat) (p : Nat) : List Fd × Nat := getAF (ns.length - p) ns p
theorem getAF_fuel (f : Nat) : ∀ (g : Nat) (ns : List Nat) (p : Nat),ns.length - p ≤ f → ns.length - p ≤ g → getAF f ns p = getAF g ns p := by
 induction f with
 | zero =>
  intro g ns p h1 _
  have h : ¬ p < ns.length := by omega
  cases g with
  | zero => rfl
  | succ g => simp only [getAF]; rw [if_neg h,if_neg (fun x => h x.1)]
 | succ f ih =>
  intro g ns p h1 h2
  cases g with
  | zero =>
   have h : ¬ p < ns.length := by omega
   simp only [getAF]; rw [if_neg (fun x => h x.1),if_neg h]
  | succ g =>
   simp only [getAF]
   by_cases h : p < ns.length ∧ p < (nextN ns p).2.1 ∧ (nextN ns p).2.2 = 0
   ·rw [if_pos h,if_pos h,ih g ns (nextN ns p).2.1 (by omega) (by omega)]
   ·rw [if_neg h,if_neg h]
theorem getA_eq (ns : List Nat) (p : Nat) : getA ns p = if p < ns.length ∧ p < (nextN ns p).2.1 ∧ (nextN ns p).2.2 = 0 then
  let x := getA ns (nextN ns p).2.1
  if x.2 = 0 then ((nextN ns p).1 :: x.1,0) else ([],x.2)
 else if p < ns.length then ([],(nextN ns p).2.2) else ([],0) := by
 unfold getA
 cases e : ns.length - p with
 | zero =>
  have h : ¬ p < ns.length := by omega
  simp only [getAF]; rw [if_neg h,if_neg (fun x => h x.1)]
 | succ f =>
  simp only [getAF]
  by_cases h : p < ns.length ∧ p < (nextN ns p).2.1 ∧ (nextN ns p).2.2 = 0
  ·rw [if_pos h,if_pos h,getAF_fuel f (ns.length - (nextN ns p).2.1) ns (nextN ns p).2.1 (by omega) (Nat.le_refl _)]
  ·rw [if_neg h,if_neg h]
def joinA (acc : List Fd) (x : List Fd × Nat) : List Fd × Nat := if x.2 = 0 then (acc ++ x.1,0) else ([],x.2)
theorem getA_end {ns : List Nat} {p : Nat} (h : ns.length ≤ p) : getA ns p = ([],0) := by
 rw [getA_eq,if_neg (by omega),if_neg (by omega)]
theorem getA_err {ns : List Nat} {p q e : Nat} {r : Fd} (h : p < ns.length) (hx : nextN ns p = (r,q,e)) (he : e ≠ 0) : getA ns p = ([],e) := by
 rw [getA_eq,if_neg (by rw [hx]; simp; omega),if_pos h,hx]
theorem getA_on {ns : List Nat} {p q : Nat} {r : Fd} (h : p < ns.length) (hx : nextN ns p = (r,q,0)) (hb : ∀ n ∈ ns,n < 256) : getA ns p = joinA [r] (getA ns q) := by
 have := (nextN_bd hx hb (by omega)).1;rw [getA_eq,if_pos (by rw [hx]; exact ⟨h,this,rfl⟩),hx];simp only [joinA,List.singleton_append]
theorem joinA_join (a b : List Fd) (x : List Fd × Nat) : joinA a (joinA b x) = joinA (a ++ b) x := by
 unfold joinA
 by_cases h : x.2 = 0
 ·simp [h]
 ·simp [h]
theorem joinA_nil (x : List Fd × Nat) (h : x.2 ≠ 0 → x.1 = []) : joinA [] x = x := by
 unfold joinA
 split <;> rename_i h2
 ·rw [List.nil_append]; exact Prod.ext rfl h2.symm
 ·exact Prod.ext (h h2).symm rfl
theorem getA_nil (ns : List Nat) (p : Nat) : (getA ns p).2 ≠ 0 → (getA ns p).1 = [] := by
 rw [getA_eq]
 split
 ·dsimp only
  split
  ·intro h; exact absurd rfl h
  ·intro _; rfl
 ·split <;> intro _ <;> rfl
theorem getA_len {ns : List Nat} (hb : ∀ n ∈ ns,n < 256) : ∀ k p,ns.length - p ≤ k → (getA ns p).1.length ≤ ns.length - p
 | 0,p,h => by rw [getA_end (by omega)]; simp
 | k + 1,p,h => by
  by_cases hp : p < ns.length
  ·obtain ⟨⟨r,q,e⟩,hx⟩ : ∃ x,nextN ns p = x := ⟨_,rfl⟩
   by_cases he : e = 0
   ·subst he;have hq := nextN_bd hx hb (by omega);have ih := getA_len hb k q (by omega);rw [getA_on hp hx hb,joinA]
    split
    ·simp; omega
    ·simp
   ·rw [getA_err hp hx he]; simp
  ·rw [getA_end (by omega)]; simp
def getL (ns : List Nat) : List Fd × Nat := if 4096 < ns.length then ([],4) else getA ns 0
theorem getL_len {ns : List Nat} (hb : ∀ n ∈ ns,n < 256) : (getL ns).1.length ≤ 4096 := by
 rw [getL]
 split
 ·simp
 ·have := getA_len hb ns.length 0 (by omega); omega
end
section
def wirK (k : Int) : Int := if k = 4 ∨ k = 5 ∨ k = 7 then 1 else 0
def leafD (r : Fd) : Tr := if r.wire = 1 then ⟨2,0,r.b,[],[]⟩ else ⟨1,r.n,⟨#[]⟩,[],[]⟩
def treeD (M : ByteArray → List Nat → Tr × Int) (f : FlS) (r : Fd) : Tr × Int :=
 if r.wire ≠ wirK f.kind then (tr0,8)
 else if (f.kind = 3 ∨ f.kind = 6) ∧ nmrB f.kind r.n = false then (tr0,11)
 else if f.kind = 4 ∧ validB r.b.data.toList = false then (tr0,9)
 else if f.kind = 7 then M f.tname (bytesN r.b)
 else (leafD r,0)
def setE {α : Type} (tag : Int) (x : α) (es : List (Int × α)) : List (Int × α) := es.filter (fun e => decide (e.1 < tag)) ++ (tag,x) :: es.filter (fun e => decide (tag < e.1))
def delE {α : Type} (tag : Int) (es : List (Int × α)) : List (Int × α) := es.filter fun e => decide (e.1 ≠ tag)
def undE (es : List (Int × List Tr)) (tag : Int) : List Tr := ((es.find? fun e => decide (e.1 = tag)).map Prod.snd).getD []
def putD (f : FlS) (x : Tr) (es : List (Int × List Tr)) : List (Int × List Tr) × Int :=
 if f.label = 3 then (if (undE es f.tag).length = 64 then (es,4) else (setE f.tag (undE es f.tag ++ [x]) es,0))
 else if f.label = 1 ∧ zroB x = true then (delE f.tag es,0)
 else (setE f.tag [x] es,0)
structure Ds where
 es : List (Int × List Tr)
 rest : List Fd
def oneD (M : ByteArray → List Nat → Tr × Int) (fs : List FlS) (st : Ds) (r : Fd) : Ds × Int :=
 match fldOf fs r.tag with
 | none => (⟨st.es,st.rest ++ [r]⟩,0)
 | some f => if (treeD M f r).2 ≠ 0 then (st,(treeD M f r).2) else (⟨(putD f (treeD M f r).1 st.es).1,st.rest⟩,(putD f (treeD M f r).1 st.es).2)
def runD (M : ByteArray → List Nat → Tr × Int) (fs : List FlS) : Ds → List Fd → Ds × Int
 | st,[] => (st,0)
 | st,r :: l => if (oneD M fs st r).2 ≠ 0 then oneD M fs st r else runD M fs (oneD M fs st r).1 l
def decM : Nat → ScS → ByteArray → List Nat → Tr × Int
 | 0,_,_,_ => (tr0,10)
 | k + 1,s,nm,ns => match msgOf s nm with
  | none => (tr0,14)
  | some m =>
   if (getL ns).2 ≠ 0 then (tr0,((getL ns).2 : Int))
   else if (runD (decM k s) m.fields ⟨[],[]⟩ (getL ns).1).2 ≠ 0 then (tr0,(runD (decM k s) m.fields ⟨[],[]⟩ (getL ns).1).2)
   else (⟨3,0,⟨#[]⟩,(runD (decM k s) m.fields ⟨[],[]⟩ (getL ns).1).1.es,sortF (runD (decM k s) m.fields ⟨[],[]⟩ (getL ns).1).1.rest⟩,0)
def decA (s : ScS) (nm : ByteArray) (ns : List Nat) : Tr × Int := if checkA s ≠ 0 then (tr0,1) else decM 10 s nm ns
theorem setE_map {α β : Type} (g : α → β) (tag : Int) (x : α) (es : List (Int × α)) : (setE tag x es).map (fun e => (e.1,g e.2)) = setE tag (g x) (es.map fun e => (e.1,g e.2)) := by
 simp [setE,List.filter_map,Function.comp_def]
def RisE {α : Type} (es : List (Int × α)) : Prop := es.Pairwise fun a b => a.1 < b.1
theorem RisE.set {α : Type} {es : List (Int × α)} (h : RisE es) (tag : Int) (x : α) : RisE (setE tag x es) := by
 unfold RisE setE;refine List.pairwise_append.2 ⟨h.filter _,List.pairwise_cons.2 ⟨fun b hb => ?_,h.filter _⟩,fun a ha b hb => ?_⟩
 ·simpa using (List.mem_filter.1 hb).2
 ·have h1 : a.1 < tag := by simpa using (List.mem_filter.1 ha).2
  rcases List.mem_cons.1 hb with rfl | hb
  ·exact h1
  ·have h2 : tag < b.1 := by simpa using (List.mem_filter.1 hb).2
   omega
theorem RisE.del {α : Type} {es : List (Int × α)} (h : RisE es) (tag : Int) : RisE (delE tag es) := h.filter _
theorem RisE.nodup {α : Type} {es : List (Int × α)} (h : RisE es) : (es.map Prod.fst).Nodup := List.pairwise_map.2 (h.imp fun {a b} hab => by omega)
theorem mem_setE {α : Type} {tag : Int} {x : α} {es : List (Int × α)} {p : Int × α} : p ∈ setE tag x es ↔ p = (tag,x) ∨ (p ∈ es ∧ p.1 ≠ tag) := by
 simp only [setE,List.mem_append,List.mem_cons,List.mem_filter,decide_eq_true_eq]
 constructor
 ·rintro (⟨h1,h2⟩ | h | ⟨h1,h2⟩)
  ·exact .inr ⟨h1,by omega⟩
  ·exact .inl h
  ·exact .inr ⟨h1,by omega⟩
 ·rintro (h | ⟨h1,h2⟩)
  ·exact .inr (.inl h)
  ·rcases Int.lt_or_gt_of_ne h2 with h3 | h3
   ·exact .inl ⟨h1,h3⟩
   ·exact .inr (.inr ⟨h1,h3⟩)
theorem mem_delE {α : Type} {tag : Int} {es : List (Int × α)} {p : Int × α} : p ∈ delE tag es ↔ p ∈ es ∧ p.1 ≠ tag := by
 simp [delE,List.mem_filter]
theorem find_mem {α : Type} {es : List (Int × α)} (h : RisE es) {p : Int × α} (hp : p ∈ es) : es.find? (fun e => decide (e.1 = p.1)) = some p := by
 induction es with
 | nil => cases hp
 | cons a l ih =>
  rw [RisE,List.pairwise_cons] at h
  rcases List.mem_cons.1 hp with rfl | hp
  ·simp
  ·have h1 := h.1 p hp
   have h2 : ¬ a.1 = p.1 := by omega
   rw [List.find?_cons_of_neg (by simpa using h2)];exact ih h.2 hp
end
section
open Go.ChangeShapes Go.WideShapes Go.ChangeAt Go.RowKit
abbrev KE := Int × (Value × List Tr × List Nat)
def esK (K : List KE) : List (Int × List Tr) := K.map fun k => (k.1,k.2.2.1)
def fpK (K : List KE) : List Nat := K.flatMap fun k => k.2.2.2
theorem esK_set (tag : Int) (x : Value × List Tr × List Nat) (K : List KE) : esK (setE tag x K) = setE tag x.2.1 (esK K) := setE_map (fun y : Value × List Tr × List Nat => y.2.1) tag x K
theorem fpK_app (K K' : List KE) : fpK (K ++ K') = fpK K ++ fpK K' := by simp [fpK]
theorem fpK_cons (k : KE) (K : List KE) : fpK (k :: K) = k.2.2.2 ++ fpK K := by simp [fpK]
theorem fpK_mem {K : List KE} {k : KE} (hk : k ∈ K) : ∀ q ∈ k.2.2.2,q ∈ fpK K := fun q hq => List.mem_flatMap.2 ⟨k,hk,hq⟩
section
variable {n B bR bm c : Nat} {K : List KE} {vr : Value} {rest : List Fd} {w w' : World}
end
theorem TrO.len5 {n B : Nat} {w : World} {r : List Value} {t : Tr} {bs : List Nat} (h : TrO n B w r t bs) : r.length = 5 ∧ ∀ u ∈ r,u.oneCell' = true := by
 obtain ⟨a1,n1,c1,a2,n2,c2,rfl⟩ := h.open;refine ⟨rfl,fun u hu => ?_⟩;simp only [List.mem_cons,List.not_mem_nil,or_false] at hu
 rcases hu with rfl | rfl | rfl | rfl | rfl <;> rfl
section
variable {n B bR bm c : Nat} {K : List KE} {vr : Value} {rest : List Fd} {w w' : World} {tag : Int} {r : List Value} {x : Tr} {bs : List Nat}
theorem row_one (hB : B ≤ w.heap.size) (hx : TrO n B w r x bs) (hb : Blk w' w.heap.size r.toArray 30) (hs : Sm w w' bs) : RowO (TrO n B) B 30 5 w' (.slice (some ⟨w.heap.size,0,none⟩) 1 1) [x] [r] [bs] := by
 obtain ⟨h5,_⟩ := hx.len5;refine ⟨⟨by simp [h5],.inr ⟨w.heap.size,1,r.toArray,rfl,hB,hb,Nat.le_refl _,by unfold maxLen; omega,by simp [h5],by simp [h5,List.take_of_length_le]⟩⟩,rfl,rfl,by simpa using h5,fun i y hy => ?_⟩
 cases i with
 | zero =>
  obtain rfl : x = y := by simpa using hy
  exact ⟨r,bs,rfl,rfl,hx.sm hs⟩
 | succ i => simp at hy
end
end
section
def fldT (label : Int) (xs : List Tr) : List Tr :=
 if label = 3 then xs else match xs.getLast? with
  | none => []
  | some x => if label = 1 ∧ zroB x = true then [] else [x]
theorem fldT_snoc (label : Int) (xs : List Tr) (x : Tr) : fldT label (xs ++ [x]) = if label = 3 then xs ++ [x] else if label = 1 ∧ zroB x = true then [] else [x] := by
 simp [fldT,List.getLast?_append]
theorem und_mem {es : List (Int × List Tr)} (h : RisE es) {p : Int × List Tr} (hp : p ∈ es) : undE es p.1 = p.2 := by
 simp [undE,find_mem h hp]
theorem und_none {es : List (Int × List Tr)} {t : Int} (h : ∀ e ∈ es,e.1 ≠ t) : undE es t = [] := by
 have : es.find? (fun e => decide (e.1 = t)) = none := List.find?_eq_none.2 fun e he => by simpa using h e he
 simp [undE,this]
theorem und_in {es : List (Int × List Tr)} {t : Int} (h : undE es t ≠ []) : (t,undE es t) ∈ es := by
 unfold undE at h ⊢
 cases hf : es.find? (fun e => decide (e.1 = t)) with
 | none => rw [hf] at h; exact absurd rfl h
 | some p =>
  have h1 := List.mem_of_find?_eq_some hf
  have h2 : p.1 = t := by simpa using List.find?_some hf
  simp only [Option.map_some,Option.getD_some];rw [← h2]; exact h1
theorem und_set {es : List (Int × List Tr)} (h : RisE es) (t : Int) (x : List Tr) (u : Int) : undE (setE t x es) u = if u = t then x else undE es u := by
 by_cases hu : u = t
 ·subst hu;rw [if_pos rfl];exact und_mem (h.set u x) (p := (u,x)) (mem_setE.2 (.inl rfl))
 ·rw [if_neg hu]
  by_cases hk : ∃ p ∈ es,p.1 = u
  ·obtain ⟨p,hp,rfl⟩ := hk;rw [und_mem (h.set t x) (p := p) (mem_setE.2 (.inr ⟨hp,hu⟩)),und_mem h hp]
  ·have h1 : ∀ e ∈ es,e.1 ≠ u := fun e he e1 => hk ⟨e,he,e1⟩
   rw [und_none h1,und_none];intro e he
   rcases mem_setE.1 he with rfl | ⟨he,_⟩
   ·exact fun e => hu e.symm
   ·exact h1 e he
theorem und_del {es : List (Int × List Tr)} (h : RisE es) (t : Int) (u : Int) : undE (delE t es) u = if u = t then [] else undE es u := by
 by_cases hu : u = t
 ·subst hu;rw [if_pos rfl];exact und_none fun e he => (mem_delE.1 he).2
 ·rw [if_neg hu]
  by_cases hk : ∃ p ∈ es,p.1 = u
  ·obtain ⟨p,hp,rfl⟩ := hk;rw [und_mem (h.del t) (p := p) (mem_delE.2 ⟨hp,hu⟩),und_mem h hp]
  ·have h1 : ∀ e ∈ es,e.1 ≠ u := fun e he e1 => hk ⟨e,he,e1⟩
   rw [und_none h1,und_none];exact fun e he => h1 e (mem_delE.1 he).1
theorem ris_uniq {α : Type} : ∀ {a b : List (Int × α)},RisE a → RisE b → (∀ p,p ∈ a ↔ p ∈ b) → a = b
 | [],[],_,_,_ => rfl
 | [],y :: b,_,_,h => absurd ((h y).2 (List.mem_cons_self ..)) (by simp)
 | x :: a,[],_,_,h => absurd ((h x).1 (List.mem_cons_self ..)) (by simp)
 | x :: a,y :: b,ha,hb,h => by
  rw [RisE,List.pairwise_cons] at ha hb
  have hxy : x = y := by
   rcases List.mem_cons.1 ((h x).1 (List.mem_cons_self ..)) with e | hx
   ·exact e
   ·rcases List.mem_cons.1 ((h y).2 (List.mem_cons_self ..)) with e | hy
    ·exact e.symm
    ·have := hb.1 x hx;have := ha.1 y hy
     omega
  subst hxy
  congr 1
  refine ris_uniq ha.2 hb.2 fun p => ⟨fun hp => ?_,fun hp => ?_⟩
  ·rcases List.mem_cons.1 ((h p).1 (List.mem_cons_of_mem _ hp)) with rfl | h1
   ·have := ha.1 p hp; omega
   ·exact h1
  ·rcases List.mem_cons.1 ((h p).2 (List.mem_cons_of_mem _ hp)) with rfl | h1
   ·have := hb.1 p hp; omega
   ·exact h1
theorem es_uniq {a b : List (Int × List Tr)} (ha : RisE a) (hb : RisE b) (na : ∀ e ∈ a,e.2 ≠ []) (nb : ∀ e ∈ b,e.2 ≠ []) (h : ∀ t,undE a t = undE b t) : a = b := by
 refine ris_uniq ha hb fun p => ⟨fun hp => ?_,fun hp => ?_⟩
 ·have h1 := und_mem ha hp;have h2 : undE b p.1 = p.2 := (h p.1).symm.trans h1;have h3 := und_in (es := b) (t := p.1) (by rw [h2]; exact na p hp);rw [h2] at h3; exact h3
 ·have h1 := und_mem hb hp;have h2 : undE a p.1 = p.2 := (h p.1).trans h1;have h3 := und_in (es := a) (t := p.1) (by rw [h2]; exact nb p hp);rw [h2] at h3; exact h3
def ofT (l : List Fd) (tag : Int) : List Fd := l.filter fun r => decide (r.tag = tag)
theorem ofT_app (a b : List Fd) (t : Int) : ofT (a ++ b) t = ofT a t ++ ofT b t := List.filter_append ..
theorem ofT_one (r : Fd) (t : Int) : ofT [r] t = if r.tag = t then [r] else [] := by
 by_cases h : r.tag = t <;> simp [ofT,h]
structure Ran (M : ByteArray → List Nat → Tr × Int) (fs : List FlS) (l : List Fd) (st : Ds) : Prop where
 ris : RisE st.es
 ne : ∀ e ∈ st.es,e.2 ≠ []
 und : ∀ tag f,fldOf fs tag = some f → undE st.es tag = fldT f.label ((ofT l tag).map fun r => (treeD M f r).1)
 kn : ∀ e ∈ st.es,∃ f,fldOf fs e.1 = some f
 rest : st.rest = l.filter fun r => (fldOf fs r.tag).isNone
theorem Ran.nil (M : ByteArray → List Nat → Tr × Int) (fs : List FlS) : Ran M fs [] ⟨[],[]⟩ :=
 ⟨List.Pairwise.nil,by simp,fun tag f _ => by simp [undE,ofT,fldT],by simp,rfl⟩
theorem fld_tag {fs : List FlS} {t : Int} {f : FlS} (h : fldOf fs t = some f) : f.tag = t := by simpa using List.find?_some h
def FitR (M : ByteArray → List Nat → Tr × Int) (fs : List FlS) (l : List Fd) : Prop :=
 (∀ r ∈ l,∀ f,fldOf fs r.tag = some f → (treeD M f r).2 = 0) ∧ ∀ tag f,fldOf fs tag = some f → f.label = 3 → (ofT l tag).length ≤ 64
theorem FitR.app {M : ByteArray → List Nat → Tr × Int} {fs : List FlS} {a b : List Fd} (h : FitR M fs (a ++ b)) : FitR M fs a :=
 ⟨fun r hr => h.1 r (List.mem_append.2 (.inl hr)),fun t f h1 h2 => by have := h.2 t f h1 h2; rw [ofT_app,List.length_append] at this; omega⟩
theorem Ran.step {M : ByteArray → List Nat → Tr × Int} {fs : List FlS} {l : List Fd} {st : Ds} (h : Ran M fs l st) (hl : FitR M fs l) (r : Fd) :
  ((oneD M fs st r).2 = 0 ↔ FitR M fs (l ++ [r])) ∧ ((oneD M fs st r).2 = 0 → Ran M fs (l ++ [r]) (oneD M fs st r).1) := by
 cases hf : fldOf fs r.tag with
 | none =>
  have e1 : oneD M fs st r = (⟨st.es,st.rest ++ [r]⟩,0) := by simp [oneD,hf]
  rw [e1];refine ⟨⟨fun _ => ⟨fun x hx f hxf => ?_,fun t f h1 h2 => ?_⟩,fun _ => rfl⟩,fun _ => ⟨h.ris,h.ne,fun t f htf => ?_,h.kn,?_⟩⟩
  ·rcases List.mem_append.1 hx with hx | hx
   ·exact hl.1 x hx f hxf
   ·obtain rfl : x = r := by simpa using hx
    rw [hf] at hxf; cases hxf
  ·have hne : r.tag ≠ t := fun e => by rw [e,h1] at hf; cases hf
   rw [ofT_app,ofT_one,if_neg hne,List.append_nil];exact hl.2 t f h1 h2
  ·have hne : r.tag ≠ t := fun e => by rw [e,htf] at hf; cases hf
   rw [ofT_app,ofT_one,if_neg hne,List.append_nil];exact h.und t f htf
  ·simp [h.rest,hf]
 | some f =>
  have hft := fld_tag hf
  by_cases ht : (treeD M f r).2 ≠ 0
  ·have e1 : oneD M fs st r = (st,(treeD M f r).2) := by simp [oneD,hf,ht]
   rw [e1];exact ⟨⟨fun e => absurd e ht,fun g => absurd (g.1 r (by simp) f hf) ht⟩,fun e => absurd e ht⟩
  ·have ht0 : (treeD M f r).2 = 0 := by omega
   have e1 : oneD M fs st r = (⟨(putD f (treeD M f r).1 st.es).1,st.rest⟩,(putD f (treeD M f r).1 st.es).2) := by simp [oneD,hf,ht0]
   have hu := h.und r.tag f hf
   have hrest : st.rest = (l ++ [r]).filter fun r => (fldOf fs r.tag).isNone := by simp [h.rest,hf]
   have hfit : (f.label = 3 → (ofT l r.tag).length + 1 ≤ 64) → FitR M fs (l ++ [r]) := fun hlen => ⟨fun x hx g hg => by
    rcases List.mem_append.1 hx with hx | hx
    ·exact hl.1 x hx g hg
    ·obtain rfl : x = r := by simpa using hx
     rw [hf] at hg; cases hg; exact ht0,fun t g h1 h2 => by
    rw [ofT_app,ofT_one]
    by_cases e : r.tag = t
    ·subst e;rw [hf] at h1; cases h1;rw [if_pos rfl,List.length_append];exact hlen h2
    ·rw [if_neg e,List.append_nil]; exact hl.2 t g h1 h2⟩
   have hund : ∀ (es' : List (Int × List Tr)),(∀ u,undE es' u = if u = r.tag then fldT f.label ((ofT (l ++ [r]) r.tag).map fun r => (treeD M f r).1) else undE st.es u) → ∀ tag g,fldOf fs tag = some g → undE es' tag = fldT g.label ((ofT (l ++ [r]) tag).map fun r => (treeD M g r).1) := fun es' he t g hg => by
    rw [he t]
    by_cases e : t = r.tag
    ·subst e;rw [hf] at hg; cases hg;rw [if_pos rfl]
    ·rw [if_neg e,ofT_app,ofT_one,if_neg (fun e' => e e'.symm),List.append_nil];exact h.und t g hg
   have hx : (ofT (l ++ [r]) r.tag).map (fun r => (treeD M f r).1) = (ofT l r.tag).map (fun r => (treeD M f r).1) ++ [(treeD M f r).1] := by
    rw [ofT_app,ofT_one,if_pos rfl,List.map_append]; rfl
   rw [e1]
   by_cases h3 : f.label = 3
   ·have hu3 : undE st.es f.tag = (ofT l r.tag).map fun r => (treeD M f r).1 := by rw [hft,hu,fldT,if_pos h3]
    by_cases h64 : (undE st.es f.tag).length = 64
    ·have e2 : putD f (treeD M f r).1 st.es = (st.es,4) := by simp [putD,h3,h64]
     rw [e2];refine ⟨⟨fun e => absurd e (by simp),fun g => ?_⟩,fun e => absurd e (by simp)⟩;have := g.2 r.tag f hf h3;rw [ofT_app,ofT_one,if_pos rfl,List.length_append] at this;rw [hu3,List.length_map] at h64
     simp at this; omega
    ·have e2 : putD f (treeD M f r).1 st.es = (setE f.tag (undE st.es f.tag ++ [(treeD M f r).1]) st.es,0) := by simp [putD,h3,h64]
     rw [e2];refine ⟨⟨fun _ => hfit fun _ => ?_,fun _ => rfl⟩,fun _ => ⟨h.ris.set _ _,fun e he => ?_,hund _ fun u => ?_,fun e he => ?_,hrest⟩⟩
     ·have := hl.2 r.tag f hf h3;rw [hu3,List.length_map] at h64
      omega
     ·rcases mem_setE.1 he with rfl | ⟨he,_⟩
      ·simp
      ·exact h.ne e he
     ·rw [und_set h.ris,hft]
      by_cases e : u = r.tag
      ·rw [if_pos e,if_pos e,hx,fldT_snoc,if_pos h3,← hu3,hft]
      ·rw [if_neg e,if_neg e]
     ·rcases mem_setE.1 he with rfl | ⟨he,_⟩
      ·exact ⟨f,by rw [hft]; exact hf⟩
      ·exact h.kn e he
   ·by_cases h1 : f.label = 1 ∧ zroB (treeD M f r).1 = true
    ·have e2 : putD f (treeD M f r).1 st.es = (delE f.tag st.es,0) := by simp [putD,h3,h1]
     rw [e2];refine ⟨⟨fun _ => hfit fun e => absurd e h3,fun _ => rfl⟩,fun _ => ⟨h.ris.del _,fun e he => h.ne e (mem_delE.1 he).1,hund _ fun u => ?_,fun e he => h.kn e (mem_delE.1 he).1,hrest⟩⟩;rw [und_del h.ris,hft]
     by_cases e : u = r.tag
     ·rw [if_pos e,if_pos e,hx,fldT_snoc,if_neg h3,if_pos h1]
     ·rw [if_neg e,if_neg e]
    ·have e2 : putD f (treeD M f r).1 st.es = (setE f.tag [(treeD M f r).1] st.es,0) := by rw [putD,if_neg h3,if_neg h1]
     rw [e2];refine ⟨⟨fun _ => hfit fun e => absurd e h3,fun _ => rfl⟩,fun _ => ⟨h.ris.set _ _,fun e he => ?_,hund _ fun u => ?_,fun e he => ?_,hrest⟩⟩
     ·rcases mem_setE.1 he with rfl | ⟨he,_⟩
      ·simp
      ·exact h.ne e he
     ·rw [und_set h.ris,hft]
      by_cases e : u = r.tag
      ·rw [if_pos e,if_pos e,hx,fldT_snoc,if_neg h3,if_neg h1]
      ·rw [if_neg e,if_neg e]
     ·rcases mem_setE.1 he with rfl | ⟨he,_⟩
      ·exact ⟨f,by rw [hft]; exact hf⟩
      ·exact h.kn e he
theorem Ran.run {M : ByteArray → List Nat → Tr × Int} {fs : List FlS} : ∀ (l pre : List Fd) (st : Ds),Ran M fs pre st → FitR M fs pre → ((runD M fs st l).2 = 0 ↔ FitR M fs (pre ++ l)) ∧ ((runD M fs st l).2 = 0 → Ran M fs (pre ++ l) (runD M fs st l).1)
 | [],pre,st,h,hf => by rw [List.append_nil]; exact ⟨⟨fun _ => hf,fun _ => rfl⟩,fun _ => h⟩
 | r :: l,pre,st,h,hf => by
  obtain ⟨s1,s2⟩ := h.step hf r
  have ea : pre ++ r :: l = (pre ++ [r]) ++ l := by simp
  by_cases h1 : (oneD M fs st r).2 ≠ 0
  ·simp only [runD,if_pos h1];refine ⟨⟨fun e => absurd e h1,fun g => absurd (s1.2 ?_) h1⟩,fun e => absurd e h1⟩;rw [ea] at g; exact g.app
  ·have h0 : (oneD M fs st r).2 = 0 := by omega
   simp only [runD,if_neg h1];rw [ea];exact Ran.run l (pre ++ [r]) _ (s2 h0) (s1.1 h0)
theorem FitR.nil (M : ByteArray → List Nat → Tr × Int) (fs : List FlS) : FitR M fs [] := ⟨by simp,by simp [ofT]⟩
theorem run_fit {M : ByteArray → List Nat → Tr × Int} {fs : List FlS} (l : List Fd) : (runD M fs ⟨[],[]⟩ l).2 = 0 ↔ FitR M fs l := by
 have := (Ran.run l [] ⟨[],[]⟩ (Ran.nil M fs) (FitR.nil M fs)).1
 simpa using this
theorem run_ran {M : ByteArray → List Nat → Tr × Int} {fs : List FlS} {l : List Fd} (h : (runD M fs ⟨[],[]⟩ l).2 = 0) : Ran M fs l (runD M fs ⟨[],[]⟩ l).1 := by
 have := (Ran.run l [] ⟨[],[]⟩ (Ran.nil M fs) (FitR.nil M fs)).2
 simpa using this h
end
end Go.Proofs.YtmgbhicogmclgaaGreat
