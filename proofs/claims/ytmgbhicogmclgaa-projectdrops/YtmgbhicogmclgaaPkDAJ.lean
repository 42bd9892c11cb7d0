/- Part 10 of what the proof stands on. -/
import Derived.Test.YtmgbhicogmclgaaPkDAI
import Derived.Deep.LoopGhost
namespace Go.Proofs.Ytmgbhicogmclgaa
set_option maxHeartbeats 8000000
set_option linter.unusedVariables false
set_option linter.unusedSimpArgs false
set_option maxRecDepth 20000
section
open Go.ChangeShapes Go.WideShapes Go.ChangeAt Go.RowKit
theorem rising_any (a : Option Addr) (rs : List Fd) (N cap : Nat) (w : World) (hN : rs.length = N) (hadr : rs = [] ∨ ∃ g off,a = some ⟨g,off,none⟩) (hc : N ≤ cap) (hm : cap ≤ maxLen) (hh : HoldsR w a rs) :
  Calls Try.prog 104 #[.slice a N cap] w fun e w' => e = .returned (.bool (risesB rs)) ∧ Below w.heap.size w w' := by
 have HN : Hid (rs.length = N) := hN;have HA : Hid (rs = [] ∨ ∃ g off,a = some ⟨g,off,none⟩) := hadr;have HH : Hid (HoldsR w a rs) := hh;obtain ⟨R,hR⟩ : ∃ R,risesB rs = R := ⟨_,rfl⟩;rw [hR];have HR : Hid (risesB rs = R) := hR;unfold maxLen at hm;clear hN hadr hh hR
 go_enter Try.func104,Try.ntmps104
 go_wp2_with fail
 go_loopw [3] (fun iv wr => ∃ i : Nat,iv = .int .i64 ((i : Int) + 1) ∧ i ≤ N ∧ Hid (∀ j x y,j < i → rs[j]? = some x → rs[j + 1]? = some y → x.tag ≤ y.tag) ∧ Below w.heap.size w wr) (fun iv _ => N + 1 - (intOf iv).toNat)
 case atStart => exact ⟨0,rfl,by omega,(fun j x y hj => absurd hj (by omega) : ∀ j x y,j < 0 → rs[j]? = some x → rs[j + 1]? = some y → x.tag ≤ y.tag),Below.refl _ _⟩
 case round =>
  obtain ⟨i,rfl,hi,HT,hbel⟩ := hrel
  by_cases hlt : i + 1 < N
  ·have hr : rs[i]? = some (rs[i]'(by rw [HN.out]; omega)) := List.getElem?_eq_getElem _;generalize rs[i]'(by rw [HN.out]; omega) = r at hr;have hs : rs[i + 1]? = some (rs[i + 1]'(by rw [HN.out]; exact hlt)) := List.getElem?_eq_getElem _;generalize rs[i + 1]'(by rw [HN.out]; exact hlt) = s at hs
   rcases HA.out with h0 | ⟨g,off,rfl⟩
   ·exact absurd hlt (by have := HN.out; rw [h0] at this; simp at this; omega)
   obtain ⟨p0, -, -, -⟩ := (HH.out.below hbel).at hr;obtain ⟨q0, -, -, -⟩ := (HH.out.below hbel).at hs;have HK : Hid (rs[i]? = some r) := hr;have HK2 : Hid (rs[i + 1]? = some s) := hs;obtain ⟨x,hx⟩ : ∃ q,r.tag = q := ⟨_,rfl⟩;obtain ⟨y,hy⟩ : ∃ q,s.tag = q := ⟨_,rfl⟩;rw [hx] at p0;rw [hy] at q0;have HX : Hid (r.tag = x) := hx;have HY : Hid (s.tag = y) := hy
   have hlti : (i : Int) + 1 < (N : Int) := by omega
   clear hr hs hx hy
   by_cases hle : y < x
   ·have hd : decide (y < x) = true := by simp [hle]
    obtain rfl : R = false := by rw [← HR.out]; exact rises_break i r s HK.out HK2.out (by rw [HX.out,HY.out]; exact hle)
    clear HT HK HK2 HX HY HR;go_wp2_with fail
    go_quiet (fail)
    have hbn := below_drewN nq hbel;clear p0 q0 hbel;go_wp2_with fail;go_ret;exact ⟨rfl,hbn⟩
   ·have hd : decide (y < x) = false := by simp; omega
    have HT2 : Hid (∀ j u v,j < i + 1 → rs[j]? = some u → rs[j + 1]? = some v → u.tag ≤ v.tag) := fun j u v hj hu hv => by
     by_cases hji : j = i
     ·subst hji;rw [HK.out] at hu;rw [HK2.out] at hv
      obtain rfl : r = u := by simpa using hu
      obtain rfl : s = v := by simpa using hv
      rw [HX.out,HY.out]; omega
     ·exact HT.out j u v (by omega) hu hv
    clear HT HK HK2 HX HY;go_wp2_with fail
    go_quiet (fail)
    have hbn := below_drewN nq hbel;clear p0 q0 hbel;go_wp2_with fail
    go_roundw
    case rel => exact ⟨i + 1,by go_num,by omega,HT2,hbn⟩
    case measure => simp [intOf]; omega
  ·obtain rfl : R = true := by
    rw [← HR.out];refine rises_steps fun j x y hx hy => HT.out j x y ?_ hx hy
    have := (List.getElem?_eq_some_iff.1 hy).1;rw [HN.out] at this
    omega
   have hnl : ¬ (i : Int) + 1 < (N : Int) := by omega
   clear HT HR;go_wp2_with fail;go_ret;exact ⟨rfl,hbel⟩
theorem rowG_holdsR {w : World} {a : Option Addr} {N cap : Nat} {l : List Fd} (h : RowG w (.slice a N cap) 4 (fdRows l)) : HoldsR w a l := by
 obtain ⟨a',cap',e,_,_,_,h4⟩ := h.form;simp only [Value.slice.injEq] at e;obtain ⟨rfl,_,_⟩ := e;intro b hb j u hu;rw [rawCells_flat] at hu;obtain ⟨i,c,k,h1,h2,rfl⟩ := flat_inv (fdRows l) (fdr_len l) j u hu;obtain ⟨g,off,e,hc⟩ := h4 (by intro e; rw [e] at h1; simp at h1);rw [hb] at e
 cases e
 have := hc i c u k h1 h2;rw [Nat.add_assoc] at this;rw [Addr.add_lit];exact this
theorem rest_all {l : List Fd} {p : Fd → Bool} {i : Nat} {f : Fd} (h : ∀ x ∈ l.take i,p x = true) (hf : l[i]? = some f) (hp : p f = true) : ∀ x ∈ l.take (i + 1),p x = true := by
 rw [take_atQ hf];intro x hx
 rcases List.mem_append.1 hx with hx | hx
 ·exact h x hx
 ·obtain rfl : x = f := by simpa using hx
  exact hp
theorem restMayBe_any (n : Nat) (v ve : Value) (l : List Fd) (es : List (Int × List Tr)) (w : World) (h : RowG w v 4 (fdRows l)) (he : EnsQ n w ve es) (hr : RisT es) (hl : es.length ≤ 1000000) :
  Calls Try.prog 78 #[v,ve] w fun e w' => e = .returned (.bool (restB l es)) ∧ Below w.heap.size w w' := by
 obtain ⟨a,cap,rfl,h1,h2,h3, -, -⟩ := rest_holds h;obtain ⟨N,hN⟩ : ∃ N,l.length = N := ⟨_,rfl⟩;obtain ⟨R,hR⟩ : ∃ R,restB l es = R := ⟨_,rfl⟩;rw [hR];rw [hN] at h1 ⊢;have HH : Hid (RowG w (.slice a N cap) 4 (fdRows l)) := (by rw [← hN]; exact h : RowG w (.slice a N cap) 4 (fdRows l));have HN : Hid (l.length = N) := hN;have HR : Hid (restB l es = R) := hR;have HT : Hid (∀ W tag,Below w.heap.size w W → Calls Try.prog 103 #[ve,.int .i64 tag] W fun e w' => e = .returned (.bool (hasB es tag)) ∧ Below W.heap.size W w') := fun W tag hW => hasTag_any n ve es tag W (he.belowEQ hW) hr hl
 have HRS : Hid (∀ W,Below w.heap.size w W → Calls Try.prog 104 #[.slice a N cap] W fun e w' => e = .returned (.bool (risesB l)) ∧ Below W.heap.size W w') := fun W hW => rising_any a l N cap W hN h3 h1 h2 (rowG_holdsR (HH.out.below hW))
 obtain ⟨pe,ce,rfl, -⟩ := RowP.open he;unfold maxLen at h2;generalize es.length = El at *;clear h hN hR h3 he hr
 go_enter Try.func78,Try.ntmps78
 go_wp2_with fail
 go_loopw [9] (fun iv wr => ∃ i : Nat,iv = .int .i64 (i : Int) ∧ i ≤ N ∧ Hid (∀ f ∈ l.take i,(okF f && !hasB es f.tag) = true) ∧ Below w.heap.size w wr) (fun iv _ => N - (intOf iv).toNat)
 case atStart => exact ⟨0,rfl,by omega,(by simp : ∀ f ∈ l.take 0,(okF f && !hasB es f.tag) = true),Below.refl _ _⟩
 case round =>
  obtain ⟨i,rfl,hi,HI,hbel⟩ := hrel
  by_cases hlt : i < N
  ·obtain ⟨f,hf⟩ : ∃ r,l[i]? = some r := ⟨_,List.getElem?_eq_getElem (by rw [HN.out]; exact hlt)⟩;obtain ⟨g,off,rfl,cc⟩ := (HH.out.below hbel).get (show (fdRows l)[i]? = some f.cells by simp [fdRows,hf]);have p0 := cc 0 _ rfl;have p1 := cc 1 _ rfl;have p2 := cc 2 _ rfl;have p3 := cc 3 _ rfl;simp only [Nat.add_zero] at p0;have HF : Hid (l[i]? = some f) := hf;have HM : Hid (f ∈ l) := List.mem_of_getElem? hf;have HFO : Hid (okF f = okV f.tag f.wire f.n f.b) := (rfl : okF f = okV f.tag f.wire f.n f.b);have HTG : Hid (∀ W,Below w.heap.size w W → Calls Try.prog 103 #[.slice pe El ce,.int .i64 f.tag] W fun e w' => e = .returned (.bool (hasB es f.tag)) ∧ Below W.heap.size W w') := fun W hW => HT.out W f.tag hW
   clear cc hf;obtain ⟨O,hO⟩ : ∃ O,okV f.tag f.wire f.n f.b = O := ⟨_,rfl⟩;obtain ⟨B,hB⟩ : ∃ B,hasB es f.tag = B := ⟨_,rfl⟩;have HO : Hid (okV f.tag f.wire f.n f.b = O) := hO;have HB : Hid (hasB es f.tag = B) := hB
   have HCK : Hid (∀ W,Calls Try.prog 102 #[.agg #[.int .i64 f.tag,.int .i64 f.wire,.int .i64 f.n,.string f.b]] W fun e w' => e = .returned (.bool O) ∧ Below W.heap.size W w') := fun W => by rw [← hO]; exact checkV_any f.tag f.wire f.n f.b W
   rw [hB] at HTG;clear hO hB;generalize hft : f.tag = ft at *;generalize hfw : f.wire = fw at *;generalize hfn : f.n = fn at *;generalize hfb : f.b = fb at *;have HE : Hid (f.tag = ft ∧ f.wire = fw ∧ f.n = fn ∧ f.b = fb) := ⟨hft,hfw,hfn,hfb⟩;clear hft hfw hfn hfb;have hal : Below wr.heap.size wr (wr.alloc (Obj.cells #[.int .i64 ft,.int .i64 fw,.int .i64 fn,.string fb] 79)) := (Below.refl _ _).alloc (Nat.le_refl _) _;have BE : Blk (wr.alloc (Obj.cells #[.int .i64 ft,.int .i64 fw,.int .i64 fn,.string fb] 79)) wr.heap.size #[.int .i64 ft,.int .i64 fw,.int .i64 fn,.string fb] 79 := Blk.new wr _ _;go_wp2_with fail;refine (HCK.out _).mono ?_;rintro e w2 ⟨rfl,hb2⟩;have hb3 : Below wr.heap.size wr w2 := hal.trans (hb2.mono hal.size);have hbw : Below w.heap.size w w2 := hbel.trans (hb3.mono hbel.size);have q0 := ((BE.below hb2).cell 0).trans rfl;generalize wr.heap.size = bw at *;clear hb2 hb3 hbel hal BE p0 p1 p2 p3 HCK
   cases O with
   | false =>
    obtain rfl : R = false := by
     rw [← HR.out,restB,Bool.and_eq_false_iff]
     left
     rw [List.all_eq_false];exact ⟨f,HM.out,by rw [HFO.out,HE.out.1,HO.out]; simp⟩
    go_wp2_with fail;go_ret;exact ⟨rfl,hbw⟩
   | true =>
    go_wp2_with fail;refine (HTG.out _ hbw).mono ?_;rintro e w4 ⟨rfl,hb4⟩;have hbw4 : Below w.heap.size w w4 := hbw.trans (hb4.mono hbw.size);clear hb4 hbw HTG
    cases B with
    | true =>
     obtain rfl : R = false := by
      rw [← HR.out,restB,Bool.and_eq_false_iff]
      left
      rw [List.all_eq_false];exact ⟨f,HM.out,by rw [HE.out.1,HB.out]; simp⟩
     go_wp2_with fail;go_ret;exact ⟨rfl,hbw4⟩
    | false =>
     have HI2 : Hid (∀ f ∈ l.take (i + 1),(okF f && !hasB es f.tag) = true) := rest_all HI.out HF.out (by rw [HFO.out,HE.out.1,HO.out,HB.out]; rfl);go_wp2_with fail
     go_roundw
     case rel => exact ⟨i + 1,by go_num,by omega,HI2,hbw4⟩
     case measure => simp [intOf]; omega
  ·have hall : R = risesB l := by
    have h5 := HI.out;rw [List.take_of_length_le (by rw [HN.out]; omega)] at h5;rw [← HR.out,restB,List.all_eq_true.2 h5]
    rfl
   have HRX : Hid (Calls Try.prog 104 #[.slice a N cap] wr fun e w' => e = .returned (.bool R) ∧ Below wr.heap.size wr w') := by
    rw [hall]; exact HRS.out wr hbel
   clear hall;go_wp2_with fail;refine HRX.out.mono ?_;rintro e w2 ⟨rfl,hb2⟩;have hbw : Below w.heap.size w w2 := hbel.trans (hb2.mono hbel.size);go_wp2_with fail;go_ret;exact ⟨rfl,hbw⟩
theorem wrong_any (n : Nat) (t : Tr) (r : List Value) (w : World) (h : TrQ n w r t) (hl : t.es.length ≤ 1000000) :
  Calls Try.prog 46 #[.agg r.toArray] w fun e w' => e = .returned (.bool (!lvB t)) ∧ Below w.heap.size w w' := by
 cases n with
 | zero => exact h.elim
 | succ n =>
  obtain ⟨ve,vr,rfl,ka,na,sa,fa,ra,ea,pa⟩ := h;obtain ⟨pe,ce,rfl,u1,u2, -⟩ := RowP.open ea;obtain ⟨pr,cr,rfl,x1,x2, -⟩ := rest_holds ra;have HEN : Hid (∀ W,Below w.heap.size w W → Calls Try.prog 77 #[.slice pe t.es.length ce] W fun e w' => e = .returned (.bool (entsB 0 t.es)) ∧ Below W.heap.size W w') := fun W hW => entries_any n _ t.es W (RowP.belowEQ ea hW)
  have HRE : Hid (entsB 0 t.es = true → ∀ W,Below w.heap.size w W → Calls Try.prog 78 #[.slice pr t.rest.length cr,.slice pe t.es.length ce] W fun e w' => e = .returned (.bool (restB t.rest t.es)) ∧ Below W.heap.size W w') := fun he W hW => restMayBe_any n _ _ t.rest t.es W (ra.below hW) (RowP.belowEQ ea hW) (ents_ris t.es 0 he) hl
  obtain ⟨R,hR⟩ : ∃ R,(!lvB t) = R := ⟨_,rfl⟩;rw [hR];have HR : Hid ((!lvB t) = R) := hR;unfold maxLen at u2 x2
  have hel : (t.es.isEmpty = decide (t.es.length = 0)) := by cases t.es <;> simp
  have hrl : (t.rest.isEmpty = decide (t.rest.length = 0)) := by cases t.rest <;> simp
  have hlv := hR;simp only [lvB,hel,hrl] at hlv;have HLV : Hid _ := hlv;clear hR hlv ea ra fa ka na pa hel hrl HR;generalize t.es.length = Ke at *;generalize t.rest.length = Kr at *;generalize t.kind = K at *;generalize t.n = N at *;generalize t.s = S at *;generalize entsB 0 t.es = E at *;generalize restB t.rest t.es = Rs at *
  have hsz : (S.toList == ([] : List UInt8)) = (S.size == 0) := by
   rw [ByteArray.toList_eq];obtain ⟨⟨l⟩⟩ := S
   cases l <;> simp [ByteArray.size]
  have hs0 : S.size = 0 → S = ByteArray.empty := fun h => by
   obtain ⟨⟨l⟩⟩ := S
   cases l with
   | nil => rfl
   | cons a l => simp [ByteArray.size] at h
  by_cases k1 : K = 1
  ·subst k1;simp only [if_true] at HLV;have HSE : Hid (S.size = 0 → S = ByteArray.empty) := hs0;clear hs0 hsz
   by_cases hs : S.size = 0
   ·have := HSE.out hs;subst this;clear HSE hs
    go_enter Try.func46,Try.ntmps46
    go_wp2_with fail
    all_goals
     go_ret;refine ⟨ret_boolF ?_,(Below.refl _ _).alloc (Nat.le_refl _) _⟩;rw [← HLV.out]
     first
      | (rw [Bool.eq_iff_iff]; simp; omega)
      | (simp; omega)
   ·have hne : (S.toList == ([] : List UInt8)) = false := by
     rw [ByteArray.toList_eq];obtain ⟨⟨l⟩⟩ := S
     cases l with
     | nil => exact absurd rfl hs
     | cons a l => rfl
    obtain rfl : R = true := by rw [← HLV.out]; simp [hs]
    clear hs HSE HLV
    go_enter Try.func46,Try.ntmps46
    go_wp2_with fail
    all_goals
     go_ret;exact ⟨rfl,(Below.refl _ _).alloc (Nat.le_refl _) _⟩
  ·have d1 : (K == 1) = false := by simpa using k1
   simp only [if_neg k1] at HLV
   by_cases k2 : K = 2
   ·subst k2;simp only [if_true] at HLV
    go_enter Try.func46,Try.ntmps46
    go_wp2_with fail
    all_goals
     go_ret;refine ⟨ret_boolF ?_,(Below.refl _ _).alloc (Nat.le_refl _) _⟩;rw [← HLV.out]
     first
      | (rw [Bool.eq_iff_iff]; simp; omega)
      | (simp; omega)
      | (simp; left; omega)
      | (simp_all; omega)
      | simp_all
   ·have d2 : (K == 2) = false := by simpa using k2
    simp only [if_neg k2] at HLV
    by_cases k3 : K = 3
    ·subst k3;simp only [if_true] at HLV
     by_cases hn : N = 0
     ·subst hn
      by_cases hs : S.size = 0
      ·have := hs0 hs;subst this;clear hs0 hsz hs
       go_enter Try.func46,Try.ntmps46
       go_wp2_with fail;refine (HEN.out _ ((Below.refl _ _).alloc (Nat.le_refl _) _)).mono ?_;rintro e w2 ⟨rfl,hb2⟩;have hal : Below w.heap.size w (w.alloc (Obj.cells #[.int .i64 3,.int .i64 0,.string ByteArray.empty,.slice pe Ke ce,.slice pr Kr cr] 30)) := (Below.refl _ _).alloc (Nat.le_refl _) _;have hbw : Below w.heap.size w w2 := hal.trans (hb2.mono hal.size);have BX := (Blk.new w #[.int .i64 3,.int .i64 0,.string ByteArray.empty,.slice pe Ke ce,.slice pr Kr cr] 30).below hb2;have q3 := (BX.cell 3).trans rfl;have q4 := (BX.cell 4).trans rfl;clear hb2 HEN hal BX
       cases E with
       | false =>
        obtain rfl : R = true := by rw [← HLV.out]; simp
        go_wp2_with fail;go_ret;exact ⟨rfl,hbw⟩
       | true =>
        go_wp2_with fail;refine (HRE.out trivial _ hbw).mono ?_;rintro e w3 ⟨rfl,hb3⟩;have hbw3 : Below w.heap.size w w3 := hbw.trans (hb3.mono hbw.size)
        have hRR : (!Rs) = R := by rw [← HLV.out]; simp
        clear hb3 hbw HRE;go_wp2_with fail;go_ret;exact ⟨rfl,hbw3⟩
      ·have hne : (S.toList == ([] : List UInt8)) = false := by
        rw [ByteArray.toList_eq];obtain ⟨⟨l⟩⟩ := S
        cases l with
        | nil => exact absurd rfl hs
        | cons a l => rfl
       obtain rfl : R = true := by rw [← HLV.out]; simp [hs]
       clear hs hs0 hsz HLV
       go_enter Try.func46,Try.ntmps46
       go_wp2_with fail
       all_goals
        go_ret;exact ⟨rfl,(Below.refl _ _).alloc (Nat.le_refl _) _⟩
     ·have hne : (N != 0) = true := by simpa using hn
      obtain rfl : R = true := by rw [← HLV.out]; simp [hn]
      clear hs0 hsz HLV
      go_enter Try.func46,Try.ntmps46
      go_wp2_with fail
      all_goals
       go_ret;exact ⟨rfl,(Below.refl _ _).alloc (Nat.le_refl _) _⟩
    ·have d3 : (K == 3) = false := by simpa using k3
     simp only [if_neg k3] at HLV
     obtain rfl : R = true := by rw [← HLV.out]; rfl
     go_enter Try.func46,Try.ntmps46
     go_wp2_with fail;go_ret;exact ⟨rfl,(Below.refl _ _).alloc (Nat.le_refl _) _⟩
theorem ok_step {m : Nat} {ts : List Tr} {M : List (List (Int × List Tr))} (h : MsgS ts M) (hl : ∀ x ∈ ts,lvB x = true) : ts.all (okN (m + 1)) = (subsL M).all (okN m) := by
 rw [Bool.eq_iff_iff,List.all_eq_true,List.all_eq_true]
 constructor
 ·intro h1 y hy;obtain ⟨m1,hm1,hy⟩ := mem_subsL.1 hy;obtain ⟨t1,ht1,hk1,rfl⟩ := mem_msgsL.1 (h.1.subset hm1);have := h1 t1 ht1;simp only [okN,hk1,if_true,Bool.and_eq_true,List.all_eq_true] at this;exact this.2 y hy
 ·intro h1 x hx;simp only [okN,hl x hx,Bool.true_and]
  split
  ·rename_i hk
   exact List.all_eq_true.2 fun y hy => h1 y (mem_subsL.2 ⟨_,h.2 x hx hk,hy⟩)
  ·rfl
theorem sm_step {m : Nat} {ts : List Tr} {M : List (List (Int × List Tr))} (h : MsgS ts M) (hs : ∀ x ∈ ts,SmN (m + 1) x) : ∀ x ∈ subsL M,SmN m x := by
 intro y hy;obtain ⟨m1,hm1,hy⟩ := mem_subsL.1 hy;obtain ⟨t1,ht1,hk1,rfl⟩ := mem_msgsL.1 (h.1.subset hm1);obtain ⟨e,he,hy⟩ := mem_subs.1 hy;exact ((hs t1 ht1).2.2.2.2 e he).2 y hy
theorem vcheck_any (n : Nat) (t : Tr) (v : Value) (w : World) (h : TrV2 n w v t) (hn : n ≤ 60) (hc : cntN n t ≤ 5000) (hs : SmN n t) :
  Calls Try.prog 23 #[v] w fun e w' => e = .returned (.bool (chkN n t)) ∧ Below w.heap.size w w' := by
 have HDP : Hid (∀ W,Below w.heap.size w W → Calls Try.prog 42 #[v] W fun e w' => e = .returned (.int .i64 (dpN n t : Int)) ∧ Below W.heap.size W w') := fun W hW => depth_any n t v W (h.below hW) hn hc
 obtain ⟨ea,el,ec,ra,rl,rc,rfl,hq⟩ := h.open;have HQ : Hid (TrQ n w [.int .i64 t.kind,.int .i64 t.n,.string t.s,.slice ea el ec,.slice ra rl rc] t) := hq;have HC : Hid (cntN n t ≤ 5000) := hc;have HS : Hid (SmN n t) := hs;obtain ⟨D,hD⟩ : ∃ D,dpN n t = D := ⟨_,rfl⟩;obtain ⟨R,hR⟩ : ∃ R,okN n t = R := ⟨_,rfl⟩;have HR : Hid (okN n t = R) := hR;rw [hD] at HDP;rw [chkN,hD,hR];clear h hq hc hs hD hR;generalize t.kind = K at *;generalize t.n = N at *;generalize t.s = S at *;have hal : Below w.heap.size w (w.alloc (Obj.cells #[.int .i64 K,.int .i64 N,.string S,.slice ea el ec,.slice ra rl rc] 30)) := (Below.refl _ _).alloc (Nat.le_refl _) _;have HBX : Hid (Blk (w.alloc (Obj.cells #[.int .i64 K,.int .i64 N,.string S,.slice ea el ec,.slice ra rl rc] 30)) w.heap.size #[.int .i64 K,.int .i64 N,.string S,.slice ea el ec,.slice ra rl rc] 30) := Blk.new w _ _
 by_cases hd : D ≤ 10
 ·have d1 : decide (10 < (D : Int)) = false := by simp; omega
  rw [decide_eq_true hd,Bool.true_and]
  go_enter Try.func23,Try.ntmps23
  go_wp2_with fail;refine (HDP.out _ hal).mono ?_;rintro e w1 ⟨rfl,hb1⟩;have hb : Below w.heap.size w w1 := hal.trans (hb1.mono hal.size);have BX := HBX.out.below hb1;clear hb1 hal HBX HDP;have q0 := (BX.cell 0).trans rfl;have q1 := (BX.cell 1).trans rfl;have q2 := (BX.cell 2).trans rfl;have q3 := (BX.cell 3).trans rfl;have q4 := (BX.cell 4).trans rfl;go_wp2_with fail;have hbA : Below w.heap.size w (w1.alloc (Obj.cells #[.int .i64 K,.int .i64 N,.string S,.slice ea el ec,.slice ra rl rc] 30)) := hb.alloc hb.size _;have HT0 : Hid (TrsQ n (w1.alloc (Obj.cells #[.int .i64 K,.int .i64 N,.string S,.slice ea el ec,.slice ra rl rc] 30)) (.slice (some ⟨w1.heap.size,0,none⟩) 1 1) [t]) := one_row (Blk.new w1 _ _) (HQ.out.below hbA);clear q0 q1 q2 q3 q4 BX
  go_loopg [3] n (fun k lv wr => ∃ ts : List Tr,Hid (TrsQ k wr lv ts) ∧ Hid (cntL k ts ≤ 5000) ∧ Hid (∀ x ∈ ts,SmN k x) ∧ Hid (ts.all (okN k) = R) ∧ Below w.heap.size w wr)
  case atStart => exact ⟨[t],HT0,(by simpa [cntL] using HC.out : cntL n [t] ≤ 5000),(by simpa using HS.out : ∀ x ∈ [t],SmN n x),(by simpa using HR.out : [t].all (okN n) = R),hbA⟩
  case round =>
   clear HT0 hbA hb;obtain ⟨ts,HT,HC,HS,HR,hb⟩ := hrel;obtain ⟨la,lc,rfl,l1,l2, -⟩ := RowP.open HT.out;unfold maxLen at l2;obtain ⟨Tl,hTl⟩ : ∃ k,ts.length = k := ⟨_,rfl⟩;have HT' : Hid (TrsQ gk wr (.slice la Tl lc) ts) := (by rw [← hTl]; exact HT.out : TrsQ gk wr (.slice la Tl lc) ts);rw [hTl] at l1 ⊢;have HTl : Hid (ts.length = Tl) := hTl;have hlen : ts.length ≤ 5000 := Nat.le_trans (len_cnt HT'.out) HC.out;have HLN : Hid (ts.length ≤ 5000) := hlen;clear hTl HT hlen
   by_cases h0 : Tl = 0
   ·subst h0;have hts : ts = [] := List.eq_nil_of_length_eq_zero HTl.out
    obtain rfl : R = true := by rw [← HR.out,hts]; rfl
    clear hts;go_wp2_with fail;go_ret;exact ⟨rfl,hb⟩
   ·have d2 : decide (0 < (Tl : Int)) = true := by simp; omega
    obtain ⟨m,rfl⟩ : ∃ m,gk = m + 1 := by
     cases gk with
     | zero =>
      exfalso
      obtain ⟨rows,_,_,h3⟩ := HT'.out;obtain ⟨x,hx⟩ : ∃ x,ts[0]? = some x := ⟨_,List.getElem?_eq_getElem (by rw [HTl.out]; omega)⟩;obtain ⟨r,_,hp⟩ := h3 0 x hx;exact hp
     | succ m => exact ⟨m,rfl⟩
    obtain ⟨B,hB⟩ : ∃ B,ts.any (fun x => !lvB x) = B := ⟨_,rfl⟩
    have HCF : Hid (Calls Try.prog 45 #[.slice la Tl lc,.func (.func 46) #[] #[]] wr fun e w' => e = .returned (.bool B) ∧ Below wr.heap.size wr w') := by
     rw [← hB];exact containsW_any (m + 1) _ ts wr (fun x => !lvB x) HT'.out fun W x r hW hx hr => wrong_any (m + 1) x r W hr (by have := (HS.out x hx).2.2.1; omega)
    have HB : Hid (ts.any (fun x => !lvB x) = B) := hB;clear hB;go_wp2_with fail;refine HCF.out.mono ?_;rintro e w2 ⟨rfl,hb2⟩;have hbw2 : Below w.heap.size w w2 := hb.trans (hb2.mono hb.size);have HT2 : Hid (TrsQ (m + 1) w2 (.slice la Tl lc) ts) := HT'.out.belowTQ hb2;clear HCF hb hb2 HT'
    cases B with
    | true =>
     obtain rfl : R = false := by
      rw [← HR.out,List.all_eq_false];obtain ⟨x,hx,hlx⟩ := List.any_eq_true.1 HB.out;refine ⟨x,hx,?_⟩
      simp at hlx
      simp [okN,hlx]
     go_wp2_with fail;go_ret;exact ⟨rfl,hbw2⟩
    | false =>
     have hlv : ∀ x ∈ ts,lvB x = true := fun x hx => by
      have := List.any_eq_false.1 HB.out x hx
      simpa using this
     have HLV : Hid (∀ x ∈ ts,lvB x = true) := hlv;have HM : Hid (Calls Try.prog 44 #[.slice la Tl lc] w2 (MsgP m ts w2)) := messages_any (m + 1) _ ts w2 HT2.out HLN.out;clear hlv;go_wp2_with fail;refine HM.out.mono ?_;rintro e w3 ⟨lv3,M,rfl,hL3,hS3,hb3⟩;have hbw3 : Below w.heap.size w w3 := hbw2.trans (hb3.mono hbw2.size);have HC3 : Hid (cntL m (subsL M) ≤ 5000) := (Nat.le_trans (cnt_step hS3) HC.out : cntL m (subsL M) ≤ 5000);have HI : Hid (Calls Try.prog 43 #[lv3] w3 (InsP m M w3)) := inside_any m _ M w3 hL3 (Nat.le_trans (len_subsL hL3) HC3.out);have HR3 : Hid ((subsL M).all (okN m) = R) := (by rw [← ok_step hS3 HLV.out]; exact HR.out : (subsL M).all (okN m) = R);have HS3 : Hid (∀ x ∈ subsL M,SmN m x) := sm_step hS3 HS.out;obtain ⟨ma,mc,rfl, -⟩ := RowP.open hL3;clear hL3 hS3 hb3 hbw2 HM HT2 HC HS HR HLV;generalize M.length = Ml at *;go_wp2_with fail;refine HI.out.mono ?_;rintro e w4 ⟨iv,rfl,hT4,hb4⟩;have hbw4 : Below w.heap.size w w4 := hbw3.trans (hb4.mono hbw3.size);have HT4 : Hid (TrsQ m w4 iv (subsL M)) := hT4;clear hT4 hb4 hbw3 HI;go_wp2_with fail
     go_roundg m
     case measure => omega
     case rel => exact ⟨subsL M,HT4,HC3,HS3,HR3,hbw4⟩
 ·have d1 : decide (10 < (D : Int)) = true := by simp; omega
  rw [decide_eq_false hd,Bool.false_and]
  go_enter Try.func23,Try.ntmps23
  go_wp2_with fail;refine (HDP.out _ hal).mono ?_;rintro e w1 ⟨rfl,hb1⟩;have hb : Below w.heap.size w w1 := hal.trans (hb1.mono hal.size);have BX := HBX.out.below hb1;clear hb1 hal HBX HDP;clear BX;go_wp2_with fail;go_ret;exact ⟨rfl,hb⟩
theorem pmsg_any {s : ScS} {W0 : World} {sn : ByteArray} {ma ea ta : Option Addr} {mn mc en ec tn tc : Nat} (hks : ∀ nm m,msgOf s nm = some m → ∀ f ∈ m.fields,1 ≤ f.kind ∧ f.kind ≤ 7) (hms : MsIn W0 (.slice ma mn mc) s.msgs) (hfl : ∀ m ∈ s.msgs,m.fields.length ≤ 20 ∧ m.reserved.length ≤ 40) : ∀ n,MsgC s W0 n sn ma ea ta mn mc en ec tn tc
 | 0 => fun b F nm t K N S a1 a2 n1 c1 n2 c2 w _ hx _ _ _ => by
  obtain ⟨r,_,h⟩ := hx;exact h.elim
 | n + 1 => pmsg_step hks hms hfl (pmsg_any hks hms hfl n)
def newB (w w' : World) : List Nat := (List.range w'.heap.size).filter fun k => decide (w.heap.size ≤ k)
theorem newB_apt (w w' : World) : Apt w.heap.size w' (newB w w') := ⟨List.nodup_range.filter _,fun k hk => by
 simp only [newB,List.mem_filter,List.mem_range,decide_eq_true_eq] at hk
 exact ⟨hk.2,hk.1⟩⟩
theorem SeeFP.no {n : Nat} {R : Tr × Bool} {w w' : World} (hR : R = (tr0,false)) (hb : Below w.heap.size w w') : SeeFP (n + 1) R w (.returned (.tuple #[.agg #[.int .i64 0,.int .i64 0,.string ⟨#[]⟩,.slice none 0 0,.slice none 0 0],.bool false])) w' := by
 subst hR;refine ⟨[.int .i64 0,.int .i64 0,.string ⟨#[]⟩,.slice none 0 0,.slice none 0 0],[],rfl,fun w'' _ => ?_,⟨List.nodup_nil,by simp⟩,hb⟩;have h1 : TrR (n + 1) w'' [.int .i64 0,.int .i64 0,.string ⟨#[]⟩,.slice none 0 0,.slice none 0 0] tr0 := leaf_see (w := w'') (F := fun _ => False) is64_lit0 is64_lit0 (by show (0 : Nat) ≤ _; omega) w'' fun _ _ => rfl
 exact ⟨h1.trQ.trC,h1⟩
theorem SeeFP.yes {s : ScS} {b n : Nat} {F : Nat → Prop} {T : Tr} {r : List Value} {R : Tr × Bool} {w w' : World} (hR : R = (T,true)) (hk : KnP s w w' b F) (hs : SeeG (n + 1) w' r T F) : SeeFP (n + 1) R w (.returned (.tuple #[.agg r.toArray,.bool true])) w' := by
 subst hR;refine ⟨r,newB w w',rfl,fun w'' h2 => ?_,newB_apt w w',hk.below⟩
 have h1 : TrR (n + 1) w'' r T := hs w'' fun k e => h2 k (by
  simp only [newB,List.mem_filter,List.mem_range,decide_eq_true_eq]
  exact ⟨(hk.new k e).2,(hk.new k e).1⟩)
 exact ⟨h1.trQ.trC,h1⟩
theorem project_any : ProjC := by
 intro n s sv nm tv t w hn hr hw hf ht hsm hc;have hr0 := hr;obtain ⟨vm,ve,vt,rfl,h1,h2,h3⟩ := hr;obtain ⟨ma,mc,rfl, -⟩ := h1.form2;obtain ⟨erows,her, -⟩ := h2;obtain ⟨ea,ec,rfl, -⟩ := her.form;obtain ⟨ta,tc,rfl, -⟩ := h3.form;generalize s.msgs.length = mn at *;generalize erows.length = en at *;generalize (mtRows s.methods).length = tn at *;obtain ⟨m,a1,c1,a2,c2, -,rfl, -⟩ := ht.open;obtain ⟨K,hK⟩ : ∃ z,t.kind = z := ⟨_,rfl⟩;obtain ⟨N,hN⟩ : ∃ z,t.n = z := ⟨_,rfl⟩;obtain ⟨S,hS⟩ : ∃ z,t.s = z := ⟨_,rfl⟩;generalize t.es.length = n1 at *;generalize t.rest.length = n2 at *;have HT3 : Hid (t.kind = K) := hK;rw [hK,hN,hS] at ht ⊢;have HCC : Hid (∀ W,Below w.heap.size w W → Calls Try.prog 21 #[.agg #[.string s.name,.slice ma mn mc,.slice ea en ec,.slice ta tn tc]] W fun e w' => e = .returned (.int .i64 (checkA s)) ∧ Below W.heap.size W w') := fun W hW => check_any (hr0.below hW) hw hf
 have HVC : Hid (∀ W,Below w.heap.size w W → Calls Try.prog 23 #[.agg #[.int .i64 K,.int .i64 N,.string S,.slice a1 n1 c1,.slice a2 n2 c2]] W fun e w' => e = .returned (.bool (chkN (n + 1) t)) ∧ Below W.heap.size W w') := fun W hW => vcheck_any (n + 1) t _ W (by obtain ⟨r,g1,g2⟩ := ht.cel (Cel.ofBelow hW); exact ⟨r,g1,g2.trQ⟩) (by omega) hc hsm
 have hfl : ∀ m ∈ s.msgs,m.fields.length ≤ 20 ∧ m.reserved.length ≤ 40 := fun m hm => hf.flds m hm
 have HMC : Hid (∀ W,Below w.heap.size w W → Calls Try.prog 22 #[.agg #[.string s.name,.slice ma mn mc,.slice ea en ec,.slice ta tn tc],.string nm] W fun e w' => ∃ q vf vr,e = .returned (.tuple #[.agg #[.string q,vf,vr],.bool (msgOf s nm).isSome]) ∧ (∃ a1 n1 c1,vf = .slice a1 n1 c1) ∧ (∃ a2 n2 c2,vr = .slice a2 n2 c2) ∧ Below W.heap.size W w') := (fun W hW => by
  refine (cmessage_any (w := W) (snm := s.name) (nm := nm) (ae := ea) (at' := ta) (E := en) (ce := ec) (T := tn) (ct := tc) (h1.below hW) hfl).mono ?_;rintro e w' ⟨vf,vr,rfl,g1,g2,g3⟩;obtain ⟨q1,q2,rfl⟩ := own_form g1;obtain ⟨q3,q4,rfl⟩ := own_form g2
  exact ⟨_,_,_,rfl,⟨_,_,_,rfl⟩,⟨_,_,_,rfl⟩,g3⟩ : ∀ W,_ → Calls Try.prog _ _ W _)
 have HPM : Hid (checkA s = 0 → t.kind = 3 → chkN (n + 1) t = true → ∀ W b F,KnP s w W b F → Calls Try.prog 24 #[.agg #[.string s.name,.slice ma mn mc,.slice ea en ec,.slice ta tn tc,.map (some b)],.string nm,.agg #[.int .i64 K,.int .i64 N,.string S,.slice a1 n1 c1,.slice a2 n2 c2]] W (SeenP s w b F (n + 1) (prM (n + 1) s nm t) W)) := fun g1 g2 g3 W b F hk => pmsg_any (ok_kindsJ ((checkA_ok s).1 g1)) h1 hfl (n + 1) b F nm t K N S a1 a2 n1 c1 n2 c2 W hk ht g2 (by simp only [chkN,Bool.and_eq_true] at g3; exact g3.2) hsm
 obtain ⟨R,hR⟩ : ∃ R,projA (n + 1) s nm t = R := ⟨_,rfl⟩;have HR : Hid ((if checkA s = 0 ∧ (msgOf s nm).isSome = true ∧ t.kind = 3 ∧ chkN (n + 1) t = true then (prM (n + 1) s nm t,true) else (tr0,false)) = R) := hR;rw [hR];have HKS : Hid (∀ W,Below w.heap.size w W → KnP s w (W.alloc (.map #[] 0)) W.heap.size (fun _ => False)) := fun W hW => KnP.start hW
 generalize s.name = sn at *;clear hR hK hN hS ht hsm hc hr0 hw hf h1 her h3 hfl hn;have hmm := @run_makeMap Try.prog;obtain ⟨BS,BT,BR,hbw⟩ := p3blk w #[.string sn,.slice ma mn mc,.slice ea en ec,.slice ta tn tc] #[.int .i64 K,.int .i64 N,.string S,.slice a1 n1 c1,.slice a2 n2 c2] #[.int .i64 0,.int .i64 0,.string ⟨#[]⟩,.slice none 0 0,.slice none 0 0] 26 30 30
 go_enter Try.func10,Try.ntmps10
 go_upto_region 1 with fail
 generalize (((w.alloc (Obj.cells #[.string sn,.slice ma mn mc,.slice ea en ec,.slice ta tn tc] 26)).alloc (Obj.cells #[.int .i64 K,.int .i64 N,.string S,.slice a1 n1 c1,.slice a2 n2 c2] 30)).alloc (Obj.cells #[.int .i64 0,.int .i64 0,.string ⟨#[]⟩,.slice none 0 0,.slice none 0 0] 30)) = U0 at *;obtain ⟨b0,hb0⟩ : ∃ z,w.heap.size = z := ⟨_,rfl⟩;have HBZ : Hid (w.heap.size = b0) := hb0;rw [hb0] at BS BT BR
 try simp only [hb0]
 clear hb0;have s0 := (BS.cell 0).trans rfl;have s1 := (BS.cell 1).trans rfl;have s2 := (BS.cell 2).trans rfl;have s3 := (BS.cell 3).trans rfl;go_wp2_with fail;refine (HCC.out _ hbw).mono ?_;rintro e w1 ⟨rfl,hb1⟩;have hbw1 := hbw.trans (hb1.mono hbw.size);have BS1 := BS.below hb1;have BT1 := BT.below hb1;have BR1 := BR.below hb1;clear s0 s1 s2 s3 BS BT BR hb1 hbw HCC;obtain ⟨CA,hCA⟩ : ∃ z,checkA s = z := ⟨_,rfl⟩;have HCA : Hid (checkA s = CA) := hCA;rw [hCA] at HR ⊢;clear hCA
 by_cases hca : CA = 0
 rotate_left
 ·have d : (CA != 0) = true := by simpa using hca
  have HRN : Hid (R = (tr0,false)) := (by rw [← HR.out,if_neg (fun h => hca h.1)] : R = _);clear hca HR HPM HMC HVC HKS BS1 BT1;have r0 := (BR1.cell 0).trans rfl;have rz0 := BR1.froz 0;have r1 := (BR1.cell 1).trans rfl;have rz1 := BR1.froz 1;have r2 := (BR1.cell 2).trans rfl;have rz2 := BR1.froz 2;have r3 := (BR1.cell 3).trans rfl;have rz3 := BR1.froz 3;have r4 := (BR1.cell 4).trans rfl;have rz4 := BR1.froz 4;go_wp2_with fail;have hbe : ∀ W,Below w.heap.size w W → Below w.heap.size w (set5 W (b0 + 2) 0 (.int .i64 0) (.int .i64 0) (.string ⟨#[]⟩) (.slice none 0 0) (.slice none 0 0)) := fun W hW => hW.trans ((set5_kp W (b0 + 2) 0 _ _ _ _ _).toBelow hW.size fun q e => by rw [e,HBZ.out]; omega)
  unfold set5 at hbe;exact bodyPost_ret (results_two rfl _ _ _ ⟨b0 + 2,0,none⟩ (.agg #[.int .i64 0,.int .i64 0,.string ⟨#[]⟩,.slice none 0 0,.slice none 0 0]) (by go_simp) (by go_simp)) rfl (SeeFP.no HRN.out (hbe _ hbw1))
 subst hca;have HPM1 := HPM.out HCA.out;have s0 := (BS1.cell 0).trans rfl;have s1 := (BS1.cell 1).trans rfl;have s2 := (BS1.cell 2).trans rfl;have s3 := (BS1.cell 3).trans rfl;go_wp2_with fail;refine (HMC.out _ hbw1).mono ?_;rintro e w2 ⟨qn,vf,vr,rfl,⟨fa,fl,fc,rfl⟩,⟨ra,rl,rc,rfl⟩,hb2⟩;have hbw2 := hbw1.trans (hb2.mono hbw1.size);have BS2 := BS1.below hb2;have BT2 := BT1.below hb2;have BR2 := BR1.below hb2;have HPM2 : Hid _ := HPM1;clear s0 s1 s2 s3 BS1 BT1 BR1 hb2 hbw1 HMC HPM1 HPM HCA;obtain ⟨QB,hQB⟩ : ∃ z,(msgOf s nm).isSome = z := ⟨_,rfl⟩;have HQB : Hid ((msgOf s nm).isSome = QB) := hQB;rw [hQB] at HR ⊢;clear hQB;have alm : ∀ o,Below w2.heap.size w2 (w2.alloc o) := fun o => (Below.refl _ _).alloc (Nat.le_refl _) _
 have hl2 : b0 + 2 < w2.heap.size := BR2.lt;have hl1 : b0 + 1 < w2.heap.size := BT2.lt;have hl0 : b0 < w2.heap.size := BS2.lt
 cases QB with
 | false =>
  have HRN : Hid (R = (tr0,false)) := (by rw [← HR.out,if_neg (fun h => by cases h.2.1)] : R = _);clear HR HPM2 HVC HKS BS2 BT2;have r0 := (BR2.cell 0).trans rfl;have rz0 := BR2.froz 0;have r1 := (BR2.cell 1).trans rfl;have rz1 := BR2.froz 1;have r2 := (BR2.cell 2).trans rfl;have rz2 := BR2.froz 2;have r3 := (BR2.cell 3).trans rfl;have rz3 := BR2.froz 3;have r4 := (BR2.cell 4).trans rfl;have rz4 := BR2.froz 4;go_wp2_with fail
  have hbe : ∀ o,Below w.heap.size w ((set5 w2 (b0 + 2) 0 (.int .i64 0) (.int .i64 0) (.string ⟨#[]⟩) (.slice none 0 0) (.slice none 0 0)).alloc o) := fun o => by
   have h1 := hbw2.trans ((set5_kp w2 (b0 + 2) 0 (.int .i64 0) (.int .i64 0) (.string ⟨#[]⟩) (.slice none 0 0) (.slice none 0 0)).toBelow hbw2.size fun q e => by rw [e,HBZ.out]; omega);exact h1.alloc h1.size _
  unfold set5 at hbe;exact bodyPost_ret (results_two rfl _ _ _ ⟨b0 + 2,0,none⟩ (.agg #[.int .i64 0,.int .i64 0,.string ⟨#[]⟩,.slice none 0 0,.slice none 0 0]) (by go_simp) (by go_simp)) rfl (SeeFP.no HRN.out (hbe _))
 | true =>
  go_upto_region 6 with fail
  have hbw3 := hbw2.trans ((alm (Obj.cells #[.string qn,.slice fa fl fc,.slice ra rl rc] 46)).mono hbw2.size);have BS3 := BS2.below (alm (Obj.cells #[.string qn,.slice fa fl fc,.slice ra rl rc] 46));have BT3 := BT2.below (alm (Obj.cells #[.string qn,.slice fa fl fc,.slice ra rl rc] 46));have BR3 := BR2.below (alm (Obj.cells #[.string qn,.slice fa fl fc,.slice ra rl rc] 46));clear BS2 BT2 BR2 hbw2 alm hl0 hl1 hl2;generalize (w2.alloc (Obj.cells #[.string qn,.slice fa fl fc,.slice ra rl rc] 46)) = W3 at *;rw [HT3.out] at HR;have t0 := (BT3.cell 0).trans rfl;have t1 := (BT3.cell 1).trans rfl;have t2 := (BT3.cell 2).trans rfl;have t3 := (BT3.cell 3).trans rfl;have t4 := (BT3.cell 4).trans rfl
  by_cases hK3 : K = 3
  rotate_left
  ·have d : (K != 3) = true := by simpa using hK3
   have HRN : Hid (R = (tr0,false)) := (by rw [← HR.out,if_neg (fun h => hK3 h.2.2.1)] : R = _);clear hK3 HR HPM2 HVC HKS BS3 BT3 HT3;have r0 := (BR3.cell 0).trans rfl;have rz0 := BR3.froz 0;have r1 := (BR3.cell 1).trans rfl;have rz1 := BR3.froz 1;have r2 := (BR3.cell 2).trans rfl;have rz2 := BR3.froz 2;have r3 := (BR3.cell 3).trans rfl;have rz3 := BR3.froz 3;have r4 := (BR3.cell 4).trans rfl;have rz4 := BR3.froz 4;go_wp2_with fail;have hbe : ∀ W,Below w.heap.size w W → Below w.heap.size w (set5 W (b0 + 2) 0 (.int .i64 0) (.int .i64 0) (.string ⟨#[]⟩) (.slice none 0 0) (.slice none 0 0)) := fun W hW => hW.trans ((set5_kp W (b0 + 2) 0 _ _ _ _ _).toBelow hW.size fun q e => by rw [e,HBZ.out]; omega)
   unfold set5 at hbe;exact bodyPost_ret (results_two rfl _ _ _ ⟨b0 + 2,0,none⟩ (.agg #[.int .i64 0,.int .i64 0,.string ⟨#[]⟩,.slice none 0 0,.slice none 0 0]) (by go_simp) (by go_simp)) rfl (SeeFP.no HRN.out (hbe _ hbw3))
  subst hK3;go_wp2_with fail;refine (HVC.out _ hbw3).mono ?_;rintro e w4 ⟨rfl,hb4⟩;have hbw4 := hbw3.trans (hb4.mono hbw3.size);have BS4 := BS3.below hb4;have BT4 := BT3.below hb4;have BR4 := BR3.below hb4;clear t0 t1 t2 t3 t4 BS3 BT3 BR3 hb4 hbw3 HVC;obtain ⟨CB,hCB⟩ : ∃ z,chkN (n + 1) t = z := ⟨_,rfl⟩;have HCB : Hid (chkN (n + 1) t = CB) := hCB;rw [hCB] at HR ⊢;clear hCB
  cases CB with
  | false =>
   have HRN : Hid (R = (tr0,false)) := (by rw [← HR.out,if_neg (fun h => by cases h.2.2.2)] : R = _);clear HR HPM2 HKS BS4 BT4 HT3 HCB;have r0 := (BR4.cell 0).trans rfl;have rz0 := BR4.froz 0;have r1 := (BR4.cell 1).trans rfl;have rz1 := BR4.froz 1;have r2 := (BR4.cell 2).trans rfl;have rz2 := BR4.froz 2;have r3 := (BR4.cell 3).trans rfl;have rz3 := BR4.froz 3;have r4 := (BR4.cell 4).trans rfl;have rz4 := BR4.froz 4;go_wp2_with fail;have hbe : ∀ W,Below w.heap.size w W → Below w.heap.size w (set5 W (b0 + 2) 0 (.int .i64 0) (.int .i64 0) (.string ⟨#[]⟩) (.slice none 0 0) (.slice none 0 0)) := fun W hW => hW.trans ((set5_kp W (b0 + 2) 0 _ _ _ _ _).toBelow hW.size fun q e => by rw [e,HBZ.out]; omega)
   unfold set5 at hbe;exact bodyPost_ret (results_two rfl _ _ _ ⟨b0 + 2,0,none⟩ (.agg #[.int .i64 0,.int .i64 0,.string ⟨#[]⟩,.slice none 0 0,.slice none 0 0]) (by go_simp) (by go_simp)) rfl (SeeFP.no HRN.out (hbe _ hbw4))
  | true =>
   have HRY : Hid (R = (prM (n + 1) s nm t,true)) := (by rw [← HR.out,if_pos (by simp)] : R = _);have HPW : Hid (∀ W b F,KnP s w W b F → _) := HPM2.out HT3.out HCB.out;have hK5 := HKS.out w4 hbw4;have hl2 : b0 + 2 < w4.heap.size := BR4.lt;have hl1 : b0 + 1 < w4.heap.size := BT4.lt;have hl0 : b0 < w4.heap.size := BS4.lt;have HPX : Hid _ := HPW.out _ _ _ hK5;have s0 := (BS4.cell 0).trans rfl;have s1 := (BS4.cell 1).trans rfl;have s2 := (BS4.cell 2).trans rfl;have s3 := (BS4.cell 3).trans rfl;have t0 := (BT4.cell 0).trans rfl;have t1 := (BT4.cell 1).trans rfl;have t2 := (BT4.cell 2).trans rfl;have t3 := (BT4.cell 3).trans rfl;have t4 := (BT4.cell 4).trans rfl;have al5 : Below w4.heap.size w4 (w4.alloc (.map #[] 0)) := (Below.refl _ _).alloc (Nat.le_refl _) _;have BR5 := BR4.below al5;clear HPM2 HPW HKS HR BS4 BT4 BR4 HCB HT3;generalize prM (n + 1) s nm t = T at *;go_wp2_with fail;refine Calls.mono HPX.out ?_;rintro e w6 ⟨r,G,rfl,hg,hse⟩;obtain ⟨q1,q2,q3,q4,q5,q6,rfl⟩ := trC_open hse.now.trQ.trC
   have hnb : b0 + 2 ≠ w4.heap.size := by omega
   have BR6 := BR5.kp hg.kp hnb;have hnG : ¬ G (b0 + 2) := hg.fresh BR5 fun e => e
   have hk7 := set5_kp w6 (b0 + 2) 0 (.int .i64 T.kind) (.int .i64 T.n) (.string T.s) (.slice q1 q2 q3) (.slice q4 q5 q6);have hFIN : Hid (SeeFP (n + 1) R w (.returned (.tuple #[.agg #[.int .i64 T.kind,.int .i64 T.n,.string T.s,.slice q1 q2 q3,.slice q4 q5 q6],.bool true])) (set5 w6 (b0 + 2) 0 (.int .i64 T.kind) (.int .i64 T.n) (.string T.s) (.slice q1 q2 q3) (.slice q4 q5 q6))) := SeeFP.yes HRY.out (hg.kn.kp hk7 (fun k e => by rw [e,HBZ.out]; omega) (fun e => hnb e.symm) fun k e e2 => hnG (e2 ▸ e)) (hse.stay (Stay.kp hk7 (fun k e => (hg.kn.new k e).2) fun k e e2 => hnG (e2 ▸ e)));unfold set5 at hFIN;have r0 := (BR6.cell 0).trans rfl;have rz0 := BR6.froz 0;have r1 := (BR6.cell 1).trans rfl;have rz1 := BR6.froz 1;have r2 := (BR6.cell 2).trans rfl;have rz2 := BR6.froz 2;have r3 := (BR6.cell 3).trans rfl;have rz3 := BR6.froz 3;have r4 := (BR6.cell 4).trans rfl;have rz4 := BR6.froz 4;clear hse hg hk7 hnG hnb BR5 BR6 HPX hK5 HRY s0 s1 s2 s3 t0 t1 t2 t3 t4 al5 hl0 hl1 hl2;generalize T.kind = TK at *;generalize T.n = TN at *;generalize T.s = TS at *;go_wp2_with fail;refine bodyPost_ret (results_two rfl _ _ _ ⟨b0 + 2,0,none⟩ (.agg #[.int .i64 TK,.int .i64 TN,.string TS,.slice q1 q2 q3,.slice q4 q5 q6]) (by go_simp) (by go_simp)) rfl ?_;exact hFIN.out
end
section
theorem entsB_snoc : ∀ (es : List (Int × List Tr)) (last tg : Int) (ts : List Tr),entsB last es = true → (∀ e ∈ es,e.1 < tg) → last < tg → tg ≤ 500 → 1 ≤ ts.length → ts.length ≤ 64 → (∀ x ∈ ts,∀ y ∈ ts,x.kind = y.kind) → entsB last (es ++ [(tg,ts)]) = true
 | [],last,tg,ts,_,_,h1,h2,h3,h4,h5 => by
  obtain ⟨x,l,rfl⟩ : ∃ x l,ts = x :: l := by
   cases ts with
   | nil => simp at h3
   | cons x l => exact ⟨x,l,rfl⟩
  simp only [List.nil_append,entsB,Bool.and_eq_true,decide_eq_true_eq,List.all_eq_true];refine ⟨⟨⟨⟨⟨h1,h2⟩,h3⟩,h4⟩,fun y hy => ?_⟩,trivial⟩;simp only [List.head?_cons,Option.map_some,Option.getD_some];rw [h5 y hy x (by simp)]
  simp
 | e :: es,last,tg,ts,h0,hl,h1,h2,h3,h4,h5 => by
  simp only [entsB,Bool.and_eq_true] at h0;simp only [List.cons_append,entsB,Bool.and_eq_true];exact ⟨h0.1,entsB_snoc es e.1 tg ts h0.2 (fun x hx => hl x (List.mem_cons_of_mem _ hx)) (hl e (by simp)) h2 h3 h4 h5⟩
theorem filt_le {fs : List FlS} {c d : Int} (h : c ≤ d) : (fs.filter fun f => decide (f.tag < c)).length ≤ (fs.filter fun f => decide (f.tag < d)).length := by
 induction fs with
 | nil => simp
 | cons f l ih =>
  by_cases h1 : f.tag < c
  ·have h2 : f.tag < d := by omega
   simp only [List.filter_cons,h1,h2,decide_true,if_true,List.length_cons]
   omega
  ·by_cases h2 : f.tag < d
   ·simp only [List.filter_cons,h1,h2,decide_true,decide_false,if_true,List.length_cons];simp only [Bool.false_eq_true,if_false]
    omega
   ·simp only [List.filter_cons,h1,h2,decide_false]
    simpa using ih
theorem filt_lt {fs : List FlS} {c : Int} {f : FlS} (hf : f ∈ fs) (ht : f.tag = c) : (fs.filter fun f => decide (f.tag < c)).length + 1 ≤ (fs.filter fun f => decide (f.tag < c + 1)).length := by
 induction fs with
 | nil => cases hf
 | cons g l ih =>
  rcases List.mem_cons.1 hf with rfl | hf
  ·have h1 : ¬ f.tag < c := by omega
   have h2 : f.tag < c + 1 := by omega
   have := filt_le (fs := l) (c := c) (d := c + 1) (by omega);simp only [List.filter_cons,h1,h2,decide_true,decide_false,if_true,List.length_cons];simp only [Bool.false_eq_true,if_false]
   omega
  ·have h0 := ih hf
   by_cases h1 : g.tag < c
   ·have h2 : g.tag < c + 1 := by omega
    simp only [List.filter_cons,h1,h2,decide_true,if_true,List.length_cons]
    omega
   ·by_cases h2 : g.tag < c + 1
    ·simp only [List.filter_cons,h1,h2,decide_true,decide_false,if_true,List.length_cons];simp only [Bool.false_eq_true,if_false]
     omega
    ·simp only [List.filter_cons,h1,h2,decide_false]
     simpa using h0
structure EsT (n : Nat) (s : ScS) (fs : List FlS) (es : List (Int × List Tr)) (tg : Int) : Prop where
 ents : entsB 0 es = true
 tags : ∀ e ∈ es,e.1 < tg
 val : ∀ e ∈ es,entV (msgV n s) fs e = 0
 ok : ∀ x ∈ subs es,okN n x = true
 sm : ∀ e ∈ es,e.2.length ≤ 70 ∧ ∀ x ∈ e.2,SmN n x
 len : es.length ≤ (fs.filter fun f => decide (f.tag < tg)).length
 bare : ∀ e ∈ es,∀ x ∈ e.2,bareN n x
theorem EsT.nil (n : Nat) (s : ScS) (fs : List FlS) (tg : Int) : EsT n s fs [] tg := ⟨rfl,by simp,by simp,by simp [subs],by simp,by simp,by simp⟩
theorem EsT.skip {n : Nat} {s : ScS} {fs : List FlS} {es : List (Int × List Tr)} {tg : Int} (h : EsT n s fs es tg) : EsT n s fs es (tg + 1) :=
 ⟨h.ents,fun e he => by have := h.tags e he; omega,h.val,h.ok,h.sm,Nat.le_trans h.len (filt_le (by omega)),h.bare⟩
theorem errF_zero {α : Type} {f : α → Int} : ∀ {l : List α},(∀ x ∈ l,f x = 0) → errF (l.map f) = 0
 | [],_ => rfl
 | a :: l,h => by
  rw [List.map_cons,errF,if_pos (h a (by simp))];exact errF_zero fun x hx => h x (List.mem_cons_of_mem _ hx)
theorem EsT.push {n : Nat} {s : ScS} {fs : List FlS} {es : List (Int × List Tr)} {tg tag : Int} (h : EsT n s fs es tg) {f : FlS} {ts : List Tr} (h1 : 1 ≤ tg) (h2 : tg ≤ 500) (hf : fldOf fs tag = some f) (htag : tag = tg) (hl1 : 1 ≤ ts.length) (hl3 : ts.length ≤ 3) (hlb : f.label ≠ 3 → ts.length ≤ 1)
  (hx : ∀ x ∈ ts,OneT n s f x ∧ (f.label = 1 → zroB x = false)) : EsT n s fs (es ++ [(tg,ts)]) (tg + 1) := by
 subst htag;have hmem : f ∈ fs ∧ f.tag = tag := ⟨List.mem_of_find?_eq_some hf,by simpa using List.find?_some hf⟩;refine ⟨entsB_snoc es 0 tag ts h.ents h.tags (by omega) h2 hl1 (by omega) (fun x hx' y hy => by rw [(hx x hx').1.kind,(hx y hy).1.kind]),?_,?_,?_,?_,?_,?_⟩
 ·intro e he
  rcases List.mem_append.1 he with he | he
  ·have := h.tags e he; omega
  ·obtain rfl : e = (tag,ts) := by simpa using he
   show tag < tag + 1
   omega
 ·intro e he
  rcases List.mem_append.1 he with he | he
  ·exact h.val e he
  ·obtain rfl : e = (tag,ts) := by simpa using he
   rw [entV];simp only [hf];rw [if_neg (by rintro ⟨q1,q2⟩; have := hlb q1; omega)];refine errF_zero fun x hx' => ?_
   rw [oneV,if_neg (by simp [(hx x hx').1.val]),if_neg];rintro ⟨q1,q2⟩;rw [(hx x hx').2 q1] at q2
   cases q2
 ·intro x hx';obtain ⟨e,he,hxe⟩ := mem_subs.1 hx'
  rcases List.mem_append.1 he with he | he
  ·exact h.ok x (mem_subs.2 ⟨e,he,hxe⟩)
  ·obtain rfl : e = (tag,ts) := by simpa using he
   exact (hx x hxe).1.ok
 ·intro e he
  rcases List.mem_append.1 he with he | he
  ·exact h.sm e he
  ·obtain rfl : e = (tag,ts) := by simpa using he
   exact ⟨by show ts.length ≤ 70; omega,fun x hx' => (hx x hx').1.sm⟩
 ·have := filt_lt hmem.1 hmem.2;have := h.len;simp only [List.length_append,List.length_cons,List.length_nil]
  omega
 ·intro e he x hx'
  rcases List.mem_append.1 he with he | he
  ·exact h.bare e he x hx'
  ·obtain rfl : e = (tag,ts) := by simpa using he
   exact (hx x hx').1.bare
theorem EsT.fit {n : Nat} {s : ScS} {nm : ByteArray} {es : List (Int × List Tr)} {tg : Int} (h : EsT n s ((msgOf s nm).getD zMs).fields es tg) (hf : ((msgOf s nm).getD zMs).fields.length ≤ 40) : FitT (n + 1) s nm ⟨3,0,⟨#[]⟩,es,[]⟩ := by
 refine ⟨rfl,?_,?_,?_,rfl,h.bare⟩
 ·simp only [msgV];rw [errF_zero h.val]
  simp
 ·simp only [okN,lvB,Bool.and_eq_true];refine ⟨?_,?_⟩
  ·simp [h.ents,restB,risesB]
   rfl
  ·simp only [if_true,List.all_eq_true];exact h.ok
 ·exact ⟨Nat.zero_le _,by simp,Nat.le_trans h.len (Nat.le_trans (List.length_filter_le _ _) (Nat.le_trans hf (by decide))),by simp,h.sm⟩
def cntEs (n : Nat) (es : List (Int × List Tr)) : Nat := ((subs es).map (cntN n)).sum
def cntT (n : Nat) (ts : List Tr) : Nat := (ts.map (cntN n)).sum
theorem cntEs_snoc (n : Nat) (es : List (Int × List Tr)) (tg : Int) (ts : List Tr) : cntEs n (es ++ [(tg,ts)]) = cntEs n es + cntT n ts := by simp [cntEs,cntT,subs,List.flatMap_append]
theorem cntT_snoc (n : Nat) (ts : List Tr) (x : Tr) : cntT n (ts ++ [x]) = cntT n ts + cntN n x := by simp [cntT]
theorem cnt_fit (n : Nat) (es : List (Int × List Tr)) : cntN (n + 1) ⟨3,0,⟨#[]⟩,es,[]⟩ = 1 + cntEs n es := rfl
theorem FitT.chk {n : Nat} {s : ScS} {nm : ByteArray} {t : Tr} (h : FitT n s nm t) (hn : n ≤ 10) : chkN n t = true := by
 have := dpN_le n t;simp only [chkN,Bool.and_eq_true,decide_eq_true_eq];exact ⟨by omega,h.ok⟩
end
section
open Go.ChangeShapes Go.WideShapes Go.ChangeAt Go.RowKit
theorem own_apart {w : World} {B B' : Nat} {e e' : TypeId} {s s' : Nat} {v v' : Value} {n n' : Nat} {xs xs' : List Value} (h : w.ownsRow B e s v n xs) (h' : w.ownsRow B' e' s' v' n' xs') (hne : e ≠ e') : ∀ k,v.ownBlock = some k → ¬ v'.ownBlock = some k := by
 intro k hk hk'
 rcases h.2 with ⟨rfl,_⟩ | ⟨q,cap,cur,rfl,_,hb,_⟩
 ·cases hk
 ·rcases h'.2 with ⟨rfl,_⟩ | ⟨q',cap',cur',rfl,_,hb',_⟩
  ·cases hk'
  ·simp only [Value.ownBlock,Option.some.injEq] at hk hk';subst hk;subst hk';rw [hb] at hb';simp only [Option.some.injEq,Obj.cells.injEq] at hb';exact hne hb'.2.1
def msRows (ms : List MsS) (ps : List (Value × Value)) : List (List Value) := List.zipWith (fun m p => [.string m.name,p.1,p.2]) ms ps
def enRows (es : List EnS) (ps : List Value) : List (List Value) := List.zipWith (fun m p => [.string m.name,p]) es ps
structure MsO (w : World) (B : Nat) (v : Value) (ms : List MsS) (ps : List (Value × Value)) : Prop where
 len : ps.length = ms.length
 own : w.ownsRow B 46 3 v ms.length (msRows ms ps).flatten
 each : ∀ (i : Nat) (m : MsS) (p : Value × Value),ms[i]? = some m → ps[i]? = some p → w.ownsRow B 54 5 p.1 m.fields.length (flRows m.fields).flatten ∧ w.ownsRow B 3 1 p.2 m.reserved.length (inRows m.reserved).flatten
 apart : ∀ (i j : Nat) (p q : Value × Value) (k : Nat),ps[i]? = some p → ps[j]? = some q → p.1.ownBlock = some k → q.1.ownBlock = some k → i = j
structure EnO (w : World) (B : Nat) (v : Value) (es : List EnS) (ps : List Value) : Prop where
 len : ps.length = es.length
 own : w.ownsRow B 63 2 v es.length (enRows es ps).flatten
 each : ∀ (i : Nat) (e : EnS) (p : Value),es[i]? = some e → ps[i]? = some p → w.ownsRow B 65 2 p e.values.length (nmRows e.values).flatten
theorem MsO.nil (w : World) (B : Nat) : MsO w B (.slice none 0 0) [] [] := ⟨rfl,World.ownsRow_nil _ _ _ _,fun i m p h => by simp at h,fun i j p q k h => by simp at h⟩
theorem EnO.nil (w : World) (B : Nat) : EnO w B (.slice none 0 0) [] [] := ⟨rfl,World.ownsRow_nil _ _ _ _,fun i m p h => by simp at h⟩
theorem MsO.kp {S : Nat → Prop} {w w1 : World} {B : Nat} {v : Value} {ms : List MsS} {ps : List (Value × Value)} (h : MsO w B v ms ps) (hk : Kp S w w1) (hs : ∀ k,B ≤ k → ¬ S k) : MsO w1 B v ms ps :=
 ⟨h.len,own_kp h.own hk hs,fun i m p hm hp => ⟨own_kp (h.each i m p hm hp).1 hk hs,own_kp (h.each i m p hm hp).2 hk hs⟩,h.apart⟩
theorem EnO.kp {S : Nat → Prop} {w w1 : World} {B : Nat} {v : Value} {ms : List EnS} {ps : List Value} (h : EnO w B v ms ps) (hk : Kp S w w1) (hs : ∀ k,B ≤ k → ¬ S k) : EnO w1 B v ms ps :=
 ⟨h.len,own_kp h.own hk hs,fun i m p hm hp => own_kp (h.each i m p hm hp) hk hs⟩
theorem MsO.beside {w w1 : World} {B B' : Nat} {v u : Value} {ms : List MsS} {ps : List (Value × Value)} {e : TypeId} {s n : Nat} {xs : List Value} (h : MsO w B v ms ps) (hu : w.ownsRow B' e s u n xs) (h1 : e ≠ 46) (h2 : e ≠ 54) (h3 : e ≠ 3) (hk : Kp (fun k => u.ownBlock = some k) w w1) : MsO w1 B v ms ps :=
 ⟨h.len,own_kpV h.own hk (fun k hk hu' => own_apart hu h.own h1 k hu' hk),fun i m p hm hp => ⟨own_kpV (h.each i m p hm hp).1 hk (fun k hk hu' => own_apart hu (h.each i m p hm hp).1 h2 k hu' hk),own_kpV (h.each i m p hm hp).2 hk (fun k hk hu' => own_apart hu (h.each i m p hm hp).2 h3 k hu' hk)⟩,h.apart⟩
theorem get_snoc {α : Type} {l : List α} {x y : α} {i : Nat} (h : (l ++ [x])[i]? = some y) : (i < l.length ∧ l[i]? = some y) ∨ (i = l.length ∧ y = x) := by
 rcases Nat.lt_or_ge i l.length with hi | hi
 ·rw [List.getElem?_append_left hi] at h; exact .inl ⟨hi,h⟩
 ·rw [List.getElem?_append_right hi] at h
  have : i - l.length = 0 := by
   rcases Nat.eq_zero_or_pos (i - l.length) with e | e
   ·exact e
   ·have : [x].length ≤ i - l.length := by simp; omega
    rw [List.getElem?_eq_none this] at h; cases h
  rw [this] at h
  simp at h
  exact .inr ⟨by omega,h.symm⟩
theorem ms_snoc {ms : List MsS} {ps : List (Value × Value)} (hl : ps.length = ms.length) (m : MsS) (p : Value × Value) : (msRows (ms ++ [m]) (ps ++ [p])).flatten = (msRows ms ps).flatten ++ [.string m.name,p.1,p.2] := by
 unfold msRows;rw [List.zipWith_append hl.symm]
 simp
theorem en_snoc {ms : List EnS} {ps : List Value} (hl : ps.length = ms.length) (m : EnS) (p : Value) : (enRows (ms ++ [m]) (ps ++ [p])).flatten = (enRows ms ps).flatten ++ [.string m.name,p] := by
 unfold enRows;rw [List.zipWith_append hl.symm]
 simp
theorem MsO.snoc {w w1 : World} {B H : Nat} {v v' vf vr : Value} {ms : List MsS} {ps : List (Value × Value)} {m : MsS} (h : MsO w B v ms ps) (hH : ∀ (i : Nat) (p : Value × Value) (k : Nat),ps[i]? = some p → p.1.ownBlock = some k → k < H) (hBH : B ≤ H) (hf : w.ownsRow H 54 5 vf m.fields.length (flRows m.fields).flatten) (hr : w.ownsRow H 3 1 vr m.reserved.length (inRows m.reserved).flatten)
  (ho : w1.ownsRow B 46 3 v' (ms.length + 1) ((msRows ms ps).flatten ++ [.string m.name,vf,vr])) (hk : Kp (fun k => v.ownBlock = some k) w w1) : MsO w1 B v' (ms ++ [m]) (ps ++ [(vf,vr)]) := by
 have kf : ∀ {B' : Nat} {u : Value} {n : Nat} {xs : List Value},w.ownsRow B' 54 5 u n xs → w1.ownsRow B' 54 5 u n xs := fun hu => own_kpV hu hk (fun k hk hv => own_apart h.own hu (by decide) k hv hk)
 have kr : ∀ {B' : Nat} {u : Value} {n : Nat} {xs : List Value},w.ownsRow B' 3 1 u n xs → w1.ownsRow B' 3 1 u n xs := fun hu => own_kpV hu hk (fun k hk hv => own_apart h.own hu (by decide) k hv hk)
 refine ⟨by simp [h.len],?_,?_,?_⟩
 ·rw [ms_snoc h.len,List.length_append]; exact ho
 ·intro i m' p hm hp
  rcases get_snoc hm with ⟨hi,hm⟩ | ⟨hi,rfl⟩
  ·rcases get_snoc hp with ⟨_,hp⟩ | ⟨hi',_⟩
   ·exact ⟨kf (h.each i m' p hm hp).1,kr (h.each i m' p hm hp).2⟩
   ·have := h.len; omega
  ·rcases get_snoc hp with ⟨hi',_⟩ | ⟨_,rfl⟩
   ·have := h.len; omega
   ·exact ⟨own_base (kf hf) hBH,own_base (kr hr) hBH⟩
 ·intro i j p q k hp hq hpk hqk
  rcases get_snoc hp with ⟨hi,hp⟩ | ⟨hi,rfl⟩
  ·rcases get_snoc hq with ⟨hj,hq⟩ | ⟨hj,rfl⟩
   ·exact h.apart i j p q k hp hq hpk hqk
   ·have a1 := hH i p k hp hpk;have a2 := (hf.lt k hqk).1
    omega
  ·rcases get_snoc hq with ⟨hj,hq⟩ | ⟨hj,rfl⟩
   ·have a1 := hH j q k hq hqk;have a2 := (hf.lt k hpk).1
    omega
   ·omega
theorem EnO.snoc {w w1 : World} {B H : Nat} {v v' vv : Value} {ms : List EnS} {ps : List Value} {m : EnS} (h : EnO w B v ms ps) (hBH : B ≤ H) (hf : w.ownsRow H 65 2 vv m.values.length (nmRows m.values).flatten)
  (ho : w1.ownsRow B 63 2 v' (ms.length + 1) ((enRows ms ps).flatten ++ [.string m.name,vv])) (hk : Kp (fun k => v.ownBlock = some k) w w1) : EnO w1 B v' (ms ++ [m]) (ps ++ [vv]) := by
 have kf : ∀ {B' : Nat} {u : Value} {n : Nat} {xs : List Value},w.ownsRow B' 65 2 u n xs → w1.ownsRow B' 65 2 u n xs := fun hu => own_kpV hu hk (fun k hk hv => own_apart h.own hu (by decide) k hv hk)
 refine ⟨by simp [h.len],?_,?_⟩
 ·rw [en_snoc h.len,List.length_append]; exact ho
 ·intro i m' p hm hp
  rcases get_snoc hm with ⟨hi,hm⟩ | ⟨hi,rfl⟩
  ·rcases get_snoc hp with ⟨_,hp⟩ | ⟨hi',_⟩
   ·exact kf (h.each i m' p hm hp)
   ·have := h.len; omega
  ·rcases get_snoc hp with ⟨hi',_⟩ | ⟨_,rfl⟩
   ·have := h.len; omega
   ·exact own_base (kf hf) hBH
theorem MsO.high {w : World} {B : Nat} {v : Value} {ms : List MsS} {ps : List (Value × Value)} (h : MsO w B v ms ps) : ∀ (i : Nat) (p : Value × Value) (k : Nat),ps[i]? = some p → p.1.ownBlock = some k → k < w.heap.size := by
 intro i p k hp hk
 have hi : i < ms.length := by rw [← h.len]; exact (List.getElem?_eq_some_iff.1 hp).1
 exact ((h.each i _ p (List.getElem?_eq_getElem hi) hp).1.lt k hk).2
theorem fl_len (fs : List FlS) : ∀ r ∈ flRows fs,r.length = 5 := by intro r hr; simp only [flRows,List.mem_map] at hr; obtain ⟨f,_,rfl⟩ := hr; rfl
theorem en_len (es : List EnS) (ps : List Value) : ∀ r ∈ enRows es ps,r.length = 2 := by
 intro r hr;unfold enRows at hr;rw [List.mem_iff_getElem?] at hr;obtain ⟨i,hi⟩ := hr;rw [List.getElem?_zipWith] at hi
 split at hi <;> simp at hi
 rw [← hi]; rfl
theorem ms_len (es : List MsS) (ps : List (Value × Value)) : ∀ r ∈ msRows es ps,r.length = 3 := by
 intro r hr;unfold msRows at hr;rw [List.mem_iff_getElem?] at hr;obtain ⟨i,hi⟩ := hr;rw [List.getElem?_zipWith] at hi
 split at hi <;> simp at hi
 rw [← hi]; rfl
theorem en_get {es : List EnS} {ps : List Value} {i : Nat} {e : EnS} {p : Value} (he : es[i]? = some e) (hp : ps[i]? = some p) : (enRows es ps)[i]? = some [.string e.name,p] := by
 unfold enRows;rw [List.getElem?_zipWith,he,hp]
theorem ms_get {es : List MsS} {ps : List (Value × Value)} {i : Nat} {e : MsS} {p : Value × Value} (he : es[i]? = some e) (hp : ps[i]? = some p) : (msRows es ps)[i]? = some [.string e.name,p.1,p.2] := by
 unfold msRows;rw [List.getElem?_zipWith,he,hp]
theorem MsO.below {w w1 : World} {B : Nat} {v : Value} {ms : List MsS} {ps : List (Value × Value)} (h : MsO w B v ms ps) (hk : Below w.heap.size w w1) : MsO w1 B v ms ps :=
 ⟨h.len,own_below h.own hk,fun i m p hm hp => ⟨own_below (h.each i m p hm hp).1 hk,own_below (h.each i m p hm hp).2 hk⟩,h.apart⟩
theorem EnO.below {w w1 : World} {B : Nat} {v : Value} {ms : List EnS} {ps : List Value} (h : EnO w B v ms ps) (hk : Below w.heap.size w w1) : EnO w1 B v ms ps :=
 ⟨h.len,own_below h.own hk,fun i m p hm hp => own_below (h.each i m p hm hp) hk⟩
theorem EnO.to_in {w : World} {B : Nat} {v : Value} {ms : List EnS} {ps : List Value} (h : EnO w B v ms ps) : EnIn w v ms := by
 obtain ⟨h1,h2⟩ := RowG.own (en_len ms ps) (by decide) h.own;refine ⟨enRows ms ps,h1,h2.symm,fun i m hm => ?_⟩;have hi := (List.getElem?_eq_some_iff.1 hm).1;obtain ⟨p,hp⟩ : ∃ p,ps[i]? = some p := ⟨_,List.getElem?_eq_getElem (by rw [h.len]; exact hi)⟩;exact ⟨p,en_get hm hp,(RowG.own (fun r hr => by simp only [nmRows,List.mem_map] at hr; obtain ⟨_,_,rfl⟩ := hr; rfl) (by decide) (h.each i m p hm hp)).1⟩
theorem mt_in {w : World} {B : Nat} {v : Value} {ms : List MtS} (h : w.ownsRow B 67 3 v ms.length (mtRows ms).flatten) : RowG w v 3 (mtRows ms) :=
 (RowG.own (fun r hr => by simp only [mtRows,List.mem_map] at hr; obtain ⟨_,_,rfl⟩ := hr; rfl) (by decide) h).1
theorem own_type {w : World} {B : Nat} {e : TypeId} {sz : Nat} {v : Value} {n : Nat} {xs : List Value} {k : Nat} {cs : Array Value} {t : TypeId} (h : w.ownsRow B e sz v n xs) (hk : v.ownBlock = some k) (hb : Blk w k cs t) : e = t := by
 rcases h.2 with ⟨rfl,_⟩ | ⟨q,cap,cur,rfl,_,hq,_⟩
 ·cases hk
 ·simp only [Value.ownBlock,Option.some.injEq] at hk;subst hk;unfold Blk at hb;rw [hq] at hb;simp only [Option.some.injEq,Obj.cells.injEq] at hb;exact hb.2.1
theorem own_blk {w w1 : World} {B : Nat} {e : TypeId} {sz n b : Nat} {v : Value} {xs : List Value} {cs : Array Value} {t : TypeId} (h : w.ownsRow B e sz v n xs) (hb : Blk w b cs t) (ht : e ≠ t) (hk : Kp (fun k => k = b) w w1) : w1.ownsRow B e sz v n xs :=
 own_kpV h hk (fun k hv e' => by subst e'; exact ht (own_type h hv hb))
theorem MsO.base {w : World} {B B' : Nat} {v : Value} {ms : List MsS} {ps : List (Value × Value)} (h : MsO w B v ms ps) (hb : B' ≤ B) : MsO w B' v ms ps :=
 ⟨h.len,own_base h.own hb,fun i m p hm hp => ⟨own_base (h.each i m p hm hp).1 hb,own_base (h.each i m p hm hp).2 hb⟩,h.apart⟩
theorem EnO.base {w : World} {B B' : Nat} {v : Value} {ms : List EnS} {ps : List Value} (h : EnO w B v ms ps) (hb : B' ≤ B) : EnO w B' v ms ps :=
 ⟨h.len,own_base h.own hb,fun i m p hm hp => own_base (h.each i m p hm hp) hb⟩
end
section
def cutF (m : MsS) (j : Nat) : MsS := ⟨m.name,m.fields.eraseIdx j,m.reserved⟩
def setM (s : ScS) (k : Nat) (m : MsS) : ScS := ⟨s.name,s.msgs.set k m,s.enums,s.methods⟩
theorem set_names {s : ScS} {k : Nat} {m m' : MsS} (hk : s.msgs[k]? = some m) (hn : m'.name = m.name) : (setM s k m').mn = s.mn := by
 unfold ScS.mn setM;simp only
 apply List.ext_getElem?
 intro i;simp only [List.getElem?_map,List.getElem?_set]
 by_cases h : k = i
 ·subst h;have hl : k < s.msgs.length := (List.getElem?_eq_some_iff.1 hk).1;have hg : s.msgs[k] = m := (List.getElem?_eq_some_iff.1 hk).2
  simp [hl,hn,hg]
 ·simp [h]
theorem cut_ok {mn en : List ByteArray} {m : MsS} (h : msgOk mn en m) (j : Nat) : msgOk mn en (cutF m j) := by
 have hs : (m.fields.eraseIdx j).Sublist m.fields := List.eraseIdx_sublist _ _;obtain ⟨h1,h2,h3,h4,h5,h6⟩ := h;refine ⟨?_,h2,h3,fun f hf => h4 f (hs.subset hf),h5.sublist (hs.map _),h6.sublist (hs.map _)⟩;unfold bigM at h1 ⊢;have := hs.length_le;simp only [decide_eq_false_iff_not] at h1 ⊢
 show ¬ (16 < (m.fields.eraseIdx j).length ∨ 32 < m.reserved.length)
 omega
theorem drop_ok {s : ScS} {k j : Nat} {m : MsS} (hs : OkS s) (hk : s.msgs[k]? = some m) : OkS (setM s k (cutF m j)) := by
 have hn := set_names (m' := cutF m j) hk rfl;have hm : m ∈ s.msgs := List.mem_of_getElem? hk;refine ⟨hs.name,by simpa [setM] using hs.some,by simpa [setM,bigS] using hs.big,fun x hx => ?_,hs.enums,fun t ht => by rw [hn]; exact hs.meths t ht,by rw [hn]; exact hs.names,hs.enms,fun x hx => by rw [hn]; exact hs.apart x hx,hs.tns⟩;rw [hn]
 rcases List.mem_or_eq_of_mem_set hx with hx | rfl
 ·exact hs.msgs x hx
 ·exact ⟨(hs.msgs m hm).1,cut_ok (hs.msgs m hm).2 j⟩
theorem msgOf_mem {s : ScS} (hs : OkS s) {m : MsS} (hm : m ∈ s.msgs) : msgOf s m.name = some m := by
 unfold msgOf;have hn : (s.msgs.map MsS.name).Nodup := hs.names;generalize s.msgs = l at hm hn
 induction l with
 | nil => cases hm
 | cons a l ih =>
  simp only [List.map_cons,List.nodup_cons] at hn
  rcases List.mem_cons.1 hm with rfl | hm
  ·simp
  ·have : a.name ≠ m.name := fun e => hn.1 (by rw [e]; exact List.mem_map.2 ⟨m,hm,rfl⟩)
   rw [List.find?_cons_of_neg (by simpa using this)];exact ih hm hn.2
theorem msgOf_set {s : ScS} (hs : OkS s) {k j : Nat} {m : MsS} (hk : s.msgs[k]? = some m) : msgOf (setM s k (cutF m j)) m.name = some (cutF m j) := by
 have h1 := drop_ok (j := j) hs hk;have hl : k < s.msgs.length := (List.getElem?_eq_some_iff.1 hk).1;have h2 : cutF m j ∈ (setM s k (cutF m j)).msgs := List.mem_of_getElem? (i := k) (by simp [setM,hl]);exact msgOf_mem h1 h2
theorem msgOf_other {s : ScS} {k j : Nat} {m : MsS} (hk : s.msgs[k]? = some m) {nm : ByteArray} (hn : nm ≠ m.name) : msgOf (setM s k (cutF m j)) nm = msgOf s nm := by
 unfold msgOf setM;simp only;generalize s.msgs = l at hk
 induction l generalizing k with
 | nil => simp at hk
 | cons a l ih =>
  cases k with
  | zero =>
   obtain rfl : a = m := by simpa using hk
   simp only [List.set_cons_zero];have hne : ¬ a.name = nm := fun e => hn e.symm
   rw [List.find?_cons_of_neg (by simp [cutF,hne]),List.find?_cons_of_neg (by simp [hne])]
  | succ k =>
   simp only [List.set_cons_succ,List.find?_cons];rw [ih (by simpa using hk)]
theorem fld_cut {fs : List FlS} (hn : (fs.map FlS.tag).Nodup) {j : Nat} {g : FlS} (hj : fs[j]? = some g) (t : Int) : fldOf (fs.eraseIdx j) t = if t = g.tag then none else fldOf fs t := by
 induction fs generalizing j with
 | nil => simp at hj
 | cons a l ih =>
  simp only [List.map_cons,List.nodup_cons] at hn
  cases j with
  | zero =>
   obtain rfl : a = g := by simpa using hj
   simp only [List.eraseIdx_cons_zero]
   split
   ·rename_i h
    subst h;unfold fldOf;rw [List.find?_eq_none];intro x hx;simp only [decide_eq_true_eq];exact fun e => hn.1 (by rw [← e]; exact List.mem_map.2 ⟨x,hx,rfl⟩)
   ·rename_i h
    unfold fldOf;rw [List.find?_cons_of_neg (by simpa using fun e => h e.symm)]
  | succ j =>
   simp only [List.eraseIdx_cons_succ];have hg : g ∈ l := List.mem_of_getElem? (by simpa using hj)
   by_cases ha : a.tag = t
   ·have hne : t ≠ g.tag := fun e => hn.1 (by rw [ha,e]; exact List.mem_map.2 ⟨g,hg,rfl⟩)
    rw [if_neg hne];unfold fldOf;rw [List.find?_cons_of_pos (by simpa using ha),List.find?_cons_of_pos (by simpa using ha)]
   ·have h1 := ih hn.2 (by simpa using hj);unfold fldOf at h1 ⊢;rw [List.find?_cons_of_neg (by simpa using ha),List.find?_cons_of_neg (by simpa using ha)];exact h1
theorem prM_drop {s : ScS} (hs : OkS s) (hks : ∀ nm m,msgOf s nm = some m → ∀ f ∈ m.fields,1 ≤ f.kind ∧ f.kind ≤ 7) {k j : Nat} {m : MsS} {g : FlS} (hk : s.msgs[k]? = some m) (hj : m.fields[j]? = some g)
  (hno : ∀ x ∈ s.msgs,∀ f ∈ x.fields,f.kind = 7 → f.tname ≠ m.name) {n : Nat} {t : Tr} (h : FitT (n + 1) s m.name t) : prM (n + 1) (setM s k (cutF m j)) m.name t = ⟨3,0,⟨#[]⟩,t.es.filter (fun e => decide (e.1 ≠ g.tag)),[]⟩ := by
 obtain ⟨h1,h2,h3⟩ := fit_ents h;have hmm : m ∈ s.msgs := List.mem_of_getElem? hk;have hm : msgOf s m.name = some m := msgOf_mem hs hmm;have hag : AgrS s (setM s k (cutF m j)) (fun nm => nm ≠ m.name) := ⟨fun nm hn => msgOf_other hk hn,fun nm x _ hx f hf h7 => hno x (List.mem_of_find?_eq_some hx) f hf h7⟩;simp only [prM,msgOf_set (j := j) hs hk,Option.getD_some];rw [hm,Option.getD_some] at h3;have hnd : (m.fields.map FlS.tag).Nodup := (hs.msgs m hmm).2.2.2.2.2.2
 have key : ∀ (es : List (Int × List Tr)),(∀ e ∈ es,e ∈ t.es) → es.filterMap (entP (prM n (setM s k (cutF m j))) (cutF m j).fields) = es.filter (fun e => decide (e.1 ≠ g.tag)) := by
  intro es
  induction es with
  | nil => intro _; rfl
  | cons e l ih =>
   intro hin;have ih' := ih fun x hx => hin x (List.mem_cons_of_mem _ hx)
   have he := hin e (List.mem_cons_self ..)
   by_cases ht : e.1 = g.tag
   ·have h0 : entP (prM n (setM s k (cutF m j))) (cutF m j).fields e = none := by
     unfold entP;rw [show fldOf (cutF m j).fields e.1 = none from by show fldOf (m.fields.eraseIdx j) e.1 = none; rw [fld_cut hnd hj,if_pos ht]]
    rw [List.filterMap_cons_none h0,List.filter_cons_of_neg (by simpa using ht),ih']
   ·obtain ⟨f,q1,q2,q3⟩ := entV_zero (h3 e he);have hfm : f ∈ m.fields := (fldP q1).2
    have h0 : entP (prM n (setM s k (cutF m j))) (cutF m j).fields e = some e := by
     refine entP_keep (f := f) (by show fldOf (m.fields.eraseIdx j) e.1 = some f; rw [fld_cut hnd hj,if_neg ht]; exact q1) q2 (ents_one _ _ h1 e he) fun x hx => ?_
     obtain ⟨r1,r2⟩ := q3 x hx;obtain ⟨o1,o2⟩ := h2 e he x hx;have hbx := h.bare.2 e he x hx;obtain ⟨k1,k2⟩ := oneP_keep (c := setM s k (cutF m j)) (hks _ m hm f hfm) r1 o1 o2 fun h7 hx3 hv => prM_keep hag hks n f.tname x (hno m hmm f hfm h7) (fitT_of hx3 hv o1 o2 hbx) hbx
     exact ⟨k1,k2,r2⟩
    rw [List.filterMap_cons_some h0,List.filter_cons_of_pos (by simpa using ht),ih']
 rw [key t.es fun _ h => h]
end
section
open Go.ChangeShapes Go.WideShapes Go.ChangeAt Go.RowKit
theorem flat_set3 : ∀ {rs : List (List Value)} (_ : ∀ r ∈ rs,r.length = 3) {k : Nat} {r : List Value} (_ : rs[k]? = some r) (x : Value),rs.flatten.set (k * 3 + 1) x = (rs.set k (r.set 1 x)).flatten
 | [],_,k,r,h,x => by simp at h
 | a :: rs,hl,0,r,h,x => by
  simp only [List.getElem?_cons_zero,Option.some.injEq] at h;subst h;have h3 := hl a (List.mem_cons_self ..);rw [List.flatten_cons,List.set_cons_zero,List.flatten_cons,List.set_append,if_pos (by omega)]
 | a :: rs,hl,k + 1,r,h,x => by
  simp only [List.getElem?_cons_succ] at h;have h3 := hl a (List.mem_cons_self ..);have ih := flat_set3 (fun q hq => hl q (List.mem_cons_of_mem _ hq)) h x;rw [List.flatten_cons,List.set_cons_succ,List.flatten_cons,List.set_append,if_neg (by omega),← ih,h3]
  congr 2
  omega
theorem MsO.setF {w : World} {B gm n cap B' k : Nat} {ms : List MsS} {ps : List (Value × Value)} {m : MsS} {vf' : Value} {fs : List FlS} (h : MsO w B (.slice (some ⟨gm,0,none⟩) n cap) ms ps) (hm : ms[k]? = some m) (hf : w.ownsRow B' 54 5 vf' fs.length (flRows fs).flatten) :
  MsIn (w.setCell ⟨gm,k * 3 + 1,none⟩ vf') (.slice (some ⟨gm,0,none⟩) n cap) (ms.set k ⟨m.name,fs,m.reserved⟩) := by
 have hk := (List.getElem?_eq_some_iff.1 hm).1
 obtain rfl : n = ms.length := by
  rcases h.own.2 with ⟨e,_⟩ | ⟨q,cap',cur,e,_⟩
  ·cases e
  ·simp only [Value.slice.injEq] at e;exact e.2.1
 obtain ⟨p,hp⟩ : ∃ p,ps[k]? = some p := ⟨_,List.getElem?_eq_getElem (by rw [h.len]; exact hk)⟩;have hrow := ms_get hm hp;have h1 := (h.own.stored (k * 3 + 1) vf').1;rw [flat_set3 (ms_len ms ps) hrow] at h1
 have hl' : ∀ r ∈ (msRows ms ps).set k ([.string m.name,p.1,p.2].set 1 vf'),r.length = 3 := fun r hr => by
  rcases List.mem_or_eq_of_mem_set hr with hr | rfl
  ·exact ms_len ms ps r hr
  ·rfl
 have hg := RowG.own hl' (by decide) h1
 have hlen : (msRows ms ps).length = ms.length := by simp [msRows,h.len]
 obtain ⟨cs,hB⟩ : ∃ cs,Blk w gm cs 46 := by
  rcases h.own.2 with ⟨e,_⟩ | ⟨q,cap',cur,e,_,hq,_⟩
  ·cases e
  ·simp only [Value.slice.injEq,Option.some.injEq,Addr.mk.injEq] at e;obtain ⟨⟨rfl, -⟩, -⟩ := e;exact ⟨_,hq⟩
 have hkp : Kp (fun q => q = gm) w (w.setCell ⟨gm,k * 3 + 1,none⟩ vf') := by
  refine Kp.setCell ?_ (fun _ => by simp) _;exact Kp.refl _ _
 have hfl : RowG (w.setCell ⟨gm,k * 3 + 1,none⟩ vf') vf' 5 (flRows fs) := (RowG.own (fl_len fs) (by decide) (own_blk hf hB (by decide) hkp)).1
 have hin : ∀ (l : List Int),∀ r ∈ inRows l,r.length = 1 := fun l r hr => by simp only [inRows,List.mem_map] at hr; obtain ⟨_,_,rfl⟩ := hr; rfl
 refine ⟨_,hg.1,by rw [List.length_set,List.length_set,hlen],fun i m' hm' => ?_⟩
 by_cases hik : i = k
 ·subst hik;rw [List.getElem?_set_self hk] at hm';simp only [Option.some.injEq] at hm';subst hm';refine ⟨vf',p.2,by rw [List.getElem?_set_self (by rw [hlen]; exact hk)]; rfl,hfl,?_⟩;exact (RowG.own (hin _) (by decide) (own_blk (h.each i m p hm hp).2 hB (by decide) hkp)).1
 ·rw [List.getElem?_set_ne (fun e => hik e.symm)] at hm';have hi := (List.getElem?_eq_some_iff.1 hm').1;obtain ⟨q,hq⟩ : ∃ q,ps[i]? = some q := ⟨_,List.getElem?_eq_getElem (by rw [h.len]; exact hi)⟩;refine ⟨q.1,q.2,by rw [List.getElem?_set_ne (fun e => hik e.symm)]; exact ms_get hm' hq,?_,?_⟩
  ·exact (RowG.own (fl_len _) (by decide) (own_blk (h.each i m' q hm' hq).1 hB (by decide) hkp)).1
  ·exact (RowG.own (hin _) (by decide) (own_blk (h.each i m' q hm' hq).2 hB (by decide) hkp)).1
theorem msW_cut {m : MsS} (h : MsW m) (j : Nat) : MsW (cutF m j) := by
 obtain ⟨h1,h2,h3⟩ := h;exact ⟨h1,fun f hf => h2 f (List.mem_of_mem_eraseIdx hf),h3⟩
theorem setM_few {s : ScS} {k j : Nat} {m : MsS} (h : FewL s) (hm : s.msgs[k]? = some m) : FewL (setM s k (cutF m j)) := by
 have hm' := List.mem_of_getElem? hm;refine ⟨?_,h.enums,h.meths,fun x hx => ?_,h.vals⟩
 ·show (s.msgs.set k _).length ≤ 14
  rw [List.length_set]; exact h.msgs
 ·rcases List.mem_or_eq_of_mem_set hx with hx | rfl
  ·exact h.flds x hx
  ·exact ⟨Nat.le_trans (by show (m.fields.eraseIdx j).length ≤ m.fields.length; exact List.length_eraseIdx_le ..) (h.flds m hm').1,(h.flds m hm').2⟩
theorem setM_w {s : ScS} {k j : Nat} {m : MsS} (h : ScW s) (hm : s.msgs[k]? = some m) : ScW (setM s k (cutF m j)) := by
 have hm' := List.mem_of_getElem? hm;refine ⟨h.name,fun x hx => ?_,h.enums,h.meths⟩
 rcases List.mem_or_eq_of_mem_set hx with hx | rfl
 ·exact h.msgs x hx
 ·exact msW_cut (h.msgs m hm') j
theorem drop_rows (fs : List FlS) (j : Nat) : (flRows (fs.take j)).flatten ++ (flRows (fs.drop (j + 1))).flatten = (flRows (fs.eraseIdx j)).flatten := by
 rw [List.eraseIdx_eq_take_drop_succ]
 simp [flRows]
theorem fl_flat (l : List FlS) : (flRows l).flatten.length = l.length * 5 := by
 induction l with
 | nil => rfl
 | cons a l ih =>
  have : (flRows (a :: l)).flatten = a.cells ++ (flRows l).flatten := by simp [flRows]
  rw [this,List.length_append,ih,List.length_cons]
  show 5 + _ = _
  omega
theorem fl_one (l : List FlS) : ∀ u ∈ (flRows l).flatten,u.oneCell' = true := fun u hu => by
 obtain ⟨r,hr,hu⟩ := List.mem_flatten.1 hu;simp only [flRows,List.mem_map] at hr;obtain ⟨f,_,rfl⟩ := hr;simp only [FlS.cells,List.mem_cons,List.not_mem_nil,or_false] at hu
 rcases hu with rfl | rfl | rfl | rfl | rfl <;> rfl
theorem fl_cut (l : List FlS) (j : Nat) : (flRows l).flatten = (flRows (l.take j)).flatten ++ (flRows (l.drop j)).flatten := by
 have : flRows l = flRows (l.take j) ++ flRows (l.drop j) := by
  show l.map _ = (l.take j).map _ ++ (l.drop j).map _
  rw [← List.map_append,List.take_append_drop]
 rw [this,List.flatten_append]
section
variable {w W : World} {B gf nf cf j : Nat} {fs : List FlS}
theorem cutF_one (h : w.ownsRow B 54 5 (.slice (some ⟨gf,0,none⟩) nf cf) nf (flRows fs).flatten) (hb : Below w.heap.size w W) (hj : j ≤ nf) (hn : nf ≤ 20) (hl : fs.length = nf) (cz : Nat) :
  ∃ a1 c1 W1,(Builtin.append_ #[44,44] 44 #[.slice none 0 0,.slice (some ⟨gf,0,none⟩) j cz]).run Try.prog W = .ok (.slice a1 j c1) W1 ∧ W1.ownsRow W.heap.size 54 5 (.slice a1 j c1) j (flRows (fs.take j)).flatten ∧ Below W.heap.size W W1 := by
 obtain ⟨i0,hi0,hz0,hz1,hz2⟩ := info_parts infoFl
 have hlen : (flRows (fs.take j)).flatten.length = j * 5 := by rw [fl_flat,List.length_take,hl]; congr 1; omega
 have hW := own_below h hb
 obtain ⟨v',W',r1,r2,r3,_,r5⟩ := run_append_own_at (w := W) W.heap.size 44 44 54 i0 _ 5 56 Try.underlying44 hi0 hz0 hz1 hz2 rfl (by decide) (.slice none 0 0) 0 [] (World.ownsRow_nil _ _ _ _) ⟨gf,0,none⟩ j cz (flRows (fs.take j)).flatten hlen (fun q u hu => by
  have hq : q < j * 5 := by rw [← hlen]; exact (List.getElem?_eq_some_iff.1 hu).1
  rw [Addr.add_lit,Nat.zero_add,hW.cellAt q (by omega),fl_cut fs j,List.getElem?_append_left (by rw [hlen]; exact hq)]
  exact hu) (fl_one _) (by unfold maxLen; omega) (by omega) (Nat.le_refl _)
 rw [Nat.zero_add,List.nil_append] at r2;obtain ⟨a,c,rfl⟩ := own_form r2;exact ⟨a,c,W',r1,r2,(Below.refl _ _).grown r3 (Nat.le_refl _) (fun k hk => by cases hk)⟩
theorem cutF_two {B' : Nat} {v1 : Value} (h : w.ownsRow B 54 5 (.slice (some ⟨gf,0,none⟩) nf cf) nf (flRows fs).flatten) (hb : Below w.heap.size w W) (hj : j < nf) (hn : nf ≤ 20) (hl : fs.length = nf) (h1 : W.ownsRow B' 54 5 v1 j (flRows (fs.take j)).flatten) (hB : B' ≤ W.heap.size) (cz oa : Nat) (ho : nf = j + 1 ∨ oa = (j + 1) * 5) :
  ∃ a2 c2 W2,(Builtin.append_ #[44,44] 44 #[v1,.slice (some ⟨gf,oa,none⟩) (nf - (j + 1)) cz]).run Try.prog W = .ok (.slice a2 (nf - 1) c2) W2 ∧ W2.ownsRow B' 54 5 (.slice a2 (nf - 1) c2) (fs.eraseIdx j).length (flRows (fs.eraseIdx j)).flatten ∧ Below B' W W2 := by
 obtain ⟨i0,hi0,hz0,hz1,hz2⟩ := info_parts infoFl
 have hlen : (flRows (fs.drop (j + 1))).flatten.length = (nf - (j + 1)) * 5 := by rw [fl_flat,List.length_drop,hl]
 have hlt : (flRows (fs.take (j + 1))).flatten.length = (j + 1) * 5 := by rw [fl_flat,List.length_take,hl]; congr 1; omega
 have hW := own_below h hb
 obtain ⟨v',W',r1,r2,r3,_,r5⟩ := run_append_own_at (w := W) B' 44 44 54 i0 _ 5 56 Try.underlying44 hi0 hz0 hz1 hz2 rfl (by decide) v1 j _ h1 ⟨gf,oa,none⟩ (nf - (j + 1)) cz (flRows (fs.drop (j + 1))).flatten hlen (fun q u hu => by
  have hq : q < (nf - (j + 1)) * 5 := by rw [← hlen]; exact (List.getElem?_eq_some_iff.1 hu).1
  rcases ho with ho | rfl
  ·omega
  rw [Addr.add_lit,hW.cellAt ((j + 1) * 5 + q) (by omega),fl_cut fs (j + 1),List.getElem?_append_right (by rw [hlt]; omega),hlt,Nat.add_sub_cancel_left]
  exact hu) (fl_one _) (by unfold maxLen; omega) (by omega) hB
 rw [drop_rows,show j + (nf - (j + 1)) = nf - 1 from by omega] at r2
 have hle : (fs.eraseIdx j).length = nf - 1 := by rw [List.length_eraseIdx,if_pos (by rw [hl]; exact hj),hl]
 obtain ⟨a,c,rfl⟩ := own_form r2;refine ⟨a,c,W',r1,by rw [hle]; exact r2,(Below.refl _ _).grown r3 hB (fun k hk => (own_lt h1 hk).1)⟩
end
def WantS (n bw : Nat) (v : Value) (es : List (Int × List Tr)) (w0 w : World) : Prop := Blk w bw #[.int .i64 3,.int .i64 0,.string ⟨#[]⟩,v,.slice none 0 0] 30 ∧ ∃ K : List (List Value),w.ownsRow (bw + 1) 57 2 v es.length K.flatten ∧ K.length = es.length ∧ (∀ r ∈ K,r.length = 2) ∧ ∀ (i : Nat) (x : Int × List Tr),es[i]? = some x → ∃ r,K[i]? = some r ∧ EnC (TrC n w0) w0 r x
section
variable {n bw bz : Nat} {v vt : Value} {es : List (Int × List Tr)} {x : Int × List Tr} {w0 w W : World}
theorem WantS.nil (hb : Blk w bw #[.int .i64 3,.int .i64 0,.string ⟨#[]⟩,.slice none 0 0,.slice none 0 0] 30) : WantS n bw (.slice none 0 0) [] w0 w := ⟨hb,[],World.ownsRow_nil _ _ _ _,rfl,by simp,by simp⟩
theorem WantS.push (h : WantS n bw v es w0 w) (hb : Below w.heap.size w W) {tag : Int} (hx : EnC (TrC n w0) w0 [.int .i64 tag,vt] x) (ho : vt.oneCell' = true) (BZ : Blk W bz #[.int .i64 tag,vt] 57) (hn : es.length ≤ 1000) :
  ∃ a c W',(Builtin.append_ #[27,27] 27 #[v,.slice (some ⟨bz,0,none⟩) 1 1]).run Try.prog W = .ok (.slice a (es.length + 1) c) W' ∧ Blk W' bw #[.int .i64 3,.int .i64 0,.string ⟨#[]⟩,v,.slice none 0 0] 30 ∧
   WantS n bw (.slice a (es.length + 1) c) (es ++ [x]) w0 (W'.setCell ⟨bw,3,none⟩ (.slice a (es.length + 1) c)) ∧ Kp (fun q => bw < q) W W' ∧ Kp (fun q => bw ≤ q) w (W'.setCell ⟨bw,3,none⟩ (.slice a (es.length + 1) c)) := by
 obtain ⟨h1,K,h2,h3,h4,h5⟩ := h;have hbt := h1.lt;obtain ⟨i0,hi0,hz0,hz1,hz2⟩ := info_parts infoEt;have hW := own_below h2 hb
 obtain ⟨v',W',r1,r2,r3,_,r5⟩ := run_append_own_at (w := W) (bw + 1) 27 27 57 i0 _ 2 32 Try.underlying27 hi0 hz0 hz1 hz2 rfl (by decide) v es.length _ hW ⟨bz,0,none⟩ 1 1 [.int .i64 tag,vt] rfl (fun j u hu => by
  have := BZ.cell j;rw [Addr.add_lit,Nat.zero_add,this]
  simpa using hu) (fun u hu => by
  simp only [List.mem_cons,List.not_mem_nil,or_false] at hu
  rcases hu with rfl | rfl
  ·rfl
  ·exact ho) (by unfold maxLen; omega) (by omega) (Nat.le_trans hbt hb.size)
 obtain ⟨a,c,rfl⟩ := own_form r2;have hbv : ∀ q,v.ownBlock = some q → bw + 1 ≤ q := fun q hq => (own_lt h2 hq).1
 have k4 : Kp (fun q => bw < q) W W' := (Kp.refl _ _).grown r3 (fun k hk _ => hbv k hk)
 have k5 : Kp (fun q => q = bw) W' (W'.setCell ⟨bw,3,none⟩ (.slice a (es.length + 1) c)) := by
  refine Kp.setCell ?_ (fun _ => by simp) _;exact Kp.refl _ _
 have B' := (h1.below hb).kp k4 (by omega);refine ⟨a,c,W',r1,B',⟨B'.set 3 _ rfl,K ++ [[.int .i64 tag,vt]],?_,by simp [h3],fun r hr => ?_,fun i y hy => ?_⟩,k4,?_⟩
 ·have e9 : (K ++ [[.int .i64 tag,vt]]).flatten = K.flatten ++ [.int .i64 tag,vt] := by simp
  rw [e9,List.length_append];refine own_sm r2 (k5.sm fun q hq => ⟨(own_lt r2 (mem_blkOf.1 hq)).2,fun e => by have := (own_lt r2 (mem_blkOf.1 hq)).1; omega⟩)
 ·rcases List.mem_append.1 hr with hr | hr
  ·exact h4 r hr
  ·obtain rfl := List.mem_singleton.1 hr; rfl
 ·by_cases hi : i < es.length
  ·rw [List.getElem?_append_left hi] at hy;obtain ⟨r,e1,e2⟩ := h5 i y hy;exact ⟨r,by rw [List.getElem?_append_left (by omega)]; exact e1,e2⟩
  ·rw [List.getElem?_append_right (by omega)] at hy
   obtain ⟨hi0',rfl⟩ : i - es.length = 0 ∧ x = y := by
    cases hq : i - es.length with
    | zero => rw [hq] at hy; simpa using hy
    | succ q => rw [hq] at hy; simp at hy
   exact ⟨_,by rw [List.getElem?_append_right (by omega),h3,hi0']; rfl,hx⟩
 ·exact ((Kp.ofBelow hb).trans2 (k4.weak (S' := fun q => bw ≤ q) fun q _ hq => by omega) fun _ _ hi => hi).trans2 (k5.weak (S' := fun q => bw ≤ q) fun q _ hq => by omega) fun _ _ hi => hi
theorem WantS.done (h : WantS n bw v es w0 w) (hb : Below w0.heap.size w0 w) : TrIn (n + 1) w (.agg #[.int .i64 3,.int .i64 0,.string ⟨#[]⟩,v,.slice none 0 0]) ⟨3,0,⟨#[]⟩,es,[]⟩ := by
 obtain ⟨h1,K,h2,h3,h4,h5⟩ := h;refine ⟨_,rfl,v,.slice none 0 0,rfl,by show Is64 3; unfold Is64; omega,by show Is64 0; unfold Is64; omega,by show (ByteArray.mk #[]).size ≤ _; decide,(fun f hf => by cases hf),RowG.nil w 4,⟨K,(RowG.own h4 (by decide) h2).1,h3,fun i x hx => ?_⟩⟩;obtain ⟨r,e1,vt,e2,e3,e4⟩ := h5 i x hx;exact ⟨r,e1,vt,e2,e3,e4.mono hb fun r x _ hp => hp.below hb⟩
end
theorem kept_cellW {w : World} {a : Addr} {u : Value} (h : w.cell? a = some u) (x : Kept w.heap.size w) : x.w.cell? a = some u := by
 rw [x.below.cell (World.block_lt_of_cell? _ _ h)]; exact h
theorem pjawake_any (w : World) : Calls Try.prog 9 #[] w fun e w' => e = .returned (.bool true) ∧ Below w.heap.size w w' := by
 have c1 : Hid (∀ W,Calls Try.prog 19 #[.int .i64 1099511627776] W fun e w' => e = .returned (.int .i64 2147483647) ∧ Below W.heap.size W w') := fun W => clamp_any 1099511627776 W
 have c2 : Hid (∀ W,Calls Try.prog 19 #[.int .i64 (-1099511627776)] W fun e w' => e = .returned (.int .i64 (-2147483648)) ∧ Below W.heap.size W w') := fun W => clamp_any (-1099511627776) W
 have c3 : Hid (∀ W,Calls Try.prog 19 #[.int .i64 5] W fun e w' => e = .returned (.int .i64 5) ∧ Below W.heap.size W w') := fun W => clamp_any 5 W
 go_enter Try.func9,Try.ntmps9
 go_wp2_with fail;refine (c1.out _).mono ?_;rintro e w1 ⟨rfl,h1⟩;go_wp2_with fail;refine (c2.out _).mono ?_;rintro e w2 ⟨rfl,h2⟩;have h2' := h1.trans (h2.mono h1.size);clear h2;go_wp2_with fail;refine (c3.out _).mono ?_;rintro e w3 ⟨rfl,h3⟩;have h3' := h2'.trans (h3.mono h2'.size);clear h3;go_wp2_with fail;go_ret;exact ⟨rfl,h3'⟩
theorem rzero_any (t : Tr) (a1 a2 : Option Addr) (n1 c1 n2 c2 : Nat) (w : World) (h1 : n1 = t.es.length) (h2 : n2 = t.rest.length) : Calls Try.prog 65 #[.agg #[.int .i64 t.kind,.int .i64 t.n,.string t.s,.slice a1 n1 c1,.slice a2 n2 c2]] w fun e w' => e = .returned (.bool (zroB t)) ∧ Below w.heap.size w w' := by
 have hb : Below w.heap.size w (w.alloc (Obj.cells #[.int .i64 t.kind,.int .i64 t.n,.string t.s,.slice a1 n1 c1,.slice a2 n2 c2] 30)) := (Below.refl _ _).alloc (Nat.le_refl _) _
 have hz : zroB t = (decide (t.kind = 1 ∨ t.kind = 2 ∨ t.kind = 3) && decide (t.n = 0) && decide (t.s.size = 0) && decide (n1 = 0) && decide (n2 = 0)) := by rw [zroB,h1,h2]
 rw [hz];clear hz h1 h2;generalize t.kind = K at *;generalize t.n = N at *;generalize t.s = S at *
 have kk : K = 1 ∨ K = 2 ∨ K = 3 ∨ (¬ K = 1 ∧ ¬ K = 2 ∧ ¬ K = 3) := by omega
 rcases kk with rfl | rfl | rfl | ⟨h1,h2,h3⟩
 ·by_cases hN : N = 0
  ·subst hN
   by_cases hS : S.size = 0
   ·obtain rfl := size_empty hS
    by_cases h1 : n1 = 0
    ·subst h1
     by_cases h2 : n2 = 0
     ·subst h2
      go_enter Try.func65,Try.ntmps65
      go_wp2_with fail;go_ret;exact ⟨rfl,hb⟩
     ·have d2 : ((n2 : Int) == 0) = false := by simp; omega
      simp only [decide_eq_false h2,Bool.and_false];clear h2
      go_enter Try.func65,Try.ntmps65
      go_wp2_with fail;go_ret;exact ⟨rfl,hb⟩
    ·have d1 : ((n1 : Int) == 0) = false := by simp; omega
     simp only [decide_eq_false h1,Bool.and_false,Bool.false_and];clear h1
     go_enter Try.func65,Try.ntmps65
     go_wp2_with fail;go_ret;exact ⟨rfl,hb⟩
   ·have dS : (S.toList == ([] : List UInt8)) = false := by rw [ByteArray.toList_eq]; simp; intro e; exact hS (by rw [← ByteArray.size_data,e]; rfl)
    simp only [decide_eq_false hS,Bool.and_false,Bool.false_and];clear hS
    go_enter Try.func65,Try.ntmps65
    go_wp2_with fail;go_ret;exact ⟨rfl,hb⟩
  ·have dN : (N == 0) = false := by simpa using hN
   simp only [decide_eq_false hN,Bool.and_false,Bool.false_and];clear hN
   go_enter Try.func65,Try.ntmps65
   go_wp2_with fail;go_ret;exact ⟨rfl,hb⟩
 ·by_cases hN : N = 0
  ·subst hN
   by_cases hS : S.size = 0
   ·obtain rfl := size_empty hS
    by_cases h1 : n1 = 0
    ·subst h1
     by_cases h2 : n2 = 0
     ·subst h2
      go_enter Try.func65,Try.ntmps65
      go_wp2_with fail;go_ret;exact ⟨rfl,hb⟩
     ·have d2 : ((n2 : Int) == 0) = false := by simp; omega
      simp only [decide_eq_false h2,Bool.and_false];clear h2
      go_enter Try.func65,Try.ntmps65
      go_wp2_with fail;go_ret;exact ⟨rfl,hb⟩
    ·have d1 : ((n1 : Int) == 0) = false := by simp; omega
     simp only [decide_eq_false h1,Bool.and_false,Bool.false_and];clear h1
     go_enter Try.func65,Try.ntmps65
     go_wp2_with fail;go_ret;exact ⟨rfl,hb⟩
   ·have dS : (S.toList == ([] : List UInt8)) = false := by rw [ByteArray.toList_eq]; simp; intro e; exact hS (by rw [← ByteArray.size_data,e]; rfl)
    simp only [decide_eq_false hS,Bool.and_false,Bool.false_and];clear hS
    go_enter Try.func65,Try.ntmps65
    go_wp2_with fail;go_ret;exact ⟨rfl,hb⟩
  ·have dN : (N == 0) = false := by simpa using hN
   simp only [decide_eq_false hN,Bool.and_false,Bool.false_and];clear hN
   go_enter Try.func65,Try.ntmps65
   go_wp2_with fail;go_ret;exact ⟨rfl,hb⟩
 ·by_cases hN : N = 0
  ·subst hN
   by_cases hS : S.size = 0
   ·obtain rfl := size_empty hS
    by_cases h1 : n1 = 0
    ·subst h1
     by_cases h2 : n2 = 0
     ·subst h2
      go_enter Try.func65,Try.ntmps65
      go_wp2_with fail;go_ret;exact ⟨rfl,hb⟩
     ·have d2 : ((n2 : Int) == 0) = false := by simp; omega
      simp only [decide_eq_false h2,Bool.and_false];clear h2
      go_enter Try.func65,Try.ntmps65
      go_wp2_with fail;go_ret;exact ⟨rfl,hb⟩
    ·have d1 : ((n1 : Int) == 0) = false := by simp; omega
     simp only [decide_eq_false h1,Bool.and_false,Bool.false_and];clear h1
     go_enter Try.func65,Try.ntmps65
     go_wp2_with fail;go_ret;exact ⟨rfl,hb⟩
   ·have dS : (S.toList == ([] : List UInt8)) = false := by rw [ByteArray.toList_eq]; simp; intro e; exact hS (by rw [← ByteArray.size_data,e]; rfl)
    simp only [decide_eq_false hS,Bool.and_false,Bool.false_and];clear hS
    go_enter Try.func65,Try.ntmps65
    go_wp2_with fail;go_ret;exact ⟨rfl,hb⟩
  ·have dN : (N == 0) = false := by simpa using hN
   simp only [decide_eq_false hN,Bool.and_false,Bool.false_and];clear hN
   go_enter Try.func65,Try.ntmps65
   go_wp2_with fail;go_ret;exact ⟨rfl,hb⟩
 ·have hk : decide (K = 1 ∨ K = 2 ∨ K = 3) = false := by simp [h1,h2,h3]
  simp only [hk,Bool.false_and]
  rcases (by omega : K < 1 ∨ (1 ≤ K ∧ 3 < K)) with h5 | ⟨h5,h6⟩
  ·have e1 : decide (1 ≤ K) = false := by simp; omega
   clear h1 h2 h3 hk
   go_enter Try.func65,Try.ntmps65
   go_wp2_with fail;go_ret;exact ⟨rfl,hb⟩
  ·have e1 : decide (1 ≤ K) = true := by simp; omega
   have e2 : decide (K ≤ 3) = false := by simp; omega
   clear h1 h2 h3 hk
   go_enter Try.func65,Try.ntmps65
   go_wp2_with fail;go_ret;exact ⟨rfl,hb⟩
end
end Go.Proofs.Ytmgbhicogmclgaa
